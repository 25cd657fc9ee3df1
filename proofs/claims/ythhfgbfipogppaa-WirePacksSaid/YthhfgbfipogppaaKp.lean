/-
  Known; names told again; the statement about names that are told twice.
-/
import Derived.Test.YthhfgbfipogppaaKo
import Derived.Test.YthhfgbfipogppaaBPick
import Derived.Test.YthhfgbfipogppaaBSame
import Derived.Deep.RegionHeld3
import Derived.Outline
namespace Go.Proofs.Ythhfgbfipogppaa
open Go.RowKit Go.Shelf
set_option linter.unusedVariables false

set_option maxHeartbeats 400000 in
theorem known_any {w : World} {p bm e : Nat} {K : List (List UInt8 × Nat)} (h : Pk w p bm K e) : Calls Try.prog 21 #[.pointer (some ⟨p, 0, none⟩)] w fun x w' => x = .returned (.int .i64 K.length) ∧ w = w' := by
  have HM := Lib.hid (made_yes p w h.self)
  have c1 := h.tails
  have hlen := h.map.len
  go_enter Try.func21, Try.ntmps21
  go_wp2_with fail
  refine HM.out.mono ?_; rintro e w1 ⟨rfl, rfl⟩
  go_wp2_with fail
  go_ret
  exact ⟨rfl, rfl⟩

theorem hdn_nil (ls : List (List UInt8)) : hdn [] ls = ls.length := by
  induction ls with
  | nil => rfl
  | cons l r ih => unfold hdn; rw [if_neg (by simp [plc]), ih]; rfl
theorem told_nil (ls : List (List UInt8)) : told [] ls = nm ls := by
  unfold told
  rw [hdn_nil, List.take_length, List.drop_length]
  rfl
theorem fr_all {ls : List (List UInt8)} {a : Nat} (h : a + (wire ls).length < 16384) : ∀ k, k ≤ ls.length → (fr a ls k).length = k ∧ ∀ j, j < k → plc (fr a ls k) (nm (ls.drop j)) = some (a + pos ls j) := by
  intro k
  induction k with
  | zero => intro _; exact ⟨by rw [fr_zero]; rfl, fun j hj => by omega⟩
  | succ k ih =>
    intro hk
    obtain ⟨h1, h2⟩ := ih (by omega)
    have hf : a + pos ls k < 16384 := by have := pos_le ls k; omega
    rw [fr_succ ls a k (by omega), if_pos hf]
    refine ⟨by rw [List.length_append, h1]; rfl, fun j hj => ?_⟩
    rw [plc_app]
    by_cases e : j = k
    · subst e
      have := fr_fresh (K := []) (ls := ls) (at_ := a) (k := j) (by omega) (by simp [plc])
      rw [List.nil_append] at this
      rw [this, Option.none_or, plc_one, if_pos rfl]
    · rw [h2 j (by omega)]; rfl
theorem len_wire2 {ls : List (List UInt8)} (h : ∀ x ∈ ls, 0 < x.length ∧ x.length ≤ 63) : 2 * ls.length ≤ (wire ls).length := by
  induction ls with
  | nil => simp
  | cons x r ih =>
    have h1 := h x List.mem_cons_self
    have h2 := ih fun y hy => h y (List.mem_cons_of_mem _ hy)
    simp [wire]
    omega
theorem told_root {K : List (List UInt8 × Nat)} (h : GoodK K) : told K [] = [0] := by
  have := good_root h
  unfold told restb
  simp only [hdn, List.take_nil, List.drop_nil]
  show wire [] ++ (match plc K [0] with | some x => pb x | none => [0]) = [0]
  rw [this]
  rfl
theorem told_known {K : List (List UInt8 × Nat)} {ls : List (List UInt8)} {x : Nat} (h : plc K (nm ls) = some x) (h0 : ls ≠ []) : hdn K ls = 0 ∧ told K ls = pb x := by
  have e : hdn K ls = 0 := by
    cases ls with
    | nil => exact absurd rfl h0
    | cons l r => unfold hdn; rw [h]; rfl
  refine ⟨e, ?_⟩
  unfold told restb
  rw [e, List.drop_zero, h]
  rfl
theorem chk_nm {ls : List (List UInt8)} (h : Shorts ls) : chk (nm ls) = 0 := shorts_chk h
theorem labs_nm {ls : List (List UInt8)} (h : Shorts ls) : labs (nm ls) = ls := shorts_labs h
/-- A name that may be, at a place that may be. -/
theorem name_at {K : List (List UInt8 × Nat)} {e q : Nat} {ls : List (List UInt8)} (hs : Shorts ls) (h1 : e ≤ q) (h2 : q ≤ 65535) :
    pkE e q (nm ls) = 0 ∧ nameB K e q (nm ls) = told K ls ∧ nameK K e q (nm ls) = K ++ fr q ls (hdn K ls) ∧ nameE K e q (nm ls) = q + (told K ls).length := by
  have hE : pkE e q (nm ls) = 0 := by unfold pkE; rw [if_neg (fun h => h (chk_nm hs)), if_neg (by omega), if_neg (by omega)]
  unfold nameB nameK nameE
  rw [if_pos hE, if_pos hE, if_pos hE, labs_nm hs]
  exact ⟨hE, rfl, rfl, rfl⟩
theorem par_nm {ls : List (List UInt8)} (hs : Shorts ls) (h0 : ls ≠ []) : par (nm ls) = nm (ls.drop 1) ∧ hasP (nm ls) = true := by
  have hne : nm ls ≠ [0] := fun e => h0 (nm_nil e)
  have hl : 0 < ls.length := List.length_pos_iff.mpr h0
  refine ⟨?_, by unfold hasP; exact decide_eq_true ⟨chk_nm hs, hne⟩⟩
  unfold par
  rw [if_pos ⟨chk_nm hs, hne⟩, ← nm_drop, pos_succ hl, pos_zero]
  obtain ⟨hp, hat⟩ := nm_at hl hs.1
  congr 1
  rw [Nat.zero_add]
  congr 1
  rw [← hat, List.getD, List.getElem?_eq_getElem (by rw [nm_len]; omega)]
  simp only [Option.getD_some, pos_zero]
theorem par_root : par (nm []) = [] ∧ hasP (nm []) = false := by
  refine ⟨by unfold par; rw [if_neg (fun h => h.2 rfl)], by unfold hasP; exact decide_eq_false fun h => h.2 rfl⟩

/-- A name told. -/
theorem name_told {w : World} {p bm e : Nat} {K : List (List UInt8 × Nat)} (h : Pk w p bm K e) (hG : GoodK K) (hK : K.length ≤ 900000) {ls : List (List UInt8)} (hs : Shorts ls) (q : Nat) (h1 : e ≤ q) (h2 : q ≤ 65535) :
    Calls Try.prog 18 #[.pointer (some ⟨p, 0, none⟩), .int .i64 q, .string (bs (nm ls))] w fun x w' =>
      ∃ v, x = .returned (.tuple #[v, .int .i64 0]) ∧ OwnB w' w.heap.size v (told K ls) ∧ Pk w' p bm (K ++ fr q ls (hdn K ls)) (q + (told K ls).length) ∧ Aside (fun b => b = p ∨ b = bm) w w' := by
  obtain ⟨f1, f2, f3, f4⟩ := name_at (K := K) hs h1 h2
  refine (name_any h hG hK (by omega) q (nm ls) (by rw [nm_len]; have := hs.2; omega)).mono ?_
  rintro x w' ⟨v, rfl, g1, g2, g3⟩
  rw [f2] at g1
  rw [f3, f4] at g2
  rw [f1]
  exact ⟨v, rfl, g1, g2, g3⟩

end Go.Proofs.Ythhfgbfipogppaa
