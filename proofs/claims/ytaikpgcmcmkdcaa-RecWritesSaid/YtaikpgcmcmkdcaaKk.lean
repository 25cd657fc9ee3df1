/-
  Tails of names, and what a packer knows of them; plainly.
-/
import Derived.Test.YtaikpgcmcmkdcaaKg
namespace Go.Proofs.Ytaikpgcmcmkdcaa
open Go.RowKit Go.Shelf
set_option linter.unusedVariables false
set_option maxRecDepth 100000

/-- The name of labels. -/
def nm (ls : List (List UInt8)) : List UInt8 := wire ls ++ [0]

/-- Where label k begins. -/
def pos (ls : List (List UInt8)) (k : Nat) : Nat := (wire (ls.take k)).length

theorem nm_len (ls : List (List UInt8)) : (nm ls).length = (wire ls).length + 1 := by simp [nm]
theorem wire_split (ls : List (List UInt8)) (k : Nat) : wire ls = wire (ls.take k) ++ wire (ls.drop k) := by rw [← wire_app, List.take_append_drop]
theorem nm_drop (ls : List (List UInt8)) (k : Nat) : (nm ls).drop (pos ls k) = nm (ls.drop k) := by
  unfold nm pos
  rw [wire_split ls k, List.append_assoc, List.drop_left]
theorem nm_take (ls : List (List UInt8)) (k : Nat) : (nm ls).take (pos ls k) = wire (ls.take k) := by
  unfold nm pos
  rw [wire_split ls k, List.append_assoc, List.take_left]
theorem pos_le (ls : List (List UInt8)) (k : Nat) : pos ls k ≤ (wire ls).length := by
  rw [wire_split ls k, List.length_append]; unfold pos; omega
theorem pos_zero (ls : List (List UInt8)) : pos ls 0 = 0 := by simp [pos, wire]
theorem pos_succ {ls : List (List UInt8)} {k : Nat} (h : k < ls.length) : pos ls (k + 1) = pos ls k + (1 + ls[k].length) := by
  unfold pos
  rw [List.take_add_one, List.getElem?_eq_getElem h, Option.toList_some, wire_snoc]
theorem pos_rest (ls : List (List UInt8)) (k : Nat) : (wire (ls.drop k)).length + pos ls k = (wire ls).length := by
  rw [wire_split ls k, List.length_append]; unfold pos; omega
theorem nm_at {ls : List (List UInt8)} {k : Nat} (h : k < ls.length) (hs : ∀ x ∈ ls, 0 < x.length ∧ x.length ≤ 63) : ∃ hp : pos ls k < (nm ls).length, (nm ls)[pos ls k].toNat = ls[k].length := by
  have hp : pos ls k < (nm ls).length := by rw [nm_len]; have := pos_le ls k; omega
  refine ⟨hp, ?_⟩
  have e := nm_drop ls k
  rw [List.drop_eq_getElem_cons hp, List.drop_eq_getElem_cons h] at e
  have e1 : (nm ls)[pos ls k] = UInt8.ofNat ls[k].length := by
    unfold nm at e
    rw [wire] at e
    injection e
  have := hs ls[k] (List.getElem_mem h)
  rw [e1, UInt8.toNat_ofNat']
  omega
theorem nm_end (ls : List (List UInt8)) : ∃ hp : pos ls ls.length < (nm ls).length, (nm ls)[pos ls ls.length].toNat = 0 := by
  have hp : pos ls ls.length < (nm ls).length := by rw [nm_len]; have := pos_le ls ls.length; omega
  refine ⟨hp, ?_⟩
  have e := nm_drop ls ls.length
  rw [List.drop_eq_getElem_cons hp, List.drop_length] at e
  have e1 : (nm ls)[pos ls ls.length] = 0 := by
    unfold nm at e
    rw [wire] at e
    injection e
  rw [e1]; rfl
theorem shorts_drop {ls : List (List UInt8)} (h : Shorts ls) (k : Nat) : Shorts (ls.drop k) :=
  ⟨fun x hx => h.1 x (List.mem_of_mem_drop hx), by have := pos_rest ls k; have := h.2; omega⟩
theorem nm_inj {a b : List (List UInt8)} (ha : Shorts a) (hb : Shorts b) (h : nm a = nm b) : a = b := by
  have h1 := shorts_labs ha
  have h2 := shorts_labs hb
  unfold nm at h
  rw [h] at h1
  exact h1.symm.trans h2
theorem nm_nil {ls : List (List UInt8)} (h : nm ls = [0]) : ls = [] := by
  cases ls with
  | nil => rfl
  | cons x r =>
    have := congrArg List.length h
    simp [nm, wire] at this
theorem wire_pos {ls : List (List UInt8)} (h : ls ≠ []) : 0 < (wire ls).length := by
  cases ls with
  | nil => exact absurd rfl h
  | cons x r => simp [wire]

theorem len_wire (ls : List (List UInt8)) : ls.length ≤ (wire ls).length := by
  induction ls with
  | nil => simp
  | cons x r ih => simp [wire]; omega

/-- The place of a tail. -/
def plc (K : List (List UInt8 × Nat)) (n : List UInt8) : Option Nat := (K.find? (fun p => p.1 == n)).map (·.2)

theorem plc_app (K K' : List (List UInt8 × Nat)) (n : List UInt8) : plc (K ++ K') n = (plc K n).or (plc K' n) := by
  unfold plc
  rw [List.find?_append]
  cases K.find? (fun p => p.1 == n) <;> simp
theorem plc_none {K : List (List UInt8 × Nat)} {n : List UInt8} (h : ∀ p ∈ K, p.1 ≠ n) : plc K n = none := by
  unfold plc
  rw [List.find?_eq_none.mpr (fun p hp => by simpa using h p hp)]
  rfl
theorem plc_mem {K : List (List UInt8 × Nat)} {n : List UInt8} {x : Nat} (h : plc K n = some x) : (n, x) ∈ K := by
  unfold plc at h
  obtain ⟨p, hp, rfl⟩ := Option.map_eq_some_iff.mp h
  have h1 := List.find?_some hp
  have h2 := List.mem_of_find?_eq_some hp
  have : p.1 = n := by simpa using h1
  subst this
  exact h2
theorem plc_one (n m : List UInt8) (x : Nat) : plc [(n, x)] m = if n = m then some x else none := by
  unfold plc
  by_cases h : n = m <;> simp [h]

/-- How many labels are ahead of the first tail that is known. -/
def hdn (K : List (List UInt8 × Nat)) : List (List UInt8) → Nat
  | [] => 0
  | l :: r => if (plc K (nm (l :: r))).isSome then 0 else hdn K r + 1

theorem hdn_le (K : List (List UInt8 × Nat)) (ls : List (List UInt8)) : hdn K ls ≤ ls.length := by
  induction ls with
  | nil => simp [hdn]
  | cons l r ih => unfold hdn; split <;> simp <;> omega
theorem hdn_step (K : List (List UInt8 × Nat)) (ls : List (List UInt8)) (k : Nat) (hk : k < ls.length) (h : hdn K ls = k + hdn K (ls.drop k)) :
    (∀ x, plc K (nm (ls.drop k)) = some x → hdn K ls = k) ∧ (plc K (nm (ls.drop k)) = none → hdn K ls = (k + 1) + hdn K (ls.drop (k + 1))) := by
  have e : ls.drop k = ls[k] :: ls.drop (k + 1) := List.drop_eq_getElem_cons hk
  rw [e] at h ⊢
  rw [hdn] at h
  constructor
  · intro x hx
    rw [hx] at h
    simpa using h
  · intro hx
    rw [hx] at h
    simp at h
    omega
theorem hdn_none {K : List (List UInt8 × Nat)} : ∀ {ls : List (List UInt8)} {k : Nat}, k < hdn K ls → plc K (nm (ls.drop k)) = none
  | [], k, h => by simp [hdn] at h
  | l :: r, k, h => by
    unfold hdn at h
    split at h
    · omega
    · rename_i hn
      cases k with
      | zero => simpa using hn
      | succ k => exact hdn_none (ls := r) (by omega)
theorem hdn_stop {K : List (List UInt8 × Nat)} : ∀ {ls : List (List UInt8)}, hdn K ls < ls.length → ∃ x, plc K (nm (ls.drop (hdn K ls))) = some x
  | [], h => by simp at h
  | l :: r, h => by
    by_cases hs : (plc K (nm (l :: r))).isSome
    · have e : hdn K (l :: r) = 0 := by unfold hdn; rw [if_pos hs]
      rw [e]
      exact Option.isSome_iff_exists.mp hs
    · have e : hdn K (l :: r) = hdn K r + 1 := by conv => lhs; unfold hdn; rw [if_neg hs]
      rw [e] at h ⊢
      exact hdn_stop (ls := r) (by simpa using h)

/-- What a packer learns of the first h labels of a name that stands at a place. -/
def fr (at_ : Nat) : List (List UInt8) → Nat → List (List UInt8 × Nat)
  | [], _ => []
  | _ :: _, 0 => []
  | l :: r, h + 1 => (if at_ < 16384 then [(nm (l :: r), at_)] else []) ++ fr (at_ + (1 + l.length)) r h

theorem fr_zero (at_ : Nat) (ls : List (List UInt8)) : fr at_ ls 0 = [] := by cases ls <;> rfl
theorem fr_succ : ∀ (ls : List (List UInt8)) (at_ k : Nat), k < ls.length → fr at_ ls (k + 1) = fr at_ ls k ++ (if at_ + pos ls k < 16384 then [(nm (ls.drop k), at_ + pos ls k)] else [])
  | [], _, _, h => by simp at h
  | l :: r, at_, 0, h => by rw [pos_zero, List.drop_zero, fr_zero, fr, fr_zero, List.append_nil, Nat.add_zero, List.nil_append]
  | l :: r, at_, k + 1, h => by
    have e : pos (l :: r) (k + 1) = 1 + l.length + pos r k := by unfold pos; simp [wire]; omega
    rw [fr, fr_succ r _ k (by simpa using h), fr, e, List.drop_succ_cons, List.append_assoc]
    rw [show at_ + (1 + l.length) + pos r k = at_ + (1 + l.length + pos r k) by omega]
theorem pos_mono (ls : List (List UInt8)) {j k : Nat} (h : j ≤ k) : pos ls j ≤ pos ls k := by
  unfold pos
  rw [show ls.take j = (ls.take k).take j by rw [List.take_take, Nat.min_eq_left h], wire_split (ls.take k) j, List.length_append]
  omega
theorem fr_stop {ls : List (List UInt8)} {at_ k : Nat} (hf : 16384 ≤ at_ + pos ls k) : ∀ h, k ≤ h → h ≤ ls.length → fr at_ ls h = fr at_ ls k := by
  intro h hk
  induction h with
  | zero => intro _; rw [Nat.le_zero.mp hk]
  | succ h ih =>
    intro hl
    by_cases e : k = h + 1
    · rw [e]
    · rw [fr_succ ls at_ h (by omega), ih (by omega) (by omega), if_neg (by have := pos_mono ls (show k ≤ h by omega); omega), List.append_nil]
theorem fr_mem {ls : List (List UInt8)} {at_ : Nat} : ∀ {h : Nat}, h ≤ ls.length → ∀ p ∈ fr at_ ls h, ∃ j, j < h ∧ p = (nm (ls.drop j), at_ + pos ls j) ∧ at_ + pos ls j < 16384 := by
  intro h
  induction h with
  | zero => intro _ p hp; rw [fr_zero] at hp; simp at hp
  | succ h ih =>
    intro hl p hp
    rw [fr_succ ls at_ h (by omega)] at hp
    rcases List.mem_append.mp hp with hp | hp
    · obtain ⟨j, h1, h2⟩ := ih (by omega) p hp
      exact ⟨j, by omega, h2⟩
    · split at hp
      · rename_i hlt
        exact ⟨h, by omega, List.mem_singleton.mp hp, hlt⟩
      · simp at hp
theorem fr_len (ls : List (List UInt8)) (at_ : Nat) : ∀ h, (fr at_ ls h).length ≤ h := by
  induction ls generalizing at_ with
  | nil => intro h; simp [fr]
  | cons l r ih =>
    intro h
    cases h with
    | zero => rw [fr_zero]; simp
    | succ h => rw [fr, List.length_append]; have := ih (at_ + (1 + l.length)) h; split <;> simp <;> omega

/-- A tail is another one than those ahead of it. -/
theorem fr_fresh {K : List (List UInt8 × Nat)} {ls : List (List UInt8)} {at_ k : Nat} (hk : k < ls.length) (h : plc K (nm (ls.drop k)) = none) : plc (K ++ fr at_ ls k) (nm (ls.drop k)) = none := by
  rw [plc_app, h, Option.none_or]
  refine plc_none fun p hp => ?_
  obtain ⟨j, h1, rfl, _⟩ := fr_mem (by omega) p hp
  intro e
  have := congrArg List.length e
  rw [nm_len, nm_len] at this
  have h2 := pos_rest ls j
  have h3 := pos_rest ls k
  have h4 := pos_mono ls (show j + 1 ≤ k by omega)
  rw [pos_succ (show j < ls.length by omega)] at h4
  omega

/-- What a packer knows: names, not the root, at places that pointers lead to. -/
def GoodK (K : List (List UInt8 × Nat)) : Prop := ∀ p ∈ K, p.2 < 16384 ∧ ∃ ls, ls ≠ [] ∧ Shorts ls ∧ p.1 = nm ls

theorem good_nil : GoodK [] := fun p hp => by simp at hp
theorem good_fr {K : List (List UInt8 × Nat)} (h : GoodK K) {ls : List (List UInt8)} (hs : Shorts ls) (at_ : Nat) {k : Nat} (hk : k ≤ ls.length) : GoodK (K ++ fr at_ ls k) := fun p hp => by
  rcases List.mem_append.mp hp with hp | hp
  · exact h p hp
  · obtain ⟨j, h1, rfl, h2⟩ := fr_mem hk p hp
    exact ⟨h2, ls.drop j, fun e => by have := congrArg List.length e; rw [List.length_drop, List.length_nil] at this; omega, shorts_drop hs j, rfl⟩
theorem good_root {K : List (List UInt8 × Nat)} (h : GoodK K) : plc K [0] = none := plc_none fun p hp e => by
  obtain ⟨_, ls, h1, _, h2⟩ := h p hp
  exact h1 (nm_nil (h2.symm.trans e))
theorem good_lt {K : List (List UInt8 × Nat)} (h : GoodK K) {n : List UInt8} {x : Nat} (hx : plc K n = some x) : x < 16384 := (h _ (plc_mem hx)).1

/-- A pointer's bytes; a tail that is known, or as it is. -/
def pb (x : Nat) : List UInt8 := [UInt8.ofNat (192 + x / 256), UInt8.ofNat (x % 256)]
def restb (K : List (List UInt8 × Nat)) (t : List UInt8) : List UInt8 := match plc K t with | some x => pb x | none => t

/-- What is told of a name. -/
def told (K : List (List UInt8 × Nat)) (ls : List (List UInt8)) : List UInt8 := wire (ls.take (hdn K ls)) ++ restb K (nm (ls.drop (hdn K ls)))

theorem restb_len (K : List (List UInt8 × Nat)) (t : List UInt8) : (restb K t).length ≤ t.length + 2 := by
  unfold restb
  cases plc K t <;> simp [pb]
theorem restb_pos {K : List (List UInt8 × Nat)} {t : List UInt8} (h : 0 < t.length) : 0 < (restb K t).length := by
  unfold restb
  cases plc K t <;> simp [pb]
  exact h
theorem told_pos (K : List (List UInt8 × Nat)) (ls : List (List UInt8)) : 0 < (told K ls).length := by
  unfold told
  rw [List.length_append]
  have := restb_pos (K := K) (t := nm (ls.drop (hdn K ls))) (by rw [nm_len]; omega)
  omega

/-- The code that a packer answers. -/
def pkE (e : Nat) (at_ : Int) (n : List UInt8) : Int := if chk n ≠ 0 then chk n else if at_ < 0 ∨ 65535 < at_ then 2 else if at_ < e then 9 else 0
end Go.Proofs.Ytaikpgcmcmkdcaa
