/-
  Same, Parent, the program's and the document's.
-/
import Derived.Test.YtaikpgcmcmkdcaaTo
namespace Go.Proofs.Ytaikpgcmcmkdcaa
open Go.RowKit Go.Shelf
set_option linter.unusedVariables false
set_option maxRecDepth 100000

def same (a b : List UInt8) : Bool := decide (chk a = 0 ∧ chk b = 0 ∧ low a = low b)

set_option maxHeartbeats 1000000 in
theorem rsame_any (a b : List UInt8) (ha : a.length ≤ 900000) (hb : b.length ≤ 900000) (w : World) : Calls Try.prog 33 #[.string (bs a), .string (bs b)] w (Tells w (.bool (same a b))) := by
  have HA := Lib.hid (fun w => rcheck_any a (by omega) w)
  have HB := Lib.hid (fun w => rcheck_any b (by omega) w)
  have HLA := Lib.hid (fun w => rlower_any a (by omega) w)
  have HLB := Lib.hid (fun w => rlower_any b (by omega) w)
  by_cases h1 : chk a = 0
  · by_cases h2 : chk b = 0
    · have hq := bs_eq (low a) (low b)
      have e : same a b = decide (low a = low b) := by unfold same; simp [h1, h2]
      rw [e]
      rw [h1] at HA
      rw [h2] at HB
      obtain ⟨r, hr⟩ : ∃ r, decide (low a = low b) = r := ⟨_, rfl⟩
      rw [hr] at hq ⊢
      clear hr h1 h2 e
      go_enter Try.func33, Try.ntmps33
      go_wp2_with fail
      refine (HA.out _).mono ?_; rintro e w1 ⟨rfl, hb1⟩; have HBw1 := Lib.hid hb1; clear hb1
      go_wp2_with fail
      refine (HB.out _).mono ?_; rintro e w2 ⟨rfl, hb1⟩; have HBw2 := Lib.hid hb1; clear hb1
      go_wp2_with fail
      refine (HLA.out _).mono ?_; rintro e w3 ⟨rfl, hb1⟩; have HBw3 := Lib.hid hb1; clear hb1
      go_wp2_with fail
      refine (HLB.out _).mono ?_; rintro e w4 ⟨rfl, hb1⟩; have HBw4 := Lib.hid hb1; clear hb1
      go_wp2_with fail
      go_ret
      exact ⟨rfl, (bel_call (bel_call (bel_call HBw1.out HBw2.out) HBw3.out) HBw4.out)⟩
    · have e : same a b = false := by unfold same; simp [h2]
      rw [e]
      rw [h1] at HA
      obtain ⟨c, hc⟩ : ∃ c, chk b = c := ⟨_, rfl⟩
      rw [hc] at HB h2
      have t2 : (c == 0) = false := by simpa using h2
      clear h1 h2 e hc
      go_enter Try.func33, Try.ntmps33
      go_wp2_with fail
      refine (HA.out _).mono ?_; rintro e w1 ⟨rfl, hb1⟩; have HBw1 := Lib.hid hb1; clear hb1
      go_wp2_with fail
      refine (HB.out _).mono ?_; rintro e w2 ⟨rfl, hb1⟩; have HBw2 := Lib.hid hb1; clear hb1
      go_wp2_with fail
      go_ret
      exact ⟨rfl, (bel_call HBw1.out HBw2.out)⟩
  · have e : same a b = false := by unfold same; simp [h1]
    rw [e]
    obtain ⟨c, hc⟩ : ∃ c, chk a = c := ⟨_, rfl⟩
    rw [hc] at HA h1
    have t2 : (c == 0) = false := by simpa using h1
    clear h1 e hc
    go_enter Try.func33, Try.ntmps33
    go_wp2_with fail
    refine (HA.out _).mono ?_; rintro e w1 ⟨rfl, hb1⟩; have HBw1 := Lib.hid hb1; clear hb1
    go_wp2_with fail
    go_ret
    exact ⟨rfl, HBw1.out⟩

/-- A name without its first label; is there one? -/
def hasP (n : List UInt8) : Bool := decide (chk n = 0 ∧ n ≠ [0])
def par (n : List UInt8) : List UInt8 := if chk n = 0 ∧ n ≠ [0] then n.drop (1 + (n.getD 0 0).toNat) else []

theorem chk_ok {n : List UInt8} (h : chk n = 0) : left n = [0] ∧ n.length ≤ 255 := by
  unfold chk at h
  split at h
  · split at h
    · simp at h
    · exact ⟨‹_›, by omega⟩
  · simp at h

theorem chk_mk {n : List UInt8} (h : left n = [0]) (hl : n.length ≤ 255) : chk n = 0 := by
  unfold chk
  rw [if_pos h, if_neg (by omega)]

theorem chk_wire {n : List UInt8} (h : chk n = 0) : n = wire (labs n) ++ [0] := by
  have h1 := labs_left n
  rw [(chk_ok h).1] at h1
  exact h1.symm

/-- Labels that may be are read off their bytes. -/
theorem labs_wire (l : List (List UInt8)) (h : ∀ x ∈ l, 0 < x.length ∧ x.length ≤ 63) : labs (wire l ++ [0]) = l ∧ left (wire l ++ [0]) = [0] := by
  induction l with
  | nil => simp [wire, labs, left]
  | cons x r ih =>
    have hx := h x (by simp)
    obtain ⟨i1, i2⟩ := ih fun y hy => h y (List.mem_cons_of_mem _ hy)
    have h8 : (UInt8.ofNat x.length).toNat = x.length := by rw [UInt8.toNat_ofNat']; omega
    have e : wire (x :: r) ++ [0] = UInt8.ofNat x.length :: (x ++ (wire r ++ [0])) := by simp [wire]
    have hc : ¬ ((UInt8.ofNat x.length).toNat = 0 ∨ 63 < (UInt8.ofNat x.length).toNat ∨ (x ++ (wire r ++ [0])).length < (UInt8.ofNat x.length).toNat) := by
      rw [h8, List.length_append]; omega
    rw [e, labs, left, if_neg hc, if_neg hc, h8]
    rw [List.take_left, List.drop_left, i1, i2]
    exact ⟨rfl, rfl⟩

theorem chk_of_wire (l : List (List UInt8)) (h : ∀ x ∈ l, 0 < x.length ∧ x.length ≤ 63) (hl : (wire l).length ≤ 254) : chk (wire l ++ [0]) = 0 :=
  chk_mk (labs_wire l h).2 (by simp; omega)

theorem jerr_short (l : List (List UInt8)) (h : ∀ x ∈ l, 0 < x.length ∧ x.length ≤ 63) : jerr l = 0 := by
  induction l with
  | nil => rfl
  | cons x r ih =>
    have hx := h x (by simp)
    rw [jerr, if_neg (by intro e; rw [e] at hx; simp at hx), if_neg (by omega)]
    exact ih fun y hy => h y (List.mem_cons_of_mem _ hy)

theorem jerr_conv (l : List (List UInt8)) (h : jerr l = 0) : ∀ x ∈ l, 0 < x.length ∧ x.length ≤ 63 := by
  induction l with
  | nil => intro x hx; simp at hx
  | cons y r ih =>
    rw [jerr] at h
    split at h
    · simp at h
    · split at h
      · simp at h
      · intro x hx
        rcases List.mem_cons.mp hx with e | e
        · subst e
          refine ⟨?_, by omega⟩
          have : x ≠ [] := by assumption
          exact List.length_pos_iff.mpr this
        · exact ih h x e

theorem jname_short (l : List (List UInt8)) (h : ∀ x ∈ l, 0 < x.length ∧ x.length ≤ 63) (hl : (wire l).length ≤ 254) : jname l = wire l ++ [0] ∧ jcode l = 0 := by
  have := jerr_short l h
  unfold jname jcode
  rw [if_pos ⟨this, hl⟩, if_pos this, if_pos hl]
  exact ⟨rfl, rfl⟩

theorem labs_root (n : List UInt8) (h : chk n = 0) : labs n = [] ↔ n = [0] := by
  constructor
  · intro e
    have := chk_wire h
    rw [e] at this
    exact this
  · intro e
    rw [e]
    simp [labs]

theorem par_eq (n : List UInt8) (h : chk n = 0) (h0 : n ≠ [0]) : ∃ x r, labs n = x :: r ∧ par n = wire r ++ [0] ∧ jname r = wire r ++ [0] ∧ n.getD 0 0 = UInt8.ofNat x.length ∧ 1 + x.length ≤ n.length := by
  cases hl : labs n with
  | nil => exact absurd ((labs_root n h).1 hl) h0
  | cons x r =>
    have hw := chk_wire h
    rw [hl] at hw
    have hs := labs_short n
    rw [hl] at hs
    have hx := hs x (by simp)
    have h8 : (UInt8.ofNat x.length).toNat = x.length := by rw [UInt8.toNat_ofNat']; omega
    have e : n = UInt8.ofNat x.length :: (x ++ (wire r ++ [0])) := by rw [hw]; simp [wire]
    have hlen := (chk_ok h).2
    have e2 : n.length = 1 + (x.length + ((wire r).length + 1)) := by
      conv => lhs; rw [e]
      simp; omega
    have e3 : n.getD 0 0 = UInt8.ofNat x.length := by
      conv => lhs; rw [e]
      rfl
    refine ⟨x, r, rfl, ?_, (jname_short r (fun y hy => hs y (List.mem_cons_of_mem _ hy)) (by omega)).1, e3, by omega⟩
    unfold par
    rw [if_pos ⟨h, h0⟩, e3, h8]
    conv => lhs; rw [e]
    rw [Nat.add_comm, List.drop_succ_cons, List.drop_left]

end Go.Proofs.Ytaikpgcmcmkdcaa
