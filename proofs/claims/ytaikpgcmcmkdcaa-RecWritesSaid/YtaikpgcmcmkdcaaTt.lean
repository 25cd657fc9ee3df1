/-
  The document's Within and Compare.
-/
import Derived.Test.YtaikpgcmcmkdcaaTp
namespace Go.Proofs.Ytaikpgcmcmkdcaa
open Go.RowKit Go.Shelf
set_option linter.unusedVariables false
set_option maxRecDepth 100000
set_option linter.unusedSimpArgs false

theorem lw_le {c : UInt8} (h : c.toNat ≤ 63) : lw c = c := lw_as (by omega)
theorem lw_big {c : UInt8} (h : 63 < c.toNat) : 63 < (lw c).toNat := by
  by_cases hu : 65 ≤ c.toNat ∧ c.toNat ≤ 90
  · rw [lw_up hu]; omega
  · rw [lw_as hu]; exact h

theorem labs_low (n : List UInt8) : labs (low n) = (labs n).map low ∧ left (low n) = low (left n) := by
  induction n using labs.induct with
  | case1 => simp [low, labs, left]
  | case2 c r h =>
    have e : low (c :: r) = lw c :: low r := rfl
    have h' : (lw c).toNat = 0 ∨ 63 < (lw c).toNat ∨ (low r).length < (lw c).toNat := by
      rcases h with h | h | h
      · left; rw [lw_le (by omega)]; exact h
      · right; left; exact lw_big h
      · by_cases h63 : 63 < c.toNat
        · right; left; exact lw_big h63
        · right; right; rw [lw_le (by omega), low_len]; exact h
    rw [e, labs, left, if_pos h', if_pos h', labs, left, if_pos h, if_pos h]
    exact ⟨rfl, rfl⟩
  | case3 c r h ih =>
    have e : low (c :: r) = lw c :: low r := rfl
    have hc : lw c = c := lw_le (by omega)
    have h' : ¬ (c.toNat = 0 ∨ 63 < c.toNat ∨ (low r).length < c.toNat) := by rw [low_len]; exact h
    have ed : (low r).drop c.toNat = low (r.drop c.toNat) := by simp [low]
    have et : (low r).take c.toNat = low (r.take c.toNat) := by simp [low]
    rw [e, hc, labs, left, if_neg h', if_neg h', labs, left, if_neg h, if_neg h, ed, et, ih.1, ih.2]
    exact ⟨rfl, rfl⟩

theorem lw_zero {c : UInt8} : lw c = 0 ↔ c = 0 := by
  constructor
  · intro h
    by_cases hu : 65 ≤ c.toNat ∧ c.toNat ≤ 90
    · have := lw_up hu
      rw [h] at this
      simp at this
    · rwa [lw_as hu] at h
  · intro h; rw [h]; rfl

theorem low_root (l : List UInt8) : low l = [0] ↔ l = [0] := by
  constructor
  · intro h
    cases l with
    | nil => simp [low] at h
    | cons c r =>
      simp only [low, List.map_cons] at h
      injection h with h1 h2
      have h3 : r = [] := by simpa using h2
      rw [lw_zero.1 h1, h3]
  · intro h; rw [h]; rfl

theorem chk_low (n : List UInt8) : chk (low n) = chk n := by
  unfold chk
  rw [low_len, (labs_low n).2]
  by_cases h : left n = [0]
  · rw [if_pos h, if_pos ((low_root _).2 h)]
  · rw [if_neg h, if_neg (fun e => h ((low_root _).1 e))]

theorem chk_wire_len {n : List UInt8} (h : chk n = 0) : (wire (labs n)).length ≤ 254 := by
  have h1 := congrArg List.length (chk_wire h)
  have h2 := (chk_ok h).2
  simp at h1
  omega

end Go.Proofs.Ytaikpgcmcmkdcaa
