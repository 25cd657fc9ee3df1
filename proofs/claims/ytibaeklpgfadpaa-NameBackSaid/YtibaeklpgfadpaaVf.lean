/-
  Zones, plainly.
-/
import Derived.Test.YtibaeklpgfadpaaVc
import Derived.Test.YtibaeklpgfadpaaVa
namespace Go.Proofs.Ytibaeklpgfadpaa
open Go.RowKit Go.Shelf
set_option linter.unusedVariables false
set_option linter.unusedSimpArgs false

theorem jcode_zero {l : List (List UInt8)} (h : jcode l = 0) : Shorts l ∧ jname l = wire l ++ [0] := by
  have hj : jerr l = 0 := by
    unfold jcode at h
    split at h
    · assumption
    · exact h
  have hw : (wire l).length ≤ 254 := by
    unfold jcode at h
    rw [if_pos hj] at h
    split at h
    · assumption
    · simp at h
  have hs : Shorts l := ⟨jerr_conv l hj, hw⟩
  exact ⟨hs, (jname_short l hs.1 hs.2).1⟩

theorem jname_len (l : List (List UInt8)) : (jname l).length ≤ 255 := by
  unfold jname
  split
  · simp; omega
  · simp

theorem lng_app {a b : List (List UInt8)} (ha : lng a = false) (hb : lng b = false) : lng (a ++ b) = false := by
  unfold lng at *
  rw [List.any_append, ha, hb]
  rfl

theorem low_app (a b : List UInt8) : low (a ++ b) = low a ++ low b := by simp [low]

/-- What NameZones asks of names. -/
theorem zones_facts {x z : List (List UInt8)} (hz : jcode z = 0) (hn : jcode (x ++ z) = 0) :
    wthn (jname (x ++ z)) (jname z) = true ∧ wthn (jname z) (jname (x ++ z)) = decide (x.length = 0) := by
  obtain ⟨sz, ez⟩ := jcode_zero hz
  obtain ⟨sn, en⟩ := jcode_zero hn
  rw [ez, en, shorts_wthn sn sz, shorts_wthn sz sn]
  refine ⟨?_, ?_⟩
  · rw [decide_eq_true_eq]
    simp
  · rw [decide_eq_decide]
    refine ⟨fun h => ?_, fun h => ?_⟩
    · have := congrArg List.length h
      simp at this
      exact List.length_eq_zero_iff.mpr this
    · have hx : x = [] := List.length_eq_zero_iff.mp h
      subst hx
      simp [List.take_of_length_le]

theorem zones_more {x r : List (List UInt8)} {y m : List UInt8} (hz : jcode (y :: r) = 0) (hn : jcode (x ++ y :: r) = 0) (hm : m ≠ []) :
    hasP (jname (y :: r)) = true ∧ wthn (jname (x ++ y :: r)) (par (jname (y :: r))) = true ∧
      (jcode ((m ++ y) :: r) = 0 → wthn (jname ((m ++ y) :: r)) (jname (y :: r)) = false ∧ wthn (jname ((m ++ y) :: r)) (par (jname (y :: r))) = true) := by
  obtain ⟨sz, ez⟩ := jcode_zero hz
  have hcz : chk (jname (y :: r)) = 0 := by rw [ez]; exact shorts_chk sz
  have hlz : labs (jname (y :: r)) = y :: r := by rw [ez]; exact shorts_labs sz
  have h0 : jname (y :: r) ≠ [0] := fun e => by rw [e] at hlz; simp [labs] at hlz
  have hp : hasP (jname (y :: r)) = true := by unfold hasP; rw [decide_eq_true_eq]; exact ⟨hcz, h0⟩
  obtain ⟨_, _, _, hcp, hwp, _⟩ := par_facts hcz hp
  have sr : Shorts r := by
    refine ⟨fun u hu => sz.1 u (by simp [hu]), ?_⟩
    have := sz.2
    simp only [wire, List.cons_append, List.length_cons, List.length_append] at this
    omega
  obtain ⟨y', r', hl', hpar, _⟩ := par_eq _ hcz h0
  rw [hlz] at hl'
  injection hl' with e1 e2
  subst e1; subst e2
  refine ⟨hp, wthn_trans (zones_facts hz hn).1 hwp, fun hg => ?_⟩
  obtain ⟨sg, eg⟩ := jcode_zero hg
  rw [hpar, eg, ez, shorts_wthn sg sr, shorts_wthn sg sz]
  refine ⟨?_, ?_⟩
  · rw [decide_eq_false_iff_not]
    intro h
    have h2 := congrArg List.getLast? h
    simp [List.take_of_length_le] at h2
    have h3 := congrArg List.length h2
    simp [low] at h3
    exact hm h3
  · rw [decide_eq_true_eq]
    simp
end Go.Proofs.Ytibaeklpgfadpaa
