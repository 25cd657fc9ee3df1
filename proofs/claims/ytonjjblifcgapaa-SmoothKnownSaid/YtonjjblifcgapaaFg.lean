import Derived.Test.YtonjjblifcgapaaFf
namespace Go.Proofs.Ytonjjblifcgapaa
set_option linter.unusedVariables false
open Ieee

/-! ### A mean lies between -/

/-- A whole number of units, rounded: between any two rungs' values that it is between. -/
theorem RS_ge {n k : Int} (hk : k.natAbs < 9218868437227405312) (h : V k ≤ n) : k ≤ RS (n * (sc : Int)) := by
  have hs : (0 : Int) ≤ sc := by omega
  have := RS_mono (Int.mul_le_mul_of_nonneg_right h hs)
  rwa [RS_V hk] at this

theorem RS_le {n k : Int} (hk : k.natAbs < 9218868437227405312) (h : n ≤ V k) : RS (n * (sc : Int)) ≤ k := by
  have hs : (0 : Int) ≤ sc := by omega
  have := RS_mono (Int.mul_le_mul_of_nonneg_right h hs)
  rwa [RS_V hk] at this

/-- The rung at or below a number. -/
theorem rung_below (n : Nat) : ∃ r, rval r ≤ n ∧ n < rval (r + 1) := by
  suffices h : ∀ j, n < rval j → ∃ r, rval r ≤ n ∧ n < rval (r + 1) by
    exact h (n + 1) (Nat.lt_of_lt_of_le (by omega) (rval_ge (n + 1)))
  intro j
  induction j with
  | zero => intro h; rw [rval_zero] at h; omega
  | succ k ih =>
    intro h
    by_cases g : rval k ≤ n
    · exact ⟨k, g, h⟩
    · exact ih (by omega)

theorem V_nat (r : Nat) : V (r : Int) = (rval r : Int) := by
  unfold V; rw [if_neg (by omega)]; simp

/-- How far a number is rounded: by at most its 2^52th part. -/
theorem round_near {n : Int} (h0 : 0 ≤ n) (hb : n < (rval 9218868437227405311 : Int)) :
    0 ≤ RS (n * (sc : Int)) ∧ RS (n * (sc : Int)) < 9218868437227405312 ∧ (V (RS (n * (sc : Int))) - n) * 4503599627370496 ≤ n ∧ (n - V (RS (n * (sc : Int)))) * 4503599627370496 ≤ n := by
  obtain ⟨m, rfl⟩ := Int.eq_ofNat_of_zero_le h0
  obtain ⟨r, h1, h2⟩ := rung_below m
  have hr : r < 9218868437227405311 := by
    have : rval r < rval 9218868437227405311 := by omega
    exact rval_lt_iff.mp this
  have a1 : (r : Int) ≤ RS ((m : Int) * (sc : Int)) := RS_ge (by omega) (by rw [V_nat]; omega)
  have a2 : RS ((m : Int) * (sc : Int)) ≤ ((r + 1 : Nat) : Int) := RS_le (by omega) (by rw [V_nat]; omega)
  have b1 := V_le a1
  have b2 := V_le a2
  rw [V_nat] at b1 b2
  obtain ⟨g, g0, g1, g2⟩ := rval_step r
  rcases g2 with rfl | g2
  · -- one rung a unit: nothing is rounded
    have hm : ((rval r : Nat) : Int) = (m : Int) := by omega
    have hk : RS ((m : Int) * (sc : Int)) = (r : Int) := by rw [← hm, ← V_nat]; exact RS_V (by omega)
    rw [hk, V_nat]
    exact ⟨by omega, by omega, by omega, by omega⟩
  · generalize RS ((m : Int) * (sc : Int)) = k at *
    generalize V k = v at *
    exact ⟨by omega, by omega, by omega, by omega⟩

theorem RS_neg (n : Int) : RS (-n) = -RS n := by
  unfold RS
  by_cases h : n < 0
  · rw [if_neg (by omega), if_pos h, Int.natAbs_neg]; omega
  · by_cases e : n = 0
    · subst e; simp [rnd_zero]
    · rw [if_pos (by omega), if_neg h, Int.natAbs_neg]

/-- The like for numbers of any sign. -/
theorem round_any {n : Int} (hb : n.natAbs < rval 9218868437227405311) :
    (RS (n * (sc : Int))).natAbs < 9218868437227405312 ∧ (V (RS (n * (sc : Int))) - n) * 4503599627370496 ≤ n.natAbs ∧ (n - V (RS (n * (sc : Int)))) * 4503599627370496 ≤ n.natAbs := by
  by_cases h : 0 ≤ n
  · obtain ⟨a, b, c, d⟩ := round_near h (by omega)
    refine ⟨by omega, by omega, by omega⟩
  · obtain ⟨a, b, c, d⟩ := round_near (n := -n) (by omega) (by omega)
    rw [Int.neg_mul, RS_neg, V_neg] at c d
    rw [Int.neg_mul, RS_neg] at a b
    refine ⟨by omega, by omega, by omega⟩

/-- Small numbers of units are words: nothing is rounded. -/
theorem round_small {n : Int} (h : n.natAbs ≤ 9007199254740992) : V (RS (n * (sc : Int))) = n ∧ (RS (n * (sc : Int))).natAbs < 9218868437227405312 := by
  have base : ∀ r : Nat, r ≤ 9007199254740992 → rval r = r := by
    intro r hr
    by_cases h1 : r < 4503599627370496
    · exact rval_small h1
    · by_cases h2 : r < 9007199254740992
      · rw [rval_big (q := 0) (t := r - 4503599627370496) (by omega) (by omega)]; omega
      · rw [rval_big (q := 1) (t := 0) (by omega) (by omega)]; omega
  have hv : V n = n := by
    unfold V
    rw [base _ h]
    by_cases g : n < 0
    · rw [if_pos g]; omega
    · rw [if_neg g]; omega
  have : RS (n * (sc : Int)) = n := by
    have := RS_V (k := n) (by omega)
    rwa [hv] at this
  rw [this]; exact ⟨hv, by omega⟩

/-- A part, from nothing to all, of a finite word lies between nothing and it. -/
theorem part_between {q d : Int} (hq0 : 0 ≤ V q) (hq1 : V q ≤ (sc : Int)) (hd : d.natAbs < 9218868437227405312) :
    (0 ≤ V d → 0 ≤ V (RS (V q * V d)) ∧ V (RS (V q * V d)) ≤ V d) ∧ (V d ≤ 0 → V d ≤ V (RS (V q * V d)) ∧ V (RS (V q * V d)) ≤ 0) := by
  have e0 : V 0 = 0 := by unfold V; simp [rval_zero]
  have r0 : RS 0 = 0 := by unfold RS; simp [rnd_zero]
  refine ⟨fun h => ⟨?_, ?_⟩, fun h => ⟨?_, ?_⟩⟩
  · have := RS_mono (Int.mul_nonneg hq0 h)
    rw [r0] at this
    have := V_le this; omega
  · have := RS_mono (Int.mul_le_mul_of_nonneg_right hq1 h)
    rw [Int.mul_comm (sc : Int), RS_V hd] at this
    exact V_le this
  · have := RS_mono (Int.mul_le_mul_of_nonpos_right hq1 h)
    rw [Int.mul_comm (sc : Int), RS_V hd] at this
    exact V_le this
  · have := RS_mono (Int.mul_nonpos_of_nonneg_of_nonpos hq0 h)
    rw [r0] at this
    have := V_le this; omega

/-- 10^150, 10^-9. -/
theorem big_facts : key 6850974717710472879 = 6850974717710472879 ∧ isN 6850974717710472879 = false ∧ V 6850974717710472879 * 16 ≤ (rval 9218868437227405311 : Int) := by decide +kernel
theorem nine_facts : key 4472406533629990549 = 4472406533629990549 ∧ isN 4472406533629990549 = false ∧ (sc : Int) ≤ V 4472406533629990549 * 1073741824 ∧ V 4472406533629990549 ≤ (sc : Int) := by decide +kernel

/-- What the mean is off by is at most what is granted. All in units: 'X', 'Y' both numbers, 'D' their difference as rounded, 'P' the part of it, 'M' the mean, 's' the sizes' sum as rounded, 'S' the slack. -/
theorem between_nums {X Y D P M S T : Int}
    (hT : T * 16 ≤ (rval 9218868437227405311 : Int)) (hX : X.natAbs ≤ T.natAbs) (hY : Y.natAbs ≤ T.natAbs) (hT0 : 0 ≤ T)
    (hD : D = V (RS ((Y - X) * (sc : Int))))
    (hP : (0 ≤ D → 0 ≤ P ∧ P ≤ D) ∧ (D ≤ 0 → D ≤ P ∧ P ≤ 0))
    (hM : M = V (RS ((X + P) * (sc : Int))))
    (hS0 : 0 ≤ S) (hS : 9007199254740992 < (X.natAbs + Y.natAbs : Int) → (X.natAbs + Y.natAbs : Int) ≤ S * 8589934592 + 8589934592) :
    min X Y - S ≤ M ∧ M ≤ max X Y + S := by
  by_cases hA : (X.natAbs + Y.natAbs : Int) ≤ 9007199254740992
  · have e1 := (round_small (n := Y - X) (by omega)).1
    rw [e1] at hD
    subst hD
    have e2 := (round_small (n := X + P) (by omega)).1
    rw [e2] at hM
    subst hM
    omega
  · have hS' := hS (by omega)
    obtain ⟨_, d1, d2⟩ := round_any (n := Y - X) (by omega)
    rw [← hD] at d1 d2
    obtain ⟨_, m1, m2⟩ := round_any (n := X + P) (by omega)
    rw [← hM] at m1 m2
    omega

end Go.Proofs.Ytonjjblifcgapaa
