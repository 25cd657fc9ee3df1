/-
  The walk over the reference's Scale: it returns what scaleI says, and the world is as it was.
-/
import Derived.Test.YtjlhklijibpbeaaWa
import Derived.Lib.Hide
namespace Go.Proofs.Ytjlhklijibpbeaa
open Go.RowKit

/-- What Scale tells. -/
def scaleI (n m d : Int) : Int :=
  if cutI d = 0 then (if cutI n = 0 ∨ cutI m = 0 then 0 else 9007199254740992) else cutI (cutI n * cutI m / cutI d)

def capQ (p : Int) : Int := if 9007199254740992 < p then 9007199254740993 else p
def tT (x y d : Int) (k : Nat) : Int := capQ (x / 2 ^ k * y / d)
def tR (x y d : Int) (k : Nat) : Int := x / 2 ^ k * y % d

theorem capQ_bd (p : Int) (h : 0 ≤ p) : 0 ≤ capQ p ∧ capQ p ≤ 9007199254740993 := by unfold capQ; split <;> omega

theorem half_pow (x : Int) (j : Nat) : x / 2 ^ j = 2 * (x / 2 ^ (j + 1)) + x / 2 ^ j % 2 := by
  have : x / 2 ^ (j + 1) = x / 2 ^ j / 2 := by
    rw [Int.pow_succ, ← Int.ediv_ediv_of_nonneg (by exact Int.le_of_lt (Int.pow_pos (by omega)))]
  rw [this]; omega

theorem quot_step (A y d b : Int) (hd : 1 ≤ d) :
    (2 * A + b) * y / d = 2 * (A * y / d) + b * (y / d) + (2 * (A * y % d) + b * (y % d)) / d ∧
    (2 * A + b) * y % d = (2 * (A * y % d) + b * (y % d)) % d := by
  have e1 := Int.mul_ediv_add_emod (A * y) d
  have e2 := Int.mul_ediv_add_emod y d
  have e : (2 * A + b) * y = 2 * (A * y % d) + b * (y % d) + d * (2 * (A * y / d) + b * (y / d)) := by
    have : (2 * A + b) * y = 2 * (A * y) + b * y := by grind
    rw [this]
    generalize A * y / d = q1 at *
    generalize A * y % d = r1 at *
    generalize A * y = p at *
    generalize y / d = q2 at *
    generalize y % d = r2 at *
    subst e2; subst e1
    grind
  rw [e, Int.add_mul_ediv_left _ _ (by omega), Int.add_mul_emod_self_left]
  exact ⟨by omega, rfl⟩


theorem and1_i64 (z : Int) (h0 : 0 ≤ z) (h1 : z < 9223372036854775808) : bits .and .i64 z 1 = z % 2 := by
  have two63 : (2 : Int) ^ 63 = 9223372036854775808 := by decide
  have h := bits_mask .i64 63 (by decide) (fun n h0 h1 => by rw [two63] at h1; rw [IntKind.wrap_i64]; omega) 1 (by decide) z h0 (by rw [two63]; omega)
  have e : ((2 : Int) ^ 1 - 1) = 1 := by decide
  rw [e] at h
  rw [h]
  omega

/-- One round of the reference's Scale, a bit that is set. -/
theorem step_one (x y d : Int) (j : Nat) (hx : 0 ≤ x) (hy : 0 ≤ y) (hd : 1 ≤ d) (hb : x / 2 ^ j % 2 = 1) :
    tR x y d j = (2 * tR x y d (j + 1) + y % d) % d ∧
    (9007199254740992 < 2 * tT x y d (j + 1) + y / d + (2 * tR x y d (j + 1) + y % d) / d → tT x y d j = 9007199254740993) ∧
    (2 * tT x y d (j + 1) + y / d + (2 * tR x y d (j + 1) + y % d) / d ≤ 9007199254740992 →
      tT x y d j = 2 * tT x y d (j + 1) + y / d + (2 * tR x y d (j + 1) + y % d) / d) := by
  have e := half_pow x j
  have hA : 0 ≤ x / 2 ^ (j + 1) := Int.ediv_nonneg hx (Int.le_of_lt (Int.pow_pos (by omega)))
  obtain ⟨s1, s2⟩ := quot_step (x / 2 ^ (j + 1)) y d 1 hd
  have hq : 0 ≤ x / 2 ^ (j + 1) * y / d := Int.ediv_nonneg (Int.mul_nonneg hA hy) (by omega)
  have hq2 : 0 ≤ y / d := Int.ediv_nonneg hy (by omega)
  have hr : 0 ≤ (2 * (x / 2 ^ (j + 1) * y % d) + 1 * (y % d)) / d := Int.ediv_nonneg (by have := Int.emod_nonneg (x / 2 ^ (j + 1) * y) (b := d) (by omega); have := Int.emod_nonneg y (b := d) (by omega); omega) (by omega)
  rw [hb] at e
  unfold tR tT
  rw [e, s1, s2]
  simp only [Int.one_mul] at *
  generalize (2 * (x / 2 ^ (j + 1) * y % d) + y % d) / d = c at *
  generalize x / 2 ^ (j + 1) * y / d = q at *
  generalize y / d = q2 at *
  refine ⟨trivial, ?_, ?_⟩ <;> (unfold capQ; intro h; split at h <;> split <;> omega)

/-- One round, a bit that is not set. -/
theorem step_zero (x y d : Int) (j : Nat) (hx : 0 ≤ x) (hy : 0 ≤ y) (hd : 1 ≤ d) (hb : x / 2 ^ j % 2 = 0) :
    tR x y d j = 2 * tR x y d (j + 1) % d ∧
    (9007199254740992 < 2 * tT x y d (j + 1) + 2 * tR x y d (j + 1) / d → tT x y d j = 9007199254740993) ∧
    (2 * tT x y d (j + 1) + 2 * tR x y d (j + 1) / d ≤ 9007199254740992 →
      tT x y d j = 2 * tT x y d (j + 1) + 2 * tR x y d (j + 1) / d) := by
  have e := half_pow x j
  have hA : 0 ≤ x / 2 ^ (j + 1) := Int.ediv_nonneg hx (Int.le_of_lt (Int.pow_pos (by omega)))
  obtain ⟨s1, s2⟩ := quot_step (x / 2 ^ (j + 1)) y d 0 hd
  have hq : 0 ≤ x / 2 ^ (j + 1) * y / d := Int.ediv_nonneg (Int.mul_nonneg hA hy) (by omega)
  have hr : 0 ≤ (2 * (x / 2 ^ (j + 1) * y % d)) / d := Int.ediv_nonneg (by have := Int.emod_nonneg (x / 2 ^ (j + 1) * y) (b := d) (by omega); omega) (by omega)
  rw [hb] at e
  unfold tR tT
  rw [e, s1, s2]
  simp only [Int.zero_mul, Int.add_zero] at *
  generalize (2 * (x / 2 ^ (j + 1) * y % d)) / d = c at *
  generalize x / 2 ^ (j + 1) * y / d = q at *
  refine ⟨trivial, ?_, ?_⟩ <;> (unfold capQ; intro h; split at h <;> split <;> omega)

theorem small_quot (r s d : Int) (hd : 1 ≤ d) (h0 : 0 ≤ r) (h1 : r < d) (g0 : 0 ≤ s) (g1 : s < d) :
    0 ≤ (2 * r + s) / d ∧ (2 * r + s) / d ≤ 3 ∧ 0 ≤ 2 * r / d ∧ 2 * r / d ≤ 3 :=
  ⟨Int.ediv_nonneg (by omega) (by omega), by have := (Int.ediv_lt_iff_lt_mul (a := 2 * r + s) (b := 4) (c := d) (by omega)).mpr (by omega); omega,
   Int.ediv_nonneg (by omega) (by omega), by have := (Int.ediv_lt_iff_lt_mul (a := 2 * r) (b := 4) (c := d) (by omega)).mpr (by omega); omega⟩

theorem tT_bd (x y d : Int) (k : Nat) (hx : 0 ≤ x) (hy : 0 ≤ y) (hd : 1 ≤ d) : 0 ≤ tT x y d k ∧ tT x y d k ≤ 9007199254740993 :=
  capQ_bd _ (Int.ediv_nonneg (Int.mul_nonneg (Int.ediv_nonneg hx (Int.le_of_lt (Int.pow_pos (by omega)))) hy) (by omega))
theorem tR_bd (x y d : Int) (k : Nat) (hd : 1 ≤ d) : 0 ≤ tR x y d k ∧ tR x y d k < d :=
  ⟨Int.emod_nonneg _ (by omega), Int.emod_lt_of_pos _ (by omega)⟩
theorem tT_start (x y d : Int) (h0 : 0 ≤ x) (h1 : x ≤ 9007199254740992) : tT x y d 54 = 0 := by
  unfold tT
  rw [show x / 2 ^ 54 = 0 by omega]; simp [capQ]
theorem tR_start (x y d : Int) (h0 : 0 ≤ x) (h1 : x ≤ 9007199254740992) : tR x y d 54 = 0 := by
  unfold tR
  rw [show x / 2 ^ 54 = 0 by omega]; simp
theorem cut_tT (n m d : Int) (hd : ¬ cutI d = 0) : cutI (tT (cutI n) (cutI m) (cutI d) 0) = scaleI n m d := by
  unfold scaleI tT
  rw [if_neg hd, Int.pow_zero, Int.ediv_one]
  generalize cutI n * cutI m / cutI d = q
  unfold cutI capQ
  (repeat split) <;> omega

theorem scale_zero0 (n m d : Int) (hd : cutI d = 0) (h : cutI n = 0 ∨ cutI m = 0) : scaleI n m d = 0 := by unfold scaleI; rw [if_pos hd, if_pos h]
theorem scale_zero1 (n m d : Int) (hd : cutI d = 0) (h : ¬ (cutI n = 0 ∨ cutI m = 0)) : scaleI n m d = 9007199254740992 := by unfold scaleI; rw [if_pos hd, if_neg h]

set_option maxHeartbeats 400000 in
theorem refScale_d0 (n m d : Int) (w : World) (h1 : cutI d = 0) :
    Calls Try.prog 21 #[.int .i64 n, .int .i64 m, .int .i64 d] w fun e w' => e = .returned (.int .i64 (scaleI n m d)) ∧ w = w' := by
  have e1 : (cutI d == 0) = true := by simpa using h1
  by_cases h2 : cutI n = 0
  · have e2 : (cutI n == 0) = true := by simpa using h2
    rw [scale_zero0 n m d h1 (.inl h2)]
    clear h1 h2
    go_enter Try.func21, Try.ntmps21
    go_wp2_with (go_at_call 10; refine (refCut_any _ _).mono ?_; rintro e w' ⟨rfl, rfl⟩)
    go_ret
    exact ⟨rfl, rfl⟩
  · have e2 : (cutI n == 0) = false := by simpa using h2
    by_cases h3 : cutI m = 0
    · have e3 : (cutI m == 0) = true := by simpa using h3
      rw [scale_zero0 n m d h1 (.inr h3)]
      clear h1 h2 h3
      go_enter Try.func21, Try.ntmps21
      go_wp2_with (go_at_call 10; refine (refCut_any _ _).mono ?_; rintro e w' ⟨rfl, rfl⟩)
      go_ret
      exact ⟨rfl, rfl⟩
    · have e3 : (cutI m == 0) = false := by simpa using h3
      rw [scale_zero1 n m d h1 (by omega)]
      clear h1 h2 h3
      go_enter Try.func21, Try.ntmps21
      go_wp2_with (go_at_call 10; refine (refCut_any _ _).mono ?_; rintro e w' ⟨rfl, rfl⟩)
      go_ret
      exact ⟨rfl, rfl⟩

set_option maxHeartbeats 800000 in
theorem refScale_dpos (n m d : Int) (w : World) (h1 : ¬ cutI d = 0) :
    Calls Try.prog 21 #[.int .i64 n, .int .i64 m, .int .i64 d] w fun e w' => e = .returned (.int .i64 (scaleI n m d)) ∧ w = w' := by
  have ha := cutI_bd n
  have hb := cutI_bd m
  have hd := cutI_bd d
  have e1 : (cutI d == 0) = false := by simpa using h1
  have hd1 : 1 ≤ cutI d := by omega
  have HC := Lib.hid (cut_tT n m d h1)
  clear h1
  have hq0 : 0 ≤ cutI m / cutI d := Int.ediv_nonneg hb.1 (by omega)
  have hq1 : cutI m / cutI d ≤ 9007199254740992 := by have := Int.ediv_le_self (cutI d) hb.1; omega
  have hr0 : 0 ≤ cutI m % cutI d := Int.emod_nonneg _ (by omega)
  have hr1 : cutI m % cutI d < cutI d := Int.emod_lt_of_pos _ (by omega)
  have HS := Lib.hid (tT_start (cutI n) (cutI m) (cutI d) ha.1 ha.2)
  have HR := Lib.hid (tR_start (cutI n) (cutI m) (cutI d) ha.1 ha.2)
  go_enter Try.func21, Try.ntmps21
  go_wp2_with (go_at_call 10; refine (refCut_any _ _).mono ?_; rintro e w' ⟨rfl, rfl⟩)
  go_loop [10, 11, 12] (fun t r i => ∃ k : Nat, k ≤ 54 ∧ i = .int .i64 ((k : Int) - 1) ∧ t = .int .i64 (tT (cutI n) (cutI m) (cutI d) k) ∧ r = .int .i64 (tR (cutI n) (cutI m) (cutI d) k)) (fun _ _ i => (intOf i + 1).toNat)
  case atStart => exact ⟨54, by omega, by go_num, by rw [HS.out], by rw [HR.out]⟩
  case round =>
    obtain ⟨k, hk, rfl, rfl, rfl⟩ := hrel
    have ht := tT_bd (cutI n) (cutI m) (cutI d) k ha.1 hb.1 hd1
    have hr := tR_bd (cutI n) (cutI m) (cutI d) k hd1
    by_cases hk0 : k = 0
    · subst hk0
      go_wp2_with (go_at_call 10; refine (refCut_any _ _).mono ?_; rintro e w' ⟨rfl, rfl⟩)
      go_ret
      exact ⟨ret_i HC.out, rfl⟩
    · obtain ⟨j, rfl⟩ : ∃ j, k = j + 1 := ⟨k - 1, by omega⟩
      have sq := small_quot (tR (cutI n) (cutI m) (cutI d) (j + 1)) (cutI m % cutI d) (cutI d) hd1 hr.1 hr.2 hr0 hr1
      have hxj : 0 ≤ cutI n / 2 ^ j := Int.ediv_nonneg ha.1 (Int.le_of_lt (Int.pow_pos (by omega)))
      have hxj1 : cutI n / 2 ^ j ≤ 9007199254740992 := by have := Int.ediv_le_self (2 ^ j) ha.1; omega
      by_cases hbit : cutI n / 2 ^ j % 2 = 1
      · obtain ⟨s1, s2, s3⟩ := step_one (cutI n) (cutI m) (cutI d) j ha.1 hb.1 hd1 hbit
        have g1 := Lib.hid s1
        have g2 := Lib.hid s2
        have g3 := Lib.hid s3
        have eb : (bits BinOp.and IntKind.i64 (cutI n / 2 ^ j) 1 == 1) = true := by rw [and1_i64 _ hxj (by omega)]; simpa using hbit
        clear s1 s2 s3 hbit
        go_wp2
        all_goals
          go_round
          case rel => exact ⟨j, by omega, rfl, by first | rw [g2.out (by assumption)] | rw [g3.out (by assumption)], by rw [g1.out]⟩
          case measure => simp [intOf]
      · obtain ⟨s1, s2, s3⟩ := step_zero (cutI n) (cutI m) (cutI d) j ha.1 hb.1 hd1 (by omega)
        have g1 := Lib.hid s1
        have g2 := Lib.hid s2
        have g3 := Lib.hid s3
        have eb : (bits BinOp.and IntKind.i64 (cutI n / 2 ^ j) 1 == 1) = false := by rw [and1_i64 _ hxj (by omega)]; simpa using hbit
        clear s1 s2 s3 hbit
        go_wp2
        all_goals
          go_round
          case rel => exact ⟨j, by omega, rfl, by first | rw [g2.out (by assumption)] | rw [g3.out (by assumption)], by rw [g1.out]⟩
          case measure => simp [intOf]

theorem refScale_any (n m d : Int) (w : World) :
    Calls Try.prog 21 #[.int .i64 n, .int .i64 m, .int .i64 d] w fun e w' => e = .returned (.int .i64 (scaleI n m d)) ∧ w = w' := by
  by_cases h : cutI d = 0
  · exact refScale_d0 n m d w h
  · exact refScale_dpos n m d w h

end Go.Proofs.Ytjlhklijibpbeaa
