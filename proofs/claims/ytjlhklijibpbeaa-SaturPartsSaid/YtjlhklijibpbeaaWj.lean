/-
  The law SaturParts.
-/
import Derived.Test.YtjlhklijibpbeaaWi
namespace Go.Proofs.Ytjlhklijibpbeaa
open Go.RowKit
set_option linter.unusedVariables false

set_option maxHeartbeats 1000000 in
theorem parts_out (n m d : Int) (w : World) (h : n < 0 ∨ 67108864 < n ∨ m < 0 ∨ 67108864 < m ∨ d < 1 ∨ 67108864 < d) :
    Calls Try.prog 8 #[.int .i64 n, .int .i64 m, .int .i64 d] w (Yes w) := by
  by_cases h1 : n < 0
  · clear h
    go_enter Try.func8, Try.ntmps8
    go_wp2_with (go_at_call 19; refine (awake_any _).mono ?_; rintro e w' ⟨k, rfl, rfl⟩)
    go_ret
    exact yes_mk
  by_cases h2 : 67108864 < n
  · clear h
    go_enter Try.func8, Try.ntmps8
    go_wp2_with (go_at_call 19; refine (awake_any _).mono ?_; rintro e w' ⟨k, rfl, rfl⟩)
    go_ret
    exact yes_mk
  by_cases h3 : m < 0
  · clear h
    go_enter Try.func8, Try.ntmps8
    go_wp2_with (go_at_call 19; refine (awake_any _).mono ?_; rintro e w' ⟨k, rfl, rfl⟩)
    go_ret
    exact yes_mk
  by_cases h4 : 67108864 < m
  · clear h
    go_enter Try.func8, Try.ntmps8
    go_wp2_with (go_at_call 19; refine (awake_any _).mono ?_; rintro e w' ⟨k, rfl, rfl⟩)
    go_ret
    exact yes_mk
  by_cases h5 : d < 1
  · clear h
    go_enter Try.func8, Try.ntmps8
    go_wp2_with (go_at_call 19; refine (awake_any _).mono ?_; rintro e w' ⟨k, rfl, rfl⟩)
    go_ret
    exact yes_mk
  · have h6 : 67108864 < d := by omega
    clear h
    go_enter Try.func8, Try.ntmps8
    go_wp2_with (go_at_call 19; refine (awake_any _).mono ?_; rintro e w' ⟨k, rfl, rfl⟩)
    go_ret
    exact yes_mk

theorem scale_small (n m d : Int) (n0 : 0 ≤ n) (n1 : n ≤ 67108864) (m0 : 0 ≤ m) (m1 : m ≤ 67108864) (d0 : 1 ≤ d) (d1 : d ≤ 67108864) : scaleI n m d = n * m / d := by
  have hp0 : 0 ≤ n * m := Int.mul_nonneg n0 m0
  have hp1 : n * m ≤ 67108864 * 67108864 := Int.mul_le_mul n1 m1 m0 (by omega)
  have hq := Int.ediv_le_self d hp0
  rw [scale_q (by rw [cut_id (by omega) (by omega)]; omega), cut_id n0 (by omega), cut_id m0 (by omega), cut_id (n := d) (by omega) (by omega)]
  exact cut_id (Int.ediv_nonneg hp0 (by omega)) (by omega)

set_option maxHeartbeats 1000000 in
theorem parts_in (n m d P q z : Int) (w : World) (n0 : 0 ≤ n) (n1 : n ≤ 67108864) (m0 : 0 ≤ m) (m1 : m ≤ 67108864) (d0 : 1 ≤ d) (d1 : d ≤ 67108864)
    (hP : n * m = P) (p0 : 0 ≤ P) (p1 : P ≤ 4503599627370496) (hq : P / d = q) (hs : scaleI n m d = q) (q0 : 0 ≤ q) (q1 : q ≤ 4503599627370496) (hz : q * d = z) (z0 : 0 ≤ z) (z1 : z ≤ P) (z2 : P - z < d) (hn : scaleI n d d = n) :
    Calls Try.prog 8 #[.int .i64 n, .int .i64 m, .int .i64 d] w (Yes w) := by
  go_enter Try.func8, Try.ntmps8
  go_wp2_with (first | (go_at_call 19; refine (awake_any _).mono ?_; rintro e w' ⟨k, rfl, rfl⟩) | (go_at_call 20; refine (satScale_any _ _ _ _).mono ?_; rintro e w' ⟨k, rfl, rfl⟩))
  go_ret
  exact yes_mk

theorem parts_any (n m d : Int) (w : World) : Calls Try.prog 8 #[.int .i64 n, .int .i64 m, .int .i64 d] w (Yes w) := by
  by_cases h : n < 0 ∨ 67108864 < n ∨ m < 0 ∨ 67108864 < m ∨ d < 1 ∨ 67108864 < d
  · exact parts_out n m d w h
  · have n0 : 0 ≤ n := by omega
    have n1 : n ≤ 67108864 := by omega
    have m0 : 0 ≤ m := by omega
    have m1 : m ≤ 67108864 := by omega
    have d0 : 1 ≤ d := by omega
    have d1 : d ≤ 67108864 := by omega
    have hp0 : 0 ≤ n * m := Int.mul_nonneg n0 m0
    have hp1 : n * m ≤ 67108864 * 67108864 := Int.mul_le_mul n1 m1 m0 (by omega)
    have hq := Int.ediv_le_self d hp0
    have hq0 : 0 ≤ n * m / d := Int.ediv_nonneg hp0 (by omega)
    have e := Int.mul_ediv_add_emod (n * m) d
    have e0 := Int.emod_nonneg (n * m) (b := d) (by omega)
    have e1 := Int.emod_lt_of_pos (n * m) (b := d) (by omega)
    have hz : 0 ≤ n * m / d * d := Int.mul_nonneg hq0 (by omega)
    rw [Int.mul_comm] at e
    refine parts_in n m d _ _ _ w n0 n1 m0 m1 d0 d1 rfl hp0 (by omega) rfl (scale_small n m d n0 n1 m0 m1 d0 d1) hq0 (by omega) rfl hz (by omega) (by omega) ?_
    rw [scale_small n d d n0 n1 (by omega) d1 d0 d1, Int.mul_ediv_cancel _ (by omega)]

end Go.Proofs.Ytjlhklijibpbeaa
