/-
  The calls of satur and of the reference by name, the law's own small functions, and the laws that speak of numbers alone: SaturReckons, SaturScales.
-/
import Derived.Test.YtjlhklijibpbeaaWf
namespace Go.Proofs.Ytjlhklijibpbeaa
open Go.RowKit
set_option linter.unusedVariables false

theorem cut_id {n : Int} (h0 : 0 ≤ n) (h1 : n ≤ 9007199254740992) : cutI n = n := by unfold cutI; rw [if_neg (by omega), if_neg (by omega)]

theorem scale_mul (a b : Int) : scaleI a b 1 = mulI a b := by
  have : cutI 1 = 1 := by decide
  unfold scaleI mulI
  rw [this, if_neg (by decide), Int.ediv_one]
theorem scale_div (a b : Int) : scaleI a 1 b = divI a b := by
  have e : cutI 1 = 1 := by decide
  unfold scaleI divI
  rw [e]
  simp only [Int.mul_one]
  split
  · simp
  · have ha := cutI_bd a
    have hb := cutI_bd b
    exact cut_id (Int.ediv_nonneg ha.1 hb.1) (by have := Int.ediv_le_self (cutI b) ha.1; omega)

/-- What Add and Sub tell. -/
def addI (a b : Int) : Int := cutI (cutI a + cutI b)
def subI (a b : Int) : Int := cutI (cutI a - cutI b)

theorem sAdd (a b : Int) (w : World) : Calls Try.prog 11 #[.int .i64 a, .int .i64 b] w fun e w' => e = .returned (.int .i64 (addI a b)) ∧ w = w' := satAdd_any a b w
theorem sSub (a b : Int) (w : World) : Calls Try.prog 13 #[.int .i64 a, .int .i64 b] w fun e w' => e = .returned (.int .i64 (subI a b)) ∧ w = w' := satSub_any a b w
theorem rAdd (a b : Int) (w : World) : Calls Try.prog 12 #[.int .i64 a, .int .i64 b] w fun e w' => e = .returned (.int .i64 (addI a b)) ∧ w = w' := refAdd_any a b w
theorem rSub (a b : Int) (w : World) : Calls Try.prog 14 #[.int .i64 a, .int .i64 b] w fun e w' => e = .returned (.int .i64 (subI a b)) ∧ w = w' := refSub_any a b w

set_option maxHeartbeats 400000 in
theorem sMul (a b : Int) (w : World) : Calls Try.prog 15 #[.int .i64 a, .int .i64 b] w (Tells (mulI a b) w) := by
  have HF := Lib.hid (scale_mul a b)
  go_enter Try.func15, Try.ntmps15
  go_wp2_with (go_at_call 20; refine (satScale_any _ _ _ _).mono ?_; rintro e w' ⟨k, rfl, rfl⟩)
  go_ret
  exact tells_mk HF.out

set_option maxHeartbeats 400000 in
theorem sDiv (a b : Int) (w : World) : Calls Try.prog 17 #[.int .i64 a, .int .i64 b] w (Tells (divI a b) w) := by
  have HF := Lib.hid (scale_div a b)
  go_enter Try.func17, Try.ntmps17
  go_wp2_with (go_at_call 20; refine (satScale_any _ _ _ _).mono ?_; rintro e w' ⟨k, rfl, rfl⟩)
  go_ret
  exact tells_mk HF.out

/-- 'true' is told, and at most an order has been drawn. -/
def Yes (w : World) (e : Ending) (w' : World) : Prop := ∃ n, e = .returned (.bool true) ∧ w' = w.drewN n
theorem yes_mk {w : World} {n : Nat} : Yes w (.returned (.bool true)) (w.drewN n) := ⟨n, rfl, rfl⟩
theorem yes_mk0 {w : World} : Yes w (.returned (.bool true)) w := ⟨0, rfl, rfl⟩

set_option maxHeartbeats 400000 in
theorem awake_any (w : World) : Calls Try.prog 19 #[] w (Yes w) := by
  have f1 : addI 9007199254740992 1 = 9007199254740992 := by decide
  have f2 : subI 3 5 = 0 := by decide
  have f3 : mulI 3 4 = 12 := by decide
  have f4 : divI 7 2 = 3 := by decide
  go_enter Try.func19, Try.ntmps19
  go_wp2_with (first | (go_at_call 11; refine (sAdd _ _ _).mono ?_; rintro e w' ⟨rfl, rfl⟩) | (go_at_call 13; refine (sSub _ _ _).mono ?_; rintro e w' ⟨rfl, rfl⟩) | (go_at_call 15; refine (sMul _ _ _).mono ?_; rintro e w' ⟨k, rfl, rfl⟩) | (go_at_call 17; refine (sDiv _ _ _).mono ?_; rintro e w' ⟨k, rfl, rfl⟩))
  go_ret
  exact yes_mk

set_option maxHeartbeats 400000 in
theorem scales_any (n m d : Int) (w : World) : Calls Try.prog 4 #[.int .i64 n, .int .i64 m, .int .i64 d] w (Yes w) := by
  go_enter Try.func4, Try.ntmps4
  go_wp2_with (first | (go_at_call 20; refine (satScale_any _ _ _ _).mono ?_; rintro e w' ⟨k, rfl, rfl⟩) | (go_at_call 21; refine (refScale_any _ _ _ _).mono ?_; rintro e w' ⟨rfl, rfl⟩) | (go_at_call 19; refine (awake_any _).mono ?_; rintro e w' ⟨k, rfl, rfl⟩))
  go_ret
  exact yes_mk

set_option maxHeartbeats 400000 in
theorem reckons_any (a b : Int) (w : World) : Calls Try.prog 3 #[.int .i64 a, .int .i64 b] w (Yes w) := by
  go_enter Try.func3, Try.ntmps3
  go_wp2_with (first | (go_at_call 9; refine (satCut_any _ _).mono ?_; rintro e w' ⟨rfl, rfl⟩) | (go_at_call 10; refine (refCut_any _ _).mono ?_; rintro e w' ⟨rfl, rfl⟩) | (go_at_call 11; refine (sAdd _ _ _).mono ?_; rintro e w' ⟨rfl, rfl⟩) | (go_at_call 12; refine (rAdd _ _ _).mono ?_; rintro e w' ⟨rfl, rfl⟩) | (go_at_call 13; refine (sSub _ _ _).mono ?_; rintro e w' ⟨rfl, rfl⟩) | (go_at_call 14; refine (rSub _ _ _).mono ?_; rintro e w' ⟨rfl, rfl⟩) | (go_at_call 15; refine (sMul _ _ _).mono ?_; rintro e w' ⟨k, rfl, rfl⟩) | (go_at_call 16; refine (refMul_any _ _ _).mono ?_; rintro e w' ⟨rfl, rfl⟩) | (go_at_call 17; refine (sDiv _ _ _).mono ?_; rintro e w' ⟨k, rfl, rfl⟩) | (go_at_call 18; refine (refDiv_any _ _ _).mono ?_; rintro e w' ⟨rfl, rfl⟩) | (go_at_call 19; refine (awake_any _).mono ?_; rintro e w' ⟨k, rfl, rfl⟩))
  go_ret
  exact yes_mk

end Go.Proofs.Ytjlhklijibpbeaa
