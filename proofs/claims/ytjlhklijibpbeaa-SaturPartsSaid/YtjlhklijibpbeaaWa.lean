/-
  Walks over the small functions of satur and its reference: cut, word, Cut, Add, Sub: each returns what its plain Lean function says, and the world is as it was.
-/
import Derived.Test.YtjlhklijibpbeaaRows
import Derived.WalkKit
import Derived.WalkSpells
import Derived.WalkLawsBesides
namespace Go.Proofs.Ytjlhklijibpbeaa
open Go.RowKit

def cutI (n : Int) : Int := if n < 0 then 0 else if 9007199254740992 < n then 9007199254740992 else n
theorem cutI_bd (n : Int) : 0 ≤ cutI n ∧ cutI n ≤ 9007199254740992 := by unfold cutI; split <;> (try split) <;> omega
theorem ret_i {k : IntKind} {a b : Int} (h : a = b) : Ending.returned (.int k a) = .returned (.int k b) := by rw [h]

set_option maxHeartbeats 400000 in
theorem cut_any (n : Int) (w : World) :
    Calls Try.prog 25 #[.int .i64 n] w fun e w' => e = .returned (.int .i64 (cutI n)) ∧ w = w' := by
  go_enter Try.func25, Try.ntmps25
  go_wp2
  all_goals
    go_ret
    refine ⟨ret_i ?_, rfl⟩
    unfold cutI
    (repeat split) <;> omega

set_option maxHeartbeats 400000 in
theorem cutU_any (n : Int) (h0 : 0 ≤ n) (w : World) :
    Calls Try.prog 29 #[.int .u64 n] w fun e w' => e = .returned (.int .i64 (cutI n)) ∧ w = w' := by
  go_enter Try.func29, Try.ntmps29
  go_wp2
  all_goals
    go_ret
    refine ⟨ret_i ?_, rfl⟩
    unfold cutI
    (repeat split) <;> omega

set_option maxHeartbeats 400000 in
theorem refCut_any (n : Int) (w : World) :
    Calls Try.prog 10 #[.int .i64 n] w fun e w' => e = .returned (.int .i64 (cutI n)) ∧ w = w' := by
  go_enter Try.func10, Try.ntmps10
  go_wp2
  all_goals
    go_ret
    refine ⟨ret_i ?_, rfl⟩
    unfold cutI
    (repeat split) <;> omega

set_option maxHeartbeats 400000 in
theorem satCut_any (n : Int) (w : World) :
    Calls Try.prog 9 #[.int .i64 n] w fun e w' => e = .returned (.int .i64 (cutI n)) ∧ w = w' := by
  go_enter Try.func9, Try.ntmps9
  go_wp2_with (go_at_call 25; refine (cut_any _ _).mono ?_; rintro e w' ⟨rfl, rfl⟩)
  go_ret
  exact ⟨rfl, rfl⟩

set_option maxHeartbeats 400000 in
theorem word_any (n : Int) (w : World) :
    Calls Try.prog 27 #[.int .i64 n] w fun e w' => e = .returned (.int .u64 (cutI n)) ∧ w = w' := by
  have hb := cutI_bd n
  go_enter Try.func27, Try.ntmps27
  go_wp2_with (go_at_call 25; refine (cut_any _ _).mono ?_; rintro e w' ⟨rfl, rfl⟩)
  go_ret
  exact ⟨rfl, rfl⟩

set_option maxHeartbeats 400000 in
theorem satAdd_any (a b : Int) (w : World) :
    Calls Try.prog 11 #[.int .i64 a, .int .i64 b] w fun e w' => e = .returned (.int .i64 (cutI (cutI a + cutI b))) ∧ w = w' := by
  have ha := cutI_bd a
  have hb := cutI_bd b
  go_enter Try.func11, Try.ntmps11
  go_wp2_with (go_at_call 25; refine (cut_any _ _).mono ?_; rintro e w' ⟨rfl, rfl⟩)
  go_ret
  exact ⟨rfl, rfl⟩

set_option maxHeartbeats 400000 in
theorem satSub_any (a b : Int) (w : World) :
    Calls Try.prog 13 #[.int .i64 a, .int .i64 b] w fun e w' => e = .returned (.int .i64 (cutI (cutI a - cutI b))) ∧ w = w' := by
  have ha := cutI_bd a
  have hb := cutI_bd b
  go_enter Try.func13, Try.ntmps13
  go_wp2_with (go_at_call 25; refine (cut_any _ _).mono ?_; rintro e w' ⟨rfl, rfl⟩)
  go_ret
  exact ⟨rfl, rfl⟩

set_option maxHeartbeats 400000 in
theorem refAdd_any (a b : Int) (w : World) :
    Calls Try.prog 12 #[.int .i64 a, .int .i64 b] w fun e w' => e = .returned (.int .i64 (cutI (cutI a + cutI b))) ∧ w = w' := by
  have ha := cutI_bd a
  have hb := cutI_bd b
  go_enter Try.func12, Try.ntmps12
  go_wp2_with (go_at_call 10; refine (refCut_any _ _).mono ?_; rintro e w' ⟨rfl, rfl⟩)
  go_ret
  exact ⟨rfl, rfl⟩

set_option maxHeartbeats 400000 in
theorem refSub_any (a b : Int) (w : World) :
    Calls Try.prog 14 #[.int .i64 a, .int .i64 b] w fun e w' => e = .returned (.int .i64 (cutI (cutI a - cutI b))) ∧ w = w' := by
  have ha := cutI_bd a
  have hb := cutI_bd b
  go_enter Try.func14, Try.ntmps14
  go_wp2_with (go_at_call 10; refine (refCut_any _ _).mono ?_; rintro e w' ⟨rfl, rfl⟩)
  go_ret
  exact ⟨rfl, rfl⟩

/-- What Mul tells: the product of the two counts, cut. -/
def mulI (a b : Int) : Int := cutI (cutI a * cutI b)
/-- What Div tells. -/
def divI (a b : Int) : Int := if cutI b = 0 then (if cutI a = 0 then 0 else 9007199254740992) else cutI a / cutI b

set_option maxHeartbeats 400000 in
theorem refDiv_any (a b : Int) (w : World) :
    Calls Try.prog 18 #[.int .i64 a, .int .i64 b] w fun e w' => e = .returned (.int .i64 (divI a b)) ∧ w = w' := by
  have ha := cutI_bd a
  have hb := cutI_bd b
  by_cases h1 : cutI b = 0
  · by_cases h2 : cutI a = 0
    · have e1 : (cutI b == 0) = true := by simpa using h1
      have e2 : (cutI a == 0) = true := by simpa using h2
      have ed : divI a b = 0 := by unfold divI; rw [if_pos h1, if_pos h2]
      rw [ed]
      clear h1 h2 ed
      go_enter Try.func18, Try.ntmps18
      go_wp2_with (go_at_call 10; refine (refCut_any _ _).mono ?_; rintro e w' ⟨rfl, rfl⟩)
      go_ret
      exact ⟨rfl, rfl⟩
    · have e1 : (cutI b == 0) = true := by simpa using h1
      have e2 : (cutI a == 0) = false := by simpa using h2
      have ed : divI a b = 9007199254740992 := by unfold divI; rw [if_pos h1, if_neg h2]
      rw [ed]
      clear h1 h2 ed
      go_enter Try.func18, Try.ntmps18
      go_wp2_with (go_at_call 10; refine (refCut_any _ _).mono ?_; rintro e w' ⟨rfl, rfl⟩)
      go_ret
      exact ⟨rfl, rfl⟩
  · have e1 : (cutI b == 0) = false := by simpa using h1
    have hb1 : 1 ≤ cutI b := by omega
    have ed : divI a b = cutI a / cutI b := by unfold divI; rw [if_neg h1]
    rw [ed]
    clear h1 ed
    go_enter Try.func18, Try.ntmps18
    go_wp2_with (go_at_call 10; refine (refCut_any _ _).mono ?_; rintro e w' ⟨rfl, rfl⟩)
    go_ret
    exact ⟨rfl, rfl⟩

theorem mul_zero_l (a b : Int) (h : cutI a = 0) : mulI a b = 0 := by unfold mulI; rw [h]; simp [cutI]
theorem mul_zero_r (a b : Int) (h : cutI b = 0) : mulI a b = 0 := by unfold mulI; rw [h]; simp [cutI]
theorem mul_big (a b : Int) (hb : 1 ≤ cutI b) (h : 9007199254740992 / cutI b < cutI a) : mulI a b = 9007199254740992 := by
  unfold mulI
  have : 9007199254740992 < cutI a * cutI b := (Int.ediv_lt_iff_lt_mul (by omega)).mp h
  generalize cutI a * cutI b = p at this
  unfold cutI; rw [if_neg (by omega), if_pos this]
theorem mul_small_bd (a b : Int) (hb : 1 ≤ cutI b) (h : ¬ 9007199254740992 / cutI b < cutI a) : 0 ≤ cutI a * cutI b ∧ cutI a * cutI b ≤ 9007199254740992 := by
  have : ¬ 9007199254740992 < cutI a * cutI b := fun g => h ((Int.ediv_lt_iff_lt_mul (by omega)).mpr g)
  exact ⟨Int.mul_nonneg (cutI_bd a).1 (cutI_bd b).1, by omega⟩

set_option maxHeartbeats 400000 in
theorem refMul_any (a b : Int) (w : World) :
    Calls Try.prog 16 #[.int .i64 a, .int .i64 b] w fun e w' => e = .returned (.int .i64 (mulI a b)) ∧ w = w' := by
  have ha := cutI_bd a
  have hb := cutI_bd b
  by_cases h1 : cutI a = 0
  · have e1 : (cutI a == 0) = true := by simpa using h1
    rw [mul_zero_l a b h1]
    clear h1
    go_enter Try.func16, Try.ntmps16
    go_wp2_with (go_at_call 10; refine (refCut_any _ _).mono ?_; rintro e w' ⟨rfl, rfl⟩)
    go_outline
    go_ret
    exact ⟨rfl, rfl⟩
  · have e1 : (cutI a == 0) = false := by simpa using h1
    by_cases h2 : cutI b = 0
    · have e2 : (cutI b == 0) = true := by simpa using h2
      rw [mul_zero_r a b h2]
      clear h1 h2
      go_enter Try.func16, Try.ntmps16
      go_wp2_with (go_at_call 10; refine (refCut_any _ _).mono ?_; rintro e w' ⟨rfl, rfl⟩)
      go_outline
      go_ret
      exact ⟨rfl, rfl⟩
    · have e2 : (cutI b == 0) = false := by simpa using h2
      have hb1 : 1 ≤ cutI b := by omega
      by_cases h3 : 9007199254740992 / cutI b < cutI a
      · rw [mul_big a b hb1 h3]
        clear h1 h2
        go_enter Try.func16, Try.ntmps16
        go_wp2_with (go_at_call 10; refine (refCut_any _ _).mono ?_; rintro e w' ⟨rfl, rfl⟩)
        go_outline
        go_ret
        exact ⟨rfl, rfl⟩
      · have hp := mul_small_bd a b hb1 h3
        unfold mulI
        clear h1 h2
        go_enter Try.func16, Try.ntmps16
        go_wp2_with (go_at_call 10; refine (refCut_any _ _).mono ?_; rintro e w' ⟨rfl, rfl⟩)
        go_outline
        go_ret
        exact ⟨rfl, rfl⟩

end Go.Proofs.Ytjlhklijibpbeaa
