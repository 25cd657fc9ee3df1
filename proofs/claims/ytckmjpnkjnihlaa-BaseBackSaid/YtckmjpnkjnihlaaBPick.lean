/-
  Pick: a number from 0 on, below n.
-/
import Derived.Test.YtckmjpnkjnihlaaBWords
namespace Go.Proofs.Ytckmjpnkjnihlaa
open Go.RowKit
set_option linter.unusedVariables false
set_option maxRecDepth 100000

set_option maxHeartbeats 400000 in
theorem pick_any (x n : Int) (w : World) (h1 : 1 ≤ n) (h2 : n ≤ 100000) : Calls Try.prog 18 #[.int .i64 x, .int .i64 n] w fun e w' => ∃ k : Nat, k < n ∧ e = .returned (.int .i64 k) ∧ w = w' := by
  go_enter Try.func18, Try.ntmps18
  go_wp2
  · go_ret
    refine ⟨(wrap64 (x.tmod n + n)).toNat, ?_, ?_, rfl⟩
    all_goals
      have h3 : -n < x.tmod n := by
        have := Int.tmod_lt_of_pos (-x) (b := n) (by omega)
        rw [Int.neg_tmod] at this
        omega
      have e : wrap64 (x.tmod n + n) = x.tmod n + n := IntWalk.wrap64_in _ ⟨by omega, by omega⟩
      rw [e]
    · omega
    · rw [Int.toNat_of_nonneg (by omega)]; rfl
  · go_ret
    have := Int.tmod_lt_of_pos x (b := n) (by omega)
    refine ⟨(x.tmod n).toNat, by omega, ?_, rfl⟩
    rw [Int.toNat_of_nonneg (by omega)]; rfl
end Go.Proofs.Ytckmjpnkjnihlaa
