/-
  The panic of an index out of range, as it ends a call.
-/
import Derived.Test.YtaikpgcmcmkdcaaBWords
namespace Go.Proofs.Ytaikpgcmcmkdcaa
open Go.RowKit
set_option linter.unusedVariables false
set_option maxRecDepth 100000

/-- An end by the panic of an index out of range; below w nothing has turned. -/
def NumBad (w : World) (e : Ending) (w' : World) : Prop :=
  ∃ x y s c, e = .panicked [{ v := .iface 8 (.agg #[.int .i64 x, .int .i64 y, .bool s, .int .u8 c]), recovered := false }] ∧ Below w.heap.size w w'

theorem bp_run {α : Type} (k : IntKind) (x y : Int) (code : BoundsCode) (w : World) :
    ∃ s n c, (boundsPanic k x y code : Sem α).run Try.prog w = .halt (.panic (.iface 8 (.agg #[.int .i64 (IntKind.i64.wrap x), .int .i64 y, .bool s, .int .u8 c]))) (w.drewN n) := by
  unfold boundsPanic
  split
  · simp only [runtimePanic, goPanic, go_sem]
    exact ⟨_, 1, _, rfl⟩
  · simp only [runtimePanic, goPanic, go_sem]
    exact ⟨_, 0, _, rfl⟩

theorem idx_out (a : Option Addr) (len cap : Nat) (i : Int) (hnil : a = none → len = 0) (ho : i < 0 ∨ (len : Int) ≤ i) (w : World) :
    ∃ x y s n c, (Instr.indexAt 43 (.slice a len cap) (.int .i64 i)).run Try.prog w = .halt (.panic (.iface 8 (.agg #[.int .i64 x, .int .i64 y, .bool s, .int .u8 c]))) (w.drewN n) := by
  cases a with
  | some a =>
    rw [run_indexAt_slice (h := Try.underlying43), if_neg (by omega)]
    obtain ⟨s, n, c, h⟩ := bp_run (α := Value) .i64 i len .index w
    exact ⟨_, _, s, n, c, h⟩
  | none =>
    obtain rfl := hnil rfl
    have e : (Instr.indexAt 43 (.slice none 0 cap) (.int .i64 i)).run Try.prog w = (boundsPanic .i64 i 0 .index).run Try.prog w := by
      simp [Instr.indexAt, run_underlying Try.underlying43, asIntOf]
    rw [e]
    obtain ⟨s, n, c, h⟩ := bp_run (α := Value) .i64 i 0 .index w
    exact ⟨_, _, s, n, c, h⟩
end Go.Proofs.Ytaikpgcmcmkdcaa
