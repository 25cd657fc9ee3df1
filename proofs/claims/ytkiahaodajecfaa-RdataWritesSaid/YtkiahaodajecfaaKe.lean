/-
  The document's Read.
-/
import Derived.Test.YtkiahaodajecfaaKd
import Derived.Test.YtkiahaodajecfaaBSame
namespace Go.Proofs.Ytkiahaodajecfaa
open Go.RowKit Go.Shelf
set_option linter.unusedVariables false
set_option maxRecDepth 100000

theorem lex_lt {L p i T : Nat} (hT : T < p) (hi : i ≤ L) : T * (L + 1) + (L - T) < p * (L + 1) + (L - i) := by
  have h := Nat.mul_le_mul_right (L + 1) (show T + 1 ≤ p from hT)
  rw [Nat.add_mul] at h
  generalize T * (L + 1) = x at *
  generalize p * (L + 1) = y at *
  omega

end Go.Proofs.Ytkiahaodajecfaa
