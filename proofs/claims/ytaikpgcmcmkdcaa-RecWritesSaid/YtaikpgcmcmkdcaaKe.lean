/-
  The document's Read.
-/
import Derived.Test.YtaikpgcmcmkdcaaKd
import Derived.Test.YtaikpgcmcmkdcaaBSame
namespace Go.Proofs.Ytaikpgcmcmkdcaa
open Go.RowKit Go.Shelf
set_option linter.unusedVariables false
set_option maxRecDepth 100000

theorem bs_app (a b : List UInt8) : bs a ++ bs b = bs (a ++ b) := by
  have e := bs_eta (bs a ++ bs b)
  rw [e, ByteArray.data_append]
  simp [bs]

theorem add_txt (a b : List UInt8) (ha : a.length ≤ 1000000) (hb : b.length ≤ 1000000) (w : World) : (Op.stringOp .add (bs a) (bs b)).run Try.prog w = .ok (.string (bs (a ++ b))) w := by
  rw [run_string_add_sum _ _ _ (by simp; omega)]
  congr 2

theorem lex_lt {L p i T : Nat} (hT : T < p) (hi : i ≤ L) : T * (L + 1) + (L - T) < p * (L + 1) + (L - i) := by
  have h := Nat.mul_le_mul_right (L + 1) (show T + 1 ≤ p from hT)
  rw [Nat.add_mul] at h
  generalize T * (L + 1) = x at *
  generalize p * (L + 1) = y at *
  omega

end Go.Proofs.Ytaikpgcmcmkdcaa
