/-
  AppendSeq, Collect, Reverse; downward.
-/
import Derived.Test.YtaikpgcmcmkdcaaTn
import Derived.Lib.LazyBuf
namespace Go.Proofs.Ytaikpgcmcmkdcaa
open Go.RowKit Go.Shelf
set_option linter.unusedVariables false
set_option maxRecDepth 100000
attribute [local go_sem] Oper.semAt_some

/-- downward's answer: the labels of the lower form, the last one first. -/
def down (n : List UInt8) : List (List UInt8) := (labs (low n)).reverse

theorem low_len (n : List UInt8) : (low n).length = n.length := by simp [low]

end Go.Proofs.Ytaikpgcmcmkdcaa
