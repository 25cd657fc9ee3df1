/-
  KeptBytes: what was lent is as it was.
-/
import Derived.Test.YtaikpgcmcmkdcaaBWords
import Derived.Test.YtaikpgcmcmkdcaaBSame
import Derived.Test.YtaikpgcmcmkdcaaBLent
import Derived.Deep.RegionHeld3
namespace Go.Proofs.Ytaikpgcmcmkdcaa
open Go.RowKit
set_option linter.unusedVariables false
set_option maxRecDepth 100000

def KeptPost (w : World) (e : Ending) (w' : World) : Prop := e = .returned (.bool true) ∧ Below w.heap.size w w'

end Go.Proofs.Ytaikpgcmcmkdcaa
