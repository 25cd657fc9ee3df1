/-
  KeptBytes: what was lent is as it was.
-/
import Derived.Test.YtkiahaodajecfaaBWords
import Derived.Test.YtkiahaodajecfaaBSame
import Derived.Test.YtkiahaodajecfaaBLent
import Derived.Deep.RegionHeld3
namespace Go.Proofs.Ytkiahaodajecfaa
open Go.RowKit
set_option linter.unusedVariables false
set_option maxRecDepth 100000

def KeptPost (w : World) (e : Ending) (w' : World) : Prop := e = .returned (.bool true) ∧ Below w.heap.size w w'

end Go.Proofs.Ytkiahaodajecfaa
