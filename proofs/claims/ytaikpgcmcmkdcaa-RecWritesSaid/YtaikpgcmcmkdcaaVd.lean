/-
  The statement about the order of names.
-/
import Derived.Test.YtaikpgcmcmkdcaaUc
namespace Go.Proofs.Ytaikpgcmcmkdcaa
open Go.RowKit Go.Shelf
set_option linter.unusedVariables false
set_option maxRecDepth 100000
set_option linter.unusedSimpArgs false

theorem tell_on {f : Nat} {args : Array Value} {v : Value} {w0 w : World} (h : Hid (Below w0.heap.size w0 w)) (hc : Calls Try.prog f args w (Tells w v)) : Calls Try.prog f args w fun e w' => e = .returned v ∧ Hid (Below w0.heap.size w0 w') :=
  hc.mono fun e w' hp => ⟨hp.1, bel_call h.out hp.2⟩

end Go.Proofs.Ytaikpgcmcmkdcaa
