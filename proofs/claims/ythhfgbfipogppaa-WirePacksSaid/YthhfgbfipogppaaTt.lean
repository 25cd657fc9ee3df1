/-
  The document's Within and Compare.
-/
import Derived.Test.YthhfgbfipogppaaTp
namespace Go.Proofs.Ythhfgbfipogppaa
open Go.RowKit Go.Shelf
set_option linter.unusedVariables false
set_option linter.unusedSimpArgs false

theorem chk_wire_len {n : List UInt8} (h : chk n = 0) : (wire (labs n)).length ≤ 254 := by
  have h1 := congrArg List.length (chk_wire h)
  have h2 := (chk_ok h).2
  simp at h1
  omega

end Go.Proofs.Ythhfgbfipogppaa
