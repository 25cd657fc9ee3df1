/-
  What the document's examples say: faulty, awake.
-/
import Derived.Test.YtaikpgcmcmkdcaaTy
import Derived.Test.YtaikpgcmcmkdcaaTt
import Derived.Test.YtaikpgcmcmkdcaaTp
namespace Go.Proofs.Ytaikpgcmcmkdcaa
open Go.RowKit Go.Shelf
set_option linter.unusedVariables false
set_option maxRecDepth 100000
set_option linter.unusedSimpArgs false

/-- Labels that a name may have. -/
def Shorts (l : List (List UInt8)) : Prop := (∀ x ∈ l, 0 < x.length ∧ x.length ≤ 63) ∧ (wire l).length ≤ 254

theorem shorts_chk {l : List (List UInt8)} (h : Shorts l) : chk (wire l ++ [0]) = 0 := chk_of_wire l h.1 h.2
theorem shorts_labs {l : List (List UInt8)} (h : Shorts l) : labs (wire l ++ [0]) = l := (labs_wire l h.1).1
theorem shorts_of {n : List UInt8} (h : chk n = 0) : Shorts (labs n) ∧ n = wire (labs n) ++ [0] := ⟨⟨labs_short n, chk_wire_len h⟩, chk_wire h⟩
instance (l : List (List UInt8)) : Decidable (Shorts l) := by unfold Shorts; infer_instance

end Go.Proofs.Ytaikpgcmcmkdcaa
