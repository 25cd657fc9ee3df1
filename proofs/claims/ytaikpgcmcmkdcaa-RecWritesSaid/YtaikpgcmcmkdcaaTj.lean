/-
  join, over whatever iterator.
-/
import Derived.Test.YtaikpgcmcmkdcaaTi
namespace Go.Proofs.Ytaikpgcmcmkdcaa
open Go.RowKit Go.Shelf
set_option linter.unusedVariables false
set_option maxRecDepth 100000
attribute [local go_sem] Oper.semAt_some

/-- The first label's error. -/
def jerr : List (List UInt8) → Int
  | [] => 0
  | x :: r => if x = [] then 2 else if 63 < x.length then 3 else jerr r

/-- The name of labels, and the error. -/
def jname (l : List (List UInt8)) : List UInt8 := if jerr l = 0 ∧ (wire l).length ≤ 254 then wire l ++ [0] else []
def jcode (l : List (List UInt8)) : Int := if jerr l = 0 then (if (wire l).length ≤ 254 then 0 else 3) else jerr l

end Go.Proofs.Ytaikpgcmcmkdcaa
