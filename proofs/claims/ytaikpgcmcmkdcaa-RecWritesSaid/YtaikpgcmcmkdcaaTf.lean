/-
  strings.Clone; Labels.
-/
import Derived.Test.YtaikpgcmcmkdcaaTd
import Derived.Test.YtaikpgcmcmkdcaaShelf
namespace Go.Proofs.Ytaikpgcmcmkdcaa
open Go.RowKit Go.Shelf
set_option linter.unusedVariables false
set_option maxRecDepth 100000
attribute [local go_sem] Oper.semAt_some

theorem clone_any (s : ByteArray) (hs : s.size ≤ 1000000) (w : World) : Calls Try.prog 82 #[.string s] w (Tells w (.string s)) := by
  have H := Lib.hid (fun w => Try.stringslite_Clone s w (by omega))
  go_enter Try.func82, Try.ntmps82
  go_wp2_with (go_at_call 98; refine (H.out _).mono ?_; rintro e w1 ⟨rfl, hb⟩; have HB := Lib.hid hb; clear hb)
  go_ret
  exact ⟨rfl, HB.out⟩

/-- The labels that are told. -/
def lbs (n : List UInt8) : List (List UInt8) := if chk n = 0 then labs n else []

/-- Labels' answer: a row of the call's own, and the error. -/
def LabsPost (w : World) (n : List UInt8) (e : Ending) (w' : World) : Prop := ∃ v, e = .returned (.tuple #[v, .int .i64 (chk n)]) ∧ OwnT w' w.heap.size v (lbs n) ∧ Below w.heap.size w w'

end Go.Proofs.Ytaikpgcmcmkdcaa
