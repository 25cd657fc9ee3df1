/-
  Check, is.
-/
import Derived.Outline
import Derived.LoopIn
import Derived.LoopNIn
import Derived.TacticsInMore
import Derived.OwnWalkIn
import Derived.Shelf.RegionOpen
import Derived.Shelf.Abstract
import Derived.RangeFuncCalls
import Derived.RangeFuncBound
import Derived.RangeFuncNested
import Derived.Test.YtckmjpnkjnihlaaTa
import Derived.WalkKit
import Derived.OwnWalk
import Derived.Laws.NewBlocks
namespace Go.Proofs.Ytckmjpnkjnihlaa
open Go.RowKit Go.Shelf
set_option linter.unusedVariables false
set_option maxRecDepth 100000
attribute [local go_sem] Oper.semAt_some

/-- Labels as bytes: each behind its length. -/
def wire : List (List UInt8) → List UInt8
  | [] => []
  | l :: r => UInt8.ofNat l.length :: l ++ wire r

/-- Block b is a cell of the call's own that holds v. -/
def Bx (W : World) (b : Nat) (v : Value) : Prop := W.cell? ⟨b, 0, none⟩ = some v ∧ W.frozen? ⟨b, 0, none⟩ = false

theorem Bx.lt {W : World} {b : Nat} {v : Value} (h : Bx W b v) : b < W.heap.size := World.block_lt_of_cell? W _ h.1
theorem Bx.aside {G : Nat → Prop} {A B : World} {b : Nat} {v : Value} (h : Bx A b v) (ha : Aside G A B) (hg : ¬ G b) : Bx B b v :=
  ⟨(ha.cell h.lt hg).trans h.1, (ha.frozen h.lt hg).trans h.2⟩
theorem Bx.set {W : World} {b : Nat} {u : Value} (h : Bx W b u) (v : Value) : Bx (W.setCell ⟨b, 0, none⟩ v) b v :=
  ⟨World.cell?_setCell_same _ _ _ h.1, by rw [World.frozen?_setCell]; exact h.2⟩

/-- Check's answer. -/
def chk (n : List UInt8) : Int := if left n = [0] then (if 255 < n.length then 3 else 0) else 4

end Go.Proofs.Ytckmjpnkjnihlaa
