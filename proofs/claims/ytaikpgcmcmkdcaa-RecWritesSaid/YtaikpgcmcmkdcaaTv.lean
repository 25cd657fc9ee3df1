/-
  A text's reader: over, passes, digit, next, stands, fail.
-/
import Derived.Test.YtaikpgcmcmkdcaaTo
import Derived.Deep.QuietTactic
import Derived.BigQuiet
import Derived.Laws.Panics
namespace Go.Proofs.Ytaikpgcmcmkdcaa
open Go.RowKit Go.Shelf
set_option linter.unusedVariables false
set_option maxRecDepth 100000
set_option linter.unusedSimpArgs false

/-- Block r is a reader that stands at p in the text t. -/
def Rd (w : World) (r : Nat) (t : List UInt8) (p : Nat) : Prop :=
  w.cell? ⟨r, 0, none⟩ = some (.string (bs t)) ∧ w.cell? ⟨r, 1, none⟩ = some (.int .i64 p) ∧ ∀ j, w.frozen? ⟨r, j, none⟩ = false

theorem Rd.lt {w : World} {r : Nat} {t : List UInt8} {p : Nat} (h : Rd w r t p) : r < w.heap.size := World.block_lt_of_cell? w _ h.1
theorem Rd.block {w w' : World} {r : Nat} {t : List UInt8} {p : Nat} (h : Rd w r t p) (hk : w'.heap[r]? = w.heap[r]?) : Rd w' r t p :=
  ⟨(World.cell?_of_block (a := ⟨r, 0, none⟩) hk).trans h.1, (World.cell?_of_block (a := ⟨r, 1, none⟩) hk).trans h.2.1, fun j => (World.frozen?_of_block (a := ⟨r, j, none⟩) hk).trans (h.2.2 j)⟩
theorem Drawn.aside {w w' : World} (h : Drawn w w') (G : Nat → Prop) : Aside G w w' := Aside.of_all (h.below _)

end Go.Proofs.Ytaikpgcmcmkdcaa
