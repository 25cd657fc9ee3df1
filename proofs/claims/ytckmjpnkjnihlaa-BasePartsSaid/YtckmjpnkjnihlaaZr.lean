/-
  Rows of the call's own whose places behind the length hold the zero value: elements of one cell.
-/
import Derived.Test.YtckmjpnkjnihlaaRf
import Derived.Test.YtckmjpnkjnihlaaBWords
namespace Go.Proofs.Ytckmjpnkjnihlaa
open Go.RowKit
set_option linter.unusedVariables false
set_option maxRecDepth 100000

/-- v is nil, or a row in a block from B on: the cells cs, then zeros up to the capacity. -/
def OwnZ (w : World) (B : Nat) (e : TypeId) (z : Value) (v : Value) (cs : List Value) : Prop :=
  (v = .slice none 0 0 ∧ cs = []) ∨ ∃ g cap, v = .slice (some ⟨g, 0, none⟩) cs.length cap ∧ B ≤ g ∧ cs.length ≤ cap ∧ cap ≤ maxLen ∧ w.heap[g]? = some (.cells (cs ++ List.replicate (cap - cs.length) z).toArray e (0, 0))

section
variable {w w' : World} {B B' : Nat} {e : TypeId} {z v : Value} {cs : List Value} {G : Nat → Prop}
theorem OwnZ.nil (w : World) (B : Nat) (e : TypeId) (z : Value) : OwnZ w B e z (.slice .none 0 0) [] := .inl ⟨rfl, rfl⟩
theorem OwnZ.lt (h : OwnZ w B e z v cs) : ∀ k, v.ownBlock = some k → B ≤ k ∧ k < w.heap.size := by
  intro k hk
  rcases h with ⟨rfl, _⟩ | ⟨g, cap, rfl, hB, _, _, hg⟩
  · simp [Value.ownBlock] at hk
  · simp [Value.ownBlock] at hk
    subst hk
    exact ⟨hB, (Array.getElem?_eq_some_iff.1 hg).1⟩
theorem OwnZ.aside (h : OwnZ w B e z v cs) (ha : Aside G w w') (hG : ∀ b, B ≤ b → ¬ G b) : OwnZ w' B e z v cs := by
  have hlt := h.lt
  rcases h with h2 | ⟨g, cap, hv, hg, h1, h2, hh⟩
  · exact .inl h2
  · exact .inr ⟨g, cap, hv, hg, h1, h2, (ha.block g (by subst hv; exact (hlt g rfl).2) (hG g hg)).trans hh⟩
theorem OwnZ.mono (h : OwnZ w B e z v cs) (hB : B' ≤ B) : OwnZ w B' e z v cs := by
  rcases h with h2 | ⟨g, cap, hv, hg, r⟩
  · exact .inl h2
  · exact .inr ⟨g, cap, hv, Nat.le_trans hB hg, r⟩
theorem OwnZ.below (h : OwnZ w B e z v cs) (hb : Below w.heap.size w w') : OwnZ w' B e z v cs := h.aside (G := fun _ => False) (Aside.of_all hb) fun _ _ h => h
end

theorem zeroCells_one (z : Value) (hz : z.cells = #[z]) (n : Nat) : Builtin.zeroCells z.cells n = (List.replicate n z).toArray := by
  rw [hz]
  apply Array.ext
  · simp [Builtin.zeroCells]
  · intro i h1 h2
    simp [Builtin.zeroCells, Nat.mod_one]

end Go.Proofs.Ytckmjpnkjnihlaa
