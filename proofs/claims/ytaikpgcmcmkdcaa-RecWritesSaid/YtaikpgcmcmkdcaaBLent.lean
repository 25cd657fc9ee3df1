/-
  LentBytes: a copy, with three marks behind it.
-/
import Derived.Test.YtaikpgcmcmkdcaaBWords
import Derived.Laws.CopyOwn
namespace Go.Proofs.Ytaikpgcmcmkdcaa
open Go.RowKit
set_option linter.unusedVariables false
set_option maxRecDepth 100000

/-- What LentBytes lends: the bytes, and three marks behind them. -/
def lentL (l : List Int) : List Int := l ++ [160 + (l.length : Int) % 90, 160 + ((l.length : Int) + 1) % 90, 160 + ((l.length : Int) + 2) % 90]

theorem lentL_len (l : List Int) : (lentL l).length = l.length + 3 := by simp [lentL]

theorem lentL_take (l : List Int) : (lentL l).take l.length = l := by simp [lentL]

theorem lentL_mark (l : List Int) (k : Nat) (h1 : l.length ≤ k) (h2 : k < l.length + 3) : (lentL l).getD k 0 = 160 + (k : Int) % 90 := by
  unfold lentL
  rw [List.getD, List.getElem?_append_right h1]
  obtain rfl | rfl | rfl : k = l.length ∨ k = l.length + 1 ∨ k = l.length + 2 := by omega
  · simp
  · simp [Nat.add_sub_cancel_left]
  · simp [Nat.add_sub_cancel_left]

/-- Block g is lent: the bytes l, and the marks. -/
def LentAt (w : World) (g : Nat) (l : List Int) : Prop := w.heap[g]? = some (.cells ((lentL l).map (Value.int .u8)).toArray 5 (0, 0))

def LentPost (w : World) (l : List Int) (e : Ending) (w' : World) : Prop :=
  e = .returned (.slice (some ⟨w.heap.size, 0, none⟩) l.length (l.length + 3)) ∧ Below w.heap.size w w' ∧ LentAt w' w.heap.size l

theorem LentAt.sl {w : World} {g : Nat} {l : List Int} (h : LentAt w g l) : Sl w g (g + 1) (.slice (some ⟨g, 0, none⟩) (l.length + 3) (l.length + 3)) (lentL l) := by
  have := Own.sl (g := g) (l := lentL l) (w := w) (.inr ⟨rfl, h⟩)
  rw [lentL_len] at this
  exact this

theorem LentAt.slk {w : World} {g k : Nat} {l : List Int} (h : LentAt w g l) (hk : k = l.length + 3) : Sl w g (g + 1) (.slice (some ⟨g, 0, none⟩) k k) (lentL l) := by
  subst hk; exact h.sl

theorem LentAt.at_ {w : World} {g g' : Nat} {l : List Int} (h : LentAt w g l) (e : g = g') : LentAt w g' l := e ▸ h

theorem LentAt.later {w w' : World} {g : Nat} {l : List Int} (h : LentAt w g l) (hb : Below w.heap.size w w') (hg : g < w.heap.size) : LentAt w' g l := (hb.block g hg).trans h

theorem LentAt.lt {w : World} {g : Nat} {l : List Int} (h : LentAt w g l) : g < w.heap.size := (Array.getElem?_eq_some_iff.mp h).1

theorem LentAt.only {w w' : World} {g k : Nat} {l : List Int} (h : LentAt w g l) (ho : Only k w w') (hg : g ≠ k) : LentAt w' g l := (ho.2.2.2.2 g hg).trans h

theorem LentAt.later' {w w' : World} {g : Nat} {l : List Int} (h : LentAt w g l) (hb : Below w.heap.size w w') : LentAt w' g l := h.later hb h.lt

/-- What was lent reads as the bytes. -/
theorem LentAt.in_ {w : World} {g : Nat} {l : List Int} (h : LentAt w g l) : Sl w g (g + 1) (.slice (some ⟨g, 0, none⟩) l.length (l.length + 3)) l := by
  obtain ⟨a, c, he, hc, hn, hp⟩ := h.sl
  injection he with e1 e2 e3
  refine ⟨_, _, rfl, by omega, fun h => by simp at h, fun h0 => ?_⟩
  obtain ⟨b, off, e4, h1, h2, hx⟩ := hp (by rw [lentL_len]; omega)
  rw [← e1] at e4
  injection e4 with e4
  injection e4 with e5 e6 e7
  subst e5; subst e6
  refine ⟨g, 0, rfl, h1, h2, fun j hj => ?_⟩
  rw [hx j (by rw [lentL_len]; omega)]
  congr 2
  unfold lentL
  rw [List.getD, List.getD, List.getElem?_append_left hj]
end Go.Proofs.Ytaikpgcmcmkdcaa
