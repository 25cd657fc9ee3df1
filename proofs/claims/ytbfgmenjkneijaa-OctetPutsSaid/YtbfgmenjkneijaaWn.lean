/-
  The examples that each law asks first are answered as they should be.
-/
import Derived.Test.YtbfgmenjkneijaaWm
namespace Go.Proofs.Ytbfgmenjkneijaa
open Go.RowKit
set_option linter.unusedVariables false

/-- 'true' is told; of what was there before nothing has turned. -/
def YesB (w : World) (e : Ending) (w' : World) : Prop := e = .returned (.bool true) ∧ Below w.heap.size w w'

theorem sl_lit (w : World) (l : List Int) : Sl (w.alloc (.cells (l.map (Value.int .u8)).toArray 5)) w.heap.size (w.heap.size + 1) (.slice (some ⟨w.heap.size, 0, none⟩) l.length l.length) l :=
  Own.sl (.inr ⟨rfl, heap_alloc_new w _⟩)
theorem bel_alloc {w w' : World} (hb : Below w.heap.size w w') (o : Obj) : Below w.heap.size w (w'.alloc o) := hb.alloc hb.size o

/-- Block b begins with x, y. -/
def Cl (w : World) (b : Nat) (x y : Value) : Prop := w.cell? ⟨b, 0, none⟩ = some x ∧ w.cell? ⟨b, 1, none⟩ = some y
theorem Cl.later {w w' : World} {b : Nat} {x y : Value} (h : Cl w b x y) (hb : Below w.heap.size w w') : Cl w' b x y := ⟨cell_later hb h.1, cell_later hb h.2⟩
theorem Cl.lt {w : World} {b : Nat} {x y : Value} (h : Cl w b x y) : b < w.heap.size := World.block_lt_of_cell? w _ h.1
theorem Cl.new (w : World) (x y : Value) (t : TypeId) : Cl (w.alloc (.cells #[x, y] t)) w.heap.size x y := ⟨by simp [go_sem], by simp [go_sem]⟩
theorem Sl.later {w w' : World} {lo hi : Nat} {v : Value} {l : List Int} (h : Sl w lo hi v l) (hb : Below w.heap.size w w') : Sl w' lo hi v l := by
  obtain ⟨a, c, rfl, hc, hn, hp⟩ := h
  refine ⟨a, c, rfl, hc, hn, fun h0 => ?_⟩
  obtain ⟨b, off, rfl, h1, h2, hx⟩ := hp h0
  exact ⟨b, off, rfl, h1, h2, fun j hj => cell_later hb (hx j hj)⟩
theorem Own.empty {w : World} {g : Nat} {v : Value} (h : Own w g v []) : ∃ a, v = .slice a 0 0 := by
  rcases h with ⟨rfl, _⟩ | ⟨rfl, _⟩
  · exact ⟨_, rfl⟩
  · exact ⟨_, rfl⟩
/-- One more world: what is known of a first one, up to a third one, by way of new memory. -/
theorem bel_call {w w1 w2 : World} (h : Below w.heap.size w w1) (hb : Below w1.heap.size w1 w2) : Below w.heap.size w w2 := h.trans (hb.mono h.size)

theorem awake_put (w : World) : Calls Try.prog 8 #[.int .i64 258] w (PutPost w 0 [1, 2]) := by
  have := put16_any 258 w
  rw [show putE 65535 258 = 0 by decide, show putL2 258 = [1, 2] by decide] at this
  exact this
theorem awake_get (w : World) : Calls Try.prog 16 #[.slice (some ⟨w.heap.size, 0, none⟩) 3 3, .int .i64 1] (w.alloc (.cells #[.int .u8 9, .int .u8 1, .int .u8 2] 5)) (GetPost (w.alloc (.cells #[.int .u8 9, .int .u8 1, .int .u8 2] 5)) 258 3 0 0) := by
  have := get16_any (sl_lit w [9, 1, 2]) (by unfold ByteL; decide) (by decide) (by simp) 1
  rw [show getF 2 [(9 : Int), 1, 2].length 1 (nAt2 [9, 1, 2] (1 : Int).toNat) = 258 by decide, show getF 2 [(9 : Int), 1, 2].length 1 (1 + 2) = 3 by decide, show getE 2 [(9 : Int), 1, 2].length 1 = 0 by decide, show getA 2 [(9 : Int), 1, 2].length 1 = 0 by decide] at this
  exact this

set_option maxHeartbeats 1000000 in
theorem awake_any (w : World) : Calls Try.prog 14 #[] w (YesB w) := by
  go_enter Try.func14, Try.ntmps14
  go_wp2_with (first | (go_at_call 8; refine (awake_put _).mono ?_; rintro e w1 ⟨v, g, rfl, h1, h2, h3, h4⟩; have H1 := Lib.hid h1.sl; have H3 := Lib.hid h3; have HB1 := Lib.hid h4; clear h1 h2 h3 h4) | (go_at_call 16; refine (awake_get _).mono ?_; rintro e w2 ⟨rfl, hb⟩; have HB2 := Lib.hid (((Below.refl _ _).alloc (Nat.le_refl _) _).trans (hb.mono (by simp))); clear hb))
  have s1 : Sl ((w2.alloc (.cells #[.int .i64 0, .int .i64 0] 32)).alloc (.cells #[.int .u8 1, .int .u8 2] 5)) g (g + 1) v [1, 2] :=
    H1.out.below (bel_alloc (bel_alloc HB2.out _) _) H3.out
  have s2 : Sl ((w2.alloc (.cells #[.int .i64 0, .int .i64 0] 32)).alloc (.cells #[.int .u8 1, .int .u8 2] 5)) (w2.heap.size + 1) (w2.heap.size + 2) (.slice (some ⟨w2.heap.size + 1, 0, none⟩) 2 2) [1, 2] := by
    have := sl_lit (w2.alloc (.cells #[.int .i64 0, .int .i64 0] 32)) [1, 2]
    simp only [World.size_alloc] at this
    exact this
  refine (same_any s1 s2).mono ?_
  rintro e w' ⟨rfl, rfl⟩
  clear s1 s2
  go_wp2_with fail
  go_ret
  exact ⟨rfl, bel_alloc (bel_alloc (HB1.out.trans (HB2.out.mono HB1.out.size)) _) _⟩
end Go.Proofs.Ytbfgmenjkneijaa
