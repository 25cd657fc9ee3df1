/-
  A strings.Builder of the call's own: what it checks of itself, and writing.
-/
import Derived.Test.YtkiahaodajecfaaTi
import Derived.Test.YtkiahaodajecfaaShelf
import Derived.Lib.FrozenHead
namespace Go.Proofs.Ytkiahaodajecfaa
open Go.RowKit Go.Shelf
set_option linter.unusedVariables false
set_option maxRecDepth 100000
set_option linter.unusedSimpArgs false

/-- Block b is a builder that holds the bytes l, with p for its own address; its row lies in blocks from B on. -/
def Bp (w : World) (B b : Nat) (p : Value) (l : List UInt8) : Prop :=
  ∃ v, w.heap[b]? = some (.cells #[p, v] 95 (0, 0)) ∧ OwnU w B v l ∧ b < B

/-- .. used or not. -/
def Bd (w : World) (B b : Nat) (l : List UInt8) : Prop := Bp w B b (.pointer none) l ∨ Bp w B b (.pointer (some ⟨b, 0, none⟩)) l

theorem Bp.lt {w : World} {B b : Nat} {p : Value} {l : List UInt8} (h : Bp w B b p l) : b < w.heap.size := by
  obtain ⟨v, h1, _⟩ := h
  exact (Array.getElem?_eq_some_iff.mp h1).1
theorem Bp.aside {w w' : World} {B b : Nat} {p : Value} {l : List UInt8} {G : Nat → Prop} (h : Bp w B b p l) (ha : Aside G w w') (h0 : ¬ G b) (hG : ∀ k, B ≤ k → ¬ G k) : Bp w' B b p l := by
  have hl := h.lt
  obtain ⟨v, h1, h2, h3⟩ := h
  exact ⟨v, (ha.block b hl h0).trans h1, h2.aside ha hG, h3⟩
theorem Bd.aside {w w' : World} {B b : Nat} {l : List UInt8} {G : Nat → Prop} (h : Bd w B b l) (ha : Aside G w w') (h0 : ¬ G b) (hG : ∀ k, B ≤ k → ¬ G k) : Bd w' B b l :=
  h.elim (fun h => .inl (h.aside ha h0 hG)) (fun h => .inr (h.aside ha h0 hG))
theorem Bd.lt {w : World} {B b : Nat} {l : List UInt8} (h : Bd w B b l) : b < w.heap.size := h.elim Bp.lt Bp.lt
theorem Bd.below {w w' : World} {B b : Nat} {l : List UInt8} (h : Bd w B b l) (hb : Below w.heap.size w w') : Bd w' B b l :=
  h.aside (G := fun _ => False) (Aside.of_all hb) (fun h => h) fun _ _ h => h
theorem Bp.cells {w : World} {B b : Nat} {p : Value} {l : List UInt8} (h : Bp w B b p l) : ∃ v, w.cell? ⟨b, 0, none⟩ = some p ∧ w.cell? ⟨b, 1, none⟩ = some v ∧ (∀ j, w.frozen? ⟨b, j, none⟩ = false) ∧ OwnU w B v l ∧ w.shape? b = some (95, 2) := by
  obtain ⟨v, h1, h2, h3⟩ := h
  exact ⟨v, by simp [World.cell?, h1], by simp [World.cell?, h1], fun j => by simp [World.frozen?, h1], h2, by simp [World.shape?, h1]⟩
theorem Bp.set {w : World} {B b : Nat} {p : Value} {l : List UInt8} (h : Bp w B b p l) (q : Value) : Bp (w.setCell ⟨b, 0, none⟩ q) B b q l := by
  obtain ⟨v, h1, h2, h3⟩ := h
  exact ⟨v, by simp [World.setCell, Array.getElem?_modify, h1], h2.setCell h3 _, h3⟩
theorem Bp.put {w : World} {B b : Nat} {p v v' : Value} {l : List UInt8} (h1 : w.heap[b]? = some (.cells #[p, v] 95 (0, 0))) (h2 : OwnU w B v' l) (h3 : b < B) : Bp (w.setCell ⟨b, 1, none⟩ v') B b p l :=
  ⟨v', by simp [World.setCell, Array.getElem?_modify, h1], h2.setCell h3 _, h3⟩

theorem sizeB : (Try.prog.info? 95).map (fun i => i.size) = some 2 := by kernel_rfl
theorem liesB : liesAt Try.prog Try.prog.depth 95 (2 / Try.prog.cellsOf 95) 0 95 1 = true := by kernel_rfl

/-- How a builder is behind a check of itself, or a write. -/
def BdPost (w : World) (G : Nat → Prop) (B b : Nat) (v : Value) (l : List UInt8) (e : Ending) (w' : World) : Prop :=
  e = .returned v ∧ Bp w' B b (.pointer (some ⟨b, 0, none⟩)) l ∧ Aside G w w'

theorem check_used {w : World} {B b : Nat} {l : List UInt8} (h : Bp w B b (.pointer (some ⟨b, 0, none⟩)) l) : Calls Try.prog 77 #[.pointer (some ⟨b, 0, none⟩)] w (BdPost w (fun k => k = b) B b (.tuple #[]) l) := by
  obtain ⟨j, hj, _⟩ := Option.map_eq_some_iff.1 sizeB
  obtain ⟨v, h0, _, _, _, _⟩ := h.cells
  have HH := Lib.hid h
  clear h
  go_enter Try.func77, Try.ntmps77
  go_wp2
  rw [Lib.run_neq_ptr_same w _ Try.underlying93 hj]
  go_wp2
  go_end0
  exact ⟨rfl, HH.out, Aside.refl _ _⟩

theorem check_fresh {w : World} {B b : Nat} {l : List UInt8} (h : Bp w B b (.pointer none) l) : Calls Try.prog 77 #[.pointer (some ⟨b, 0, none⟩)] w (BdPost w (fun k => k = b) B b (.tuple #[]) l) := by
  obtain ⟨j, hj, hjs⟩ := Option.map_eq_some_iff.1 sizeB
  obtain ⟨v, h0, _, hf, _, hsh⟩ := h.cells
  have HH := Lib.hid (And.intro (h.set (.pointer (some ⟨b, 0, none⟩))) (Aside.setCell (G := fun k => k = b) w (p := ⟨b, 0, none⟩) (.pointer (some ⟨b, 0, none⟩)) rfl))
  clear h
  have hc1 := Lib.run_to_unsafe (P := Try.prog) w (src := 93) (dst := 134) ⟨b, 0, none⟩ Try.underlying93 Try.underlying134 hj (by rw [hjs]; decide) hsh (Nat.zero_lt_succ 1)
  have hc2 := Lib.run_from_unsafe (P := Try.prog) w (src := 134) (dst := 93) ⟨b, 0, none⟩ Try.underlying134 Try.underlying93 hj hsh liesB
  have hcf : (callFunc 86 #[.pointer (some ⟨b, 0, none⟩)]).run Try.prog w = .ok (.value (.pointer (some ⟨b, 0, none⟩))) w := by
    rw [run_callFunc_extern Try.func86 (by kernel_rfl) (by kernel_rfl) (by kernel_rfl) (e := Extern.AbiNoEscape.same) (by kernel_rfl), Lib.run_noEscape]
    rfl
  have hne := fun w => Lib.run_neq_ptr_same (P := Try.prog) w (tp := 93) ⟨b, 0, none⟩ Try.underlying93 hj
  go_enter Try.func77, Try.ntmps77
  go_wp2
  go_end0
  exact ⟨rfl, HH.out⟩

theorem checkB_any {w : World} {B b : Nat} {l : List UInt8} (h : Bd w B b l) : Calls Try.prog 77 #[.pointer (some ⟨b, 0, none⟩)] w (BdPost w (fun k => k = b) B b (.tuple #[]) l) := h.elim check_fresh check_used

end Go.Proofs.Ytkiahaodajecfaa
