/-
  A strings.Builder of the call's own: what it checks of itself, and writing.
-/
import Derived.Test.YtckmjpnkjnihlaaTi
import Derived.Test.YtckmjpnkjnihlaaShelf
import Derived.Lib.FrozenHead
namespace Go.Proofs.Ytckmjpnkjnihlaa
open Go.RowKit Go.Shelf
set_option linter.unusedVariables false
set_option maxRecDepth 100000
set_option linter.unusedSimpArgs false

/-- Block b is a builder that holds the bytes l, with p for its own address; its row lies in blocks from B on. -/
def Bp (w : World) (B b : Nat) (p : Value) (l : List UInt8) : Prop :=
  ∃ v, w.heap[b]? = some (.cells #[p, v] 50 (0, 0)) ∧ OwnU w B v l ∧ b < B

/-- .. used or not. -/
def Bd (w : World) (B b : Nat) (l : List UInt8) : Prop := Bp w B b (.pointer none) l ∨ Bp w B b (.pointer (some ⟨b, 0, none⟩)) l

theorem Bp.lt {w : World} {B b : Nat} {p : Value} {l : List UInt8} (h : Bp w B b p l) : b < w.heap.size := by
  obtain ⟨v, h1, _⟩ := h
  exact (Array.getElem?_eq_some_iff.mp h1).1
theorem Bp.aside {w w' : World} {B b : Nat} {p : Value} {l : List UInt8} {G : Nat → Prop} (h : Bp w B b p l) (ha : Aside G w w') (h0 : ¬ G b) (hG : ∀ k, B ≤ k → ¬ G k) : Bp w' B b p l := by
  have hl := h.lt
  obtain ⟨v, h1, h2, h3⟩ := h
  exact ⟨v, (ha.block b hl h0).trans h1, h2.aside ha hG, h3⟩
theorem Bd.aside {w w' : World} {B b : Nat} {l : List UInt8} {G : Nat → Prop} (h : Bd w B b l) (ha : Aside G w w') (h0 : ¬ G b) (hG : ∀ k, B ≤ k → ¬ G k) : Bd w' B b l :=
  h.elim (fun h => .inl (h.aside ha h0 hG)) (fun h => .inr (h.aside ha h0 hG))
theorem Bd.lt {w : World} {B b : Nat} {l : List UInt8} (h : Bd w B b l) : b < w.heap.size := h.elim Bp.lt Bp.lt
theorem Bd.below {w w' : World} {B b : Nat} {l : List UInt8} (h : Bd w B b l) (hb : Below w.heap.size w w') : Bd w' B b l :=
  h.aside (G := fun _ => False) (Aside.of_all hb) (fun h => h) fun _ _ h => h
theorem Bp.cells {w : World} {B b : Nat} {p : Value} {l : List UInt8} (h : Bp w B b p l) : ∃ v, w.cell? ⟨b, 0, none⟩ = some p ∧ w.cell? ⟨b, 1, none⟩ = some v ∧ (∀ j, w.frozen? ⟨b, j, none⟩ = false) ∧ OwnU w B v l ∧ w.shape? b = some (50, 2) := by
  obtain ⟨v, h1, h2, h3⟩ := h
  exact ⟨v, by simp [World.cell?, h1], by simp [World.cell?, h1], fun j => by simp [World.frozen?, h1], h2, by simp [World.shape?, h1]⟩
theorem Bp.set {w : World} {B b : Nat} {p : Value} {l : List UInt8} (h : Bp w B b p l) (q : Value) : Bp (w.setCell ⟨b, 0, none⟩ q) B b q l := by
  obtain ⟨v, h1, h2, h3⟩ := h
  exact ⟨v, by simp [World.setCell, Array.getElem?_modify, h1], h2.setCell h3 _, h3⟩
theorem Bp.put {w : World} {B b : Nat} {p v v' : Value} {l : List UInt8} (h1 : w.heap[b]? = some (.cells #[p, v] 50 (0, 0))) (h2 : OwnU w B v' l) (h3 : b < B) : Bp (w.setCell ⟨b, 1, none⟩ v') B b p l :=
  ⟨v', by simp [World.setCell, Array.getElem?_modify, h1], h2.setCell h3 _, h3⟩

theorem sizeB : (Try.prog.info? 50).map (fun i => i.size) = some 2 := by kernel_rfl
theorem liesB : liesAt Try.prog Try.prog.depth 50 (2 / Try.prog.cellsOf 50) 0 50 1 = true := by kernel_rfl

/-- How a builder is behind a check of itself, or a write. -/
def BdPost (w : World) (G : Nat → Prop) (B b : Nat) (v : Value) (l : List UInt8) (e : Ending) (w' : World) : Prop :=
  e = .returned v ∧ Bp w' B b (.pointer (some ⟨b, 0, none⟩)) l ∧ Aside G w w'

theorem check_used {w : World} {B b : Nat} {l : List UInt8} (h : Bp w B b (.pointer (some ⟨b, 0, none⟩)) l) : Calls Try.prog 30 #[.pointer (some ⟨b, 0, none⟩)] w (BdPost w (fun k => k = b) B b (.tuple #[]) l) := by
  obtain ⟨j, hj, _⟩ := Option.map_eq_some_iff.1 sizeB
  obtain ⟨v, h0, _, _, _, _⟩ := h.cells
  have HH := Lib.hid h
  clear h
  go_enter Try.func30, Try.ntmps30
  go_wp2
  rw [Lib.run_neq_ptr_same w _ Try.underlying48 hj]
  go_wp2
  go_end0
  exact ⟨rfl, HH.out, Aside.refl _ _⟩

theorem check_fresh {w : World} {B b : Nat} {l : List UInt8} (h : Bp w B b (.pointer none) l) : Calls Try.prog 30 #[.pointer (some ⟨b, 0, none⟩)] w (BdPost w (fun k => k = b) B b (.tuple #[]) l) := by
  obtain ⟨j, hj, hjs⟩ := Option.map_eq_some_iff.1 sizeB
  obtain ⟨v, h0, _, hf, _, hsh⟩ := h.cells
  have HH := Lib.hid (And.intro (h.set (.pointer (some ⟨b, 0, none⟩))) (Aside.setCell (G := fun k => k = b) w (p := ⟨b, 0, none⟩) (.pointer (some ⟨b, 0, none⟩)) rfl))
  clear h
  have hc1 := Lib.run_to_unsafe (P := Try.prog) w (src := 48) (dst := 59) ⟨b, 0, none⟩ Try.underlying48 Try.underlying59 hj (by rw [hjs]; decide) hsh (Nat.zero_lt_succ 1)
  have hc2 := Lib.run_from_unsafe (P := Try.prog) w (src := 59) (dst := 48) ⟨b, 0, none⟩ Try.underlying59 Try.underlying48 hj hsh liesB
  have hcf : (callFunc 31 #[.pointer (some ⟨b, 0, none⟩)]).run Try.prog w = .ok (.value (.pointer (some ⟨b, 0, none⟩))) w := by
    rw [run_callFunc_extern Try.func31 (by kernel_rfl) (by kernel_rfl) (by kernel_rfl) (e := Extern.AbiNoEscape.same) (by kernel_rfl), Lib.run_noEscape]
    rfl
  have hne := fun w => Lib.run_neq_ptr_same (P := Try.prog) w (tp := 48) ⟨b, 0, none⟩ Try.underlying48 hj
  go_enter Try.func30, Try.ntmps30
  go_wp2
  go_end0
  exact ⟨rfl, HH.out⟩

theorem checkB_any {w : World} {B b : Nat} {l : List UInt8} (h : Bd w B b l) : Calls Try.prog 30 #[.pointer (some ⟨b, 0, none⟩)] w (BdPost w (fun k => k = b) B b (.tuple #[]) l) := h.elim check_fresh check_used

/-- A write's append, and its store. -/
theorem write_step {W : World} {B b g c : Nat} {p : Value} {l l' : List UInt8} (h : Bp W B b p l) (hx : ∀ j, j < l'.length → W.cell? ⟨g, j, none⟩ = some (.int .u8 ((l'.getD j 0).toNat : Nat))) (hl : l.length + l'.length ≤ 1000000) (hB : B ≤ W.heap.size) :
    ∃ v a2 c2 W2, W.cell? ⟨b, 1, none⟩ = some v ∧ (Builtin.append_ #[22, 22] 22 #[v, .slice (some ⟨g, 0, none⟩) l'.length c]).run Try.prog W = .ok (.slice a2 (l.length + l'.length) c2) W2 ∧
      W2.cell? ⟨b, 1, none⟩ = some v ∧ W2.frozen? ⟨b, 1, none⟩ = false ∧ Bp (W2.setCell ⟨b, 1, none⟩ (.slice a2 (l.length + l'.length) c2)) B b p (l ++ l') ∧
      Aside (fun k => k = b ∨ B ≤ k) W (W2.setCell ⟨b, 1, none⟩ (.slice a2 (l.length + l'.length) c2)) := by
  have hlt := h.lt
  obtain ⟨v, h1, h2, h3⟩ := h
  obtain ⟨a2, c2, W2, hr, ho, hg⟩ := run_appU (w := W) B v l l' g c h2 hx hl hB
  have ha : Aside (fun k => B ≤ k) W W2 := Aside.grown hg fun k hk => h2.row k hk
  have hb2 : W2.heap[b]? = some (.cells #[p, v] 50 (0, 0)) := (ha.block b hlt (by omega)).trans h1
  refine ⟨v, a2, c2, W2, by simp [World.cell?, h1], hr, by simp [World.cell?, hb2], by simp [World.frozen?, hb2], Bp.put hb2 ho h3, ?_⟩
  exact (ha.mono fun _ _ h => .inr h).trans (Aside.setCell _ _ (.inl rfl))

theorem writeByte_any {w : World} {B b : Nat} {l : List UInt8} (c : UInt8) (h : Bd w B b l) (hl : l.length + 1 ≤ 1000000) (hB : B ≤ w.heap.size) :
    Calls Try.prog 29 #[.pointer (some ⟨b, 0, none⟩), .int .u8 (c.toNat : Nat)] w (BdPost w (fun k => k = b ∨ B ≤ k) B b .nilIface (l ++ [c])) := by
  have HC := Lib.hid (checkB_any h)
  have hbB : b < B := by rcases h with ⟨_, _, _, h⟩ | ⟨_, _, _, h⟩ <;> exact h
  clear h
  go_enter Try.func29, Try.ntmps29
  go_wp2_with fail
  refine HC.out.mono ?_; rintro e w1 ⟨rfl, hp, ha⟩
  replace ha := ha.mono (G' := fun k => k = b ∨ B ≤ k) fun _ _ h => .inl h
  have hs := ha.size
  have ha1 : Aside (fun k => k = b ∨ B ≤ k) w1 (w1.alloc (.cells #[.int .u8 (c.toNat : Nat)] 5)) := Aside.alloc _ _
  have hp1 : Bp (w1.alloc (.cells #[.int .u8 (c.toNat : Nat)] 5)) B b (.pointer (some ⟨b, 0, none⟩)) l := hp.aside (G := fun _ => False) (Aside.alloc _ _) (fun h => h) fun _ _ h => h
  obtain ⟨v, a2, c2, W2, q1, hr, q2, q3, hq, ha2⟩ := write_step (W := w1.alloc (.cells #[.int .u8 (c.toNat : Nat)] 5)) (g := w1.heap.size) (c := 1) (l' := [c]) hp1 (fun j hj => by
    obtain rfl : j = 0 := by simpa using hj
    simp [go_sem]) (by simpa using hl) (by simp; omega)
  obtain ⟨v0, _, q0, _⟩ := hp.cells
  have hvv : v0 = v := by
    have h2 := (ha1.mono (G' := fun k => k = b ∨ B ≤ k) fun _ _ h => h)
    have h3 := ((Aside.alloc (G := fun _ => False) w1 (.cells #[.int .u8 (c.toNat : Nat)] 5)).cell_lt q0 (fun h => h))
    rw [h3] at q1
    injection q1
  subst hvv
  have HR := Lib.hid hr
  have HH := Lib.hid (And.intro hq ((ha.trans ha1).trans ha2))
  clear hr hq ha ha1 ha2 hp hp1 hs
  go_wp2_with (at_builtin; refine wpList_append_run (.tmp 11) (.tmp 13) 22 22 rfl rfl rfl rfl HR.out ?_)
  go_ret
  exact ⟨rfl, HH.out⟩

end Go.Proofs.Ytckmjpnkjnihlaa
