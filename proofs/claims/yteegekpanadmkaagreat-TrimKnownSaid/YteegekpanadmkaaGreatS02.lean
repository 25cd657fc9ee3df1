/-
  The reader that goes along a message: a name, a number.
-/
import Derived.Test.YteegekpanadmkaaGreatS01
import Derived.Test.YteegekpanadmkaaGreatS00
import Derived.Deep.RegionHeld3
import Derived.Laws.CopyOwn
import Derived.Maps.OwnSet
import Derived.LaidEqlPtr
import Derived.Outline
namespace Go.Proofs.YteegekpanadmkaaGreat
open Go.RowKit Go.Shelf
set_option linter.unusedVariables false
set_option linter.unusedSimpArgs false
set_option maxRecDepth 100000

/-- Where the next part begins, the first fault, its place. -/
structure RS where
  a : Int
  e : Int
  p : Int

/-- The reader's own cells. -/
structure Rdr (w : World) (r : Nat) (vb : Value) (s : RS) : Prop where
  c0 : w.cell? ⟨r, 0, none⟩ = some vb
  c1 : w.cell? ⟨r, 1, none⟩ = some (.int .i64 s.a)
  c2 : w.cell? ⟨r, 2, none⟩ = some (.int .i64 s.e)
  c3 : w.cell? ⟨r, 3, none⟩ = some (.int .i64 s.p)
  fz : ∀ j, w.frozen? ⟨r, j, none⟩ = false

/-- Cells of a block, none of them frozen. -/
structure Cel (w : World) (q : Nat) (l : List Value) : Prop where
  c : ∀ j (h : j < l.length), w.cell? ⟨q, j, none⟩ = some l[j]
  fz : ∀ j, w.frozen? ⟨q, j, none⟩ = false

def NextPost (w : World) (r q o : Nat) (vb : Value) (s : RS) (l : List Value) (x : Ending) (w' : World) : Prop :=
  x = .returned (.pointer (some ⟨r, 0, none⟩)) ∧ Rdr w' r vb s ∧ Cel w' q l ∧ Aside (fun b => b = r ∨ b = q) w w'

section
variable {w w' : World} {r q : Nat} {vb : Value} {s : RS} {l : List Value}
theorem Rdr.lt (h : Rdr w r vb s) : r < w.heap.size := World.block_lt_of_cell? w ⟨r, 0, none⟩ h.c0
theorem Rdr.aside {G : Nat → Prop} (h : Rdr w r vb s) (ha : Aside G w w') (hg : ¬ G r) : Rdr w' r vb s :=
  ⟨ha.cell_lt h.c0 hg, ha.cell_lt h.c1 hg, ha.cell_lt h.c2 hg, ha.cell_lt h.c3 hg, fun j => (ha.frozen (p := ⟨r, j, none⟩) h.lt hg).trans (h.fz j)⟩
theorem Rdr.below (h : Rdr w r vb s) (hb : Below w.heap.size w w') : Rdr w' r vb s := h.aside (G := fun _ => False) (Aside.of_all hb) (fun h => h)
theorem Cel.lt (h : Cel w q l) (h0 : 0 < l.length) : q < w.heap.size := World.block_lt_of_cell? w ⟨q, 0, none⟩ (h.c 0 h0)
theorem Cel.aside {G : Nat → Prop} (h : Cel w q l) (h0 : 0 < l.length) (ha : Aside G w w') (hg : ¬ G q) : Cel w' q l :=
  ⟨fun j hj => ha.cell_lt (h.c j hj) hg, fun j => (ha.frozen (p := ⟨q, j, none⟩) (h.lt h0) hg).trans (h.fz j)⟩
theorem Cel.below (h : Cel w q l) (h0 : 0 < l.length) (hb : Below w.heap.size w w') : Cel w' q l := h.aside (G := fun _ => False) h0 (Aside.of_all hb) (fun h => h)
theorem Cel.set (h : Cel w q l) {o : Nat} (ho : o < l.length) (v : Value) : Cel (w.setCell ⟨q, o, none⟩ v) q (l.set o v) := by
  refine ⟨fun j hj => ?_, fun j => by rw [World.frozen?_setCell]; exact h.fz j⟩
  rw [List.length_set] at hj
  by_cases hjo : o = j
  · subst hjo
    rw [List.getElem_set_self]
    exact World.cell?_setCell_same _ _ _ (h.c o ho)
  · rw [List.getElem_set_ne hjo, World.cell?_setCell_other _ _ _ _ (fun e => hjo (congrArg Addr.off e))]
    exact h.c j hj
theorem Cel.other (h : Cel w q l) {a : Addr} (ha : a.block ≠ q) (v : Value) : Cel (w.setCell a v) q l :=
  ⟨fun j hj => by rw [World.cell?_setCell_other _ _ _ _ (fun e => ha (congrArg Addr.block e))]; exact h.c j hj, fun j => by rw [World.frozen?_setCell]; exact h.fz j⟩
end

/-- A name is read. -/
def stN (b : List UInt8) (s : RS) : RS := if s.e ≠ 0 then s else ⟨(rda b s.a).2.1, (rda b s.a).2.2.1, (rda b s.a).2.2.2⟩
def vlN (b : List UInt8) (s : RS) (old : List UInt8) : List UInt8 := if s.e ≠ 0 then old else (rda b s.a).1

/-- A number of two bytes, of four. -/
def st2 (b : List UInt8) (s : RS) : RS := if s.e ≠ 0 then s else ⟨getF 2 b.length s.a (s.a + 2), getE 2 b.length s.a, getA 2 b.length s.a⟩
def vl2 (b : List UInt8) (s : RS) (old : Int) : Int := if s.e ≠ 0 then old else getF 2 b.length s.a (nAt2 (iz b) s.a.toNat)
def st4 (b : List UInt8) (s : RS) : RS := if s.e ≠ 0 then s else ⟨getF 4 b.length s.a (s.a + 4), getE 4 b.length s.a, getA 4 b.length s.a⟩
def vl4 (b : List UInt8) (s : RS) (old : Int) : Int := if s.e ≠ 0 then old else getF 4 b.length s.a (nAt4 (iz b) s.a.toNat)

/-- What came of one part is being stored: the cell, where the next part begins, the fault; in any order. -/
structure Half (w w2 : World) (r q o : Nat) (vb v old : Value) (l : List Value) (s t : RS) (f g h : Bool) : Prop where
  rd : Rdr w2 r vb ⟨if g = true then t.a else s.a, if h = true then t.e else s.e, if h = true then t.p else s.p⟩
  ce : Cel w2 q (if f = true then l.set o v else l)
  ho : o < l.length
  hne : r ≠ q
  has : Aside (fun b => b = r ∨ b = q) w w2
  old : w2.cell? ⟨q, o, none⟩ = some (if f = true then v else old)

section
variable {w w2 w3 : World} {r q o : Nat} {vb v old : Value} {l : List Value} {s t : RS} {f g h : Bool}
theorem Half.pos (H : Half w w2 r q o vb v old l s t f g h) : 0 < (if f = true then l.set o v else l).length := by
  have := H.ho
  split
  · rw [List.length_set]; omega
  · omega
theorem Half.later (H : Half w w2 r q o vb v old l s t f g h) (hb : Below w2.heap.size w2 w3) : Half w w3 r q o vb v old l s t f g h := by
  exact ⟨H.rd.below hb, H.ce.below H.pos hb, H.ho, H.hne, H.has.trans (Aside.of_all hb), cell_later hb H.old⟩
theorem Half.sq (H : Half w w2 r q o vb v old l s t false g h) : Half w (w2.setCell ⟨q, o, none⟩ v) r q o vb v old l s t true g h := by
  have hne := H.hne
  have hR := H.rd
  have hc : Cel w2 q l := H.ce
  refine ⟨⟨(World.cell?_setCell_other _ _ _ _ (fun e => hne (congrArg Addr.block e).symm)).trans hR.c0, (World.cell?_setCell_other _ _ _ _ (fun e => hne (congrArg Addr.block e).symm)).trans hR.c1, (World.cell?_setCell_other _ _ _ _ (fun e => hne (congrArg Addr.block e).symm)).trans hR.c2, (World.cell?_setCell_other _ _ _ _ (fun e => hne (congrArg Addr.block e).symm)).trans hR.c3, fun j => by rw [World.frozen?_setCell]; exact hR.fz j⟩, ?_, H.ho, hne, H.has.trans (Aside.setCell w2 (p := ⟨q, o, none⟩) v (.inr rfl)), ?_⟩
  · rw [if_pos rfl]; exact hc.set H.ho v
  · rw [if_pos rfl]; exact World.cell?_setCell_same _ _ _ H.old
theorem Half.rset (H : Half w w2 r q o vb v old l s t f g h) (j : Nat) (u : Value) : Cel (w2.setCell ⟨r, j, none⟩ u) q (if f = true then l.set o v else l) ∧ Aside (fun b => b = r ∨ b = q) w (w2.setCell ⟨r, j, none⟩ u) ∧ (w2.setCell ⟨r, j, none⟩ u).cell? ⟨q, o, none⟩ = some (if f = true then v else old) := by
  have hne := H.hne
  exact ⟨H.ce.other (a := ⟨r, j, none⟩) hne u, H.has.trans (Aside.setCell w2 (p := ⟨r, j, none⟩) u (.inl rfl)), (World.cell?_setCell_other _ _ _ _ (fun e => hne (congrArg Addr.block e))).trans H.old⟩
theorem Half.sa (H : Half w w2 r q o vb v old l s t f false h) : Half w (w2.setCell ⟨r, 1, none⟩ (.int .i64 t.a)) r q o vb v old l s t f true h := by
  obtain ⟨h1, h2, h3⟩ := H.rset 1 (.int .i64 t.a)
  have hR := H.rd
  exact ⟨⟨(World.cell?_setCell_other _ _ _ _ (by simp)).trans hR.c0, by rw [if_pos rfl]; exact World.cell?_setCell_same _ _ _ hR.c1, (World.cell?_setCell_other _ _ _ _ (by simp)).trans hR.c2, (World.cell?_setCell_other _ _ _ _ (by simp)).trans hR.c3, fun j => by rw [World.frozen?_setCell]; exact hR.fz j⟩, h1, H.ho, H.hne, h2, h3⟩
theorem Half.sf (H : Half w w2 r q o vb v old l s t f g false) : Half w ((w2.setCell ⟨r, 2, none⟩ (.int .i64 t.e)).setCell ⟨r, 3, none⟩ (.int .i64 t.p)) r q o vb v old l s t f g true := by
  obtain ⟨h1, h2, h3⟩ := H.rset 2 (.int .i64 t.e)
  have hR := H.rd
  have hne := H.hne
  refine ⟨⟨?_, ?_, ?_, ?_, fun j => by rw [World.frozen?_setCell, World.frozen?_setCell]; exact hR.fz j⟩, h1.other (a := ⟨r, 3, none⟩) hne _, H.ho, hne, h2.trans (Aside.setCell _ (p := ⟨r, 3, none⟩) _ (.inl rfl)), (World.cell?_setCell_other _ _ _ _ (fun e => hne (congrArg Addr.block e))).trans h3⟩
  · exact (World.cell?_setCell_other _ _ _ _ (by simp)).trans ((World.cell?_setCell_other _ _ _ _ (by simp)).trans hR.c0)
  · exact (World.cell?_setCell_other _ _ _ _ (by simp)).trans ((World.cell?_setCell_other _ _ _ _ (by simp)).trans hR.c1)
  · exact (World.cell?_setCell_other _ _ _ _ (by simp)).trans (by rw [if_pos rfl]; exact World.cell?_setCell_same _ _ _ hR.c2)
  · rw [if_pos rfl]; exact World.cell?_setCell_same _ _ _ ((World.cell?_setCell_other _ _ _ _ (by simp)).trans hR.c3)
end

theorem half_done {w w2 : World} {r q o : Nat} {vb v old : Value} {l : List Value} {s t : RS} (H : Half w w2 r q o vb v old l s t true true true) : NextPost w r q o vb t (l.set o v) (.returned (.pointer (some ⟨r, 0, none⟩))) w2 := by
  exact ⟨rfl, H.rd, H.ce, H.has⟩

theorem half_start {w : World} {r q o : Nat} {vb v old : Value} {l : List Value} {s t : RS} (hR : Rdr w r vb s) (hC : Cel w q l) (ho : o < l.length) (hne : r ≠ q) (hold : l[o]'ho = old) : Half w w.drew r q o vb v old l s t false false false :=
  (show Half w w r q o vb v old l s t false false false from ⟨hR, hC, ho, hne, Aside.refl _ _, by rw [if_neg (by simp)]; rw [← hold]; exact hC.c o ho⟩).later (Below.refl _ _).drew

set_option maxHeartbeats 8000000 in
theorem name_next {w : World} {r q o lo hi : Nat} {vb : Value} {s : RS} {l : List Value} {b : List UInt8} (hR : Rdr w r vb s) (hC : Cel w q l) (ho : o < l.length) (hne : r ≠ q) {old : List UInt8} (hold : l[o] = .string (bs old)) (hS : Sl w lo hi vb (iz b)) (hhi : hi ≤ w.heap.size) (hbl : b.length ≤ 1000000) :
    Calls Tryz.prog 134 #[.pointer (some ⟨r, 0, none⟩), .pointer (some ⟨q, o, none⟩), .func (.func 135) #[] #[]] w (NextPost w r q o vb (stN b s) (l.set o (.string (bs (vlN b s old))))) := by
  obtain ⟨a, e, p⟩ := s
  by_cases h0 : e = 0
  · subst h0
    have e1 : stN b ⟨a, 0, p⟩ = ⟨(rda b a).2.1, (rda b a).2.2.1, (rda b a).2.2.2⟩ := by unfold stN; rw [if_neg (by simp)]
    have e2 : vlN b ⟨a, 0, p⟩ old = (rda b a).1 := by unfold vlN; rw [if_neg (by simp)]
    rw [e1, e2]
    have hrd := fun wx (h : Below w.heap.size w wx) => read_any (w := wx) (hS.below h hhi) (Nat.le_trans hhi h.size) hbl a
    obtain ⟨R, hRd⟩ : ∃ R, rda b a = R := ⟨_, rfl⟩
    rw [hRd] at hrd ⊢
    clear hRd e1 e2
    obtain ⟨n, i, f, g⟩ := R
    unfold gotV at hrd
    simp only at hrd ⊢
    have HRd := Lib.hid hrd
    clear hrd
    have HH := Lib.hid (half_start (t := ⟨(i : Int), f, (g : Int)⟩) (v := .string (bs n)) hR hC ho hne hold)
    clear hR hC hold hS
    obtain ⟨c0, c1, c2, c3, fz⟩ := HH.out.rd
    simp only [if_true, if_false, Bool.false_eq_true] at c1 c2 c3
    have c2' : w.cell? ⟨r, 2, none⟩ = some (.int .i64 0) := c2
    have fz1 := fz 1
    have fz2 := fz 2
    have fz3 := fz 3
    have cq := HH.out.old
    have fq := HH.out.ce.fz o
    clear fz
    go_enter Tryz.func134, Tryz.ntmps134
    go_wp2_with fail
    refine wp_region_held_drew (S := (fun wx => wx.cell? ⟨r, 0, none⟩ = some vb)) (by kernel_rfl) HH.out.rd.c0 (fun hHeld => ?_)
    refine wpAnyH_take (i := 0) (v := ?_) rfl (by kernel_rfl) (by kernel_rfl) (by kernel_rfl) (fun _ _ _ h => h) (Or.inl ⟨by rfl, ?_⟩) (by assumption) ?_
    rotate_left 1
    · intro w hSw; (try dsimp only at hSw); go_simp; try (with_reducible rfl)
    try simp only [Act.put, List.setIfInBounds_toArray, List.set_cons_zero, List.set_cons_succ]
    refine wpAnyH_take (i := 1) (v := ?_) rfl (by kernel_rfl) (by kernel_rfl) (by kernel_rfl) (fun _ _ _ h => h) (Or.inl ⟨by rfl, ?_⟩) (by assumption) ?_
    rotate_left 1
    · intro w hSw; (try dsimp only at hSw); go_simp; try (with_reducible rfl)
    try simp only [Act.put, List.setIfInBounds_toArray, List.set_cons_zero, List.set_cons_succ]
    refine wpAnyH_take (i := 2) (v := ?_) rfl (by kernel_rfl) (by kernel_rfl) (by kernel_rfl) (fun _ _ _ h => h) (Or.inl ⟨by rfl, ?_⟩) (by assumption) ?_
    rotate_left 1
    · intro w hSw; (try dsimp only at hSw); go_simp; try (with_reducible rfl)
    try simp only [Act.put, List.setIfInBounds_toArray, List.set_cons_zero, List.set_cons_succ]
    refine wpAnyH_take (i := 3) (v := ?_) rfl (by kernel_rfl) (by kernel_rfl) (by kernel_rfl) (fun _ _ _ h => h) (Or.inl ⟨by rfl, ?_⟩) (by assumption) ?_
    rotate_left 1
    · intro w hSw; (try dsimp only at hSw); go_simp; try (with_reducible rfl)
    try simp only [Act.put, List.setIfInBounds_toArray, List.set_cons_zero, List.set_cons_succ]
    refine wpAnyH_take (i := 4) (v := ?_) rfl (by kernel_rfl) (by kernel_rfl) (by kernel_rfl) (fun _ _ _ h => h) (Or.inl ⟨by rfl, ?_⟩) (by assumption) ?_
    rotate_left 1
    · intro w hSw; (try dsimp only at hSw); go_simp; try (with_reducible rfl)
    try simp only [Act.put, List.setIfInBounds_toArray, List.set_cons_zero, List.set_cons_succ]
    refine wpAnyH_take (i := 5) (v := ?_) rfl (by kernel_rfl) (by kernel_rfl) (by kernel_rfl) (fun _ _ _ h => h) (Or.inl ⟨by rfl, ?_⟩) (by assumption) ?_
    rotate_left 1
    · intro w hSw; (try dsimp only at hSw); go_simp; try (with_reducible rfl)
    try simp only [Act.put, List.setIfInBounds_toArray, List.set_cons_zero, List.set_cons_succ]
    refine wpAnyH_take (i := 6) (v := ?_) rfl (by kernel_rfl) (by kernel_rfl) (by kernel_rfl) (fun _ _ _ h => h) (Or.inl ⟨by rfl, ?_⟩) (by assumption) ?_
    rotate_left 1
    · intro w hSw; (try dsimp only at hSw); go_simp; try (with_reducible rfl)
    try simp only [Act.put, List.setIfInBounds_toArray, List.set_cons_zero, List.set_cons_succ]
    refine wpAnyH_take (i := 7) (v := ?_) rfl (by kernel_rfl) (by kernel_rfl) (by kernel_rfl) (fun _ _ _ h => h) (Or.inl ⟨by rfl, ?_⟩) (by assumption) ?_
    rotate_left 1
    · intro w hSw; (try dsimp only at hSw); go_simp; try (with_reducible rfl)
    try simp only [Act.put, List.setIfInBounds_toArray, List.set_cons_zero, List.set_cons_succ]
    refine wpAnyH_take (i := 8) (v := ?_) rfl (by kernel_rfl) (by kernel_rfl) (by kernel_rfl) (fun _ _ _ h => h) (Or.inl ⟨by rfl, ?_⟩) (by assumption) ?_
    rotate_left 1
    · intro w hSw; (try dsimp only at hSw); go_simp; try (with_reducible rfl)
    try simp only [Act.put, List.setIfInBounds_toArray, List.set_cons_zero, List.set_cons_succ]
    refine wpAnyH_take (i := 9) (v := ?_) rfl (by kernel_rfl) (by kernel_rfl) (by kernel_rfl) (fun _ _ _ h => h) (Or.inl ⟨by rfl, ?_⟩) (by assumption) ?_
    rotate_left 1
    · intro w hSw; (try dsimp only at hSw); go_simp; try (with_reducible rfl)
    try simp only [Act.put, List.setIfInBounds_toArray, List.set_cons_zero, List.set_cons_succ]
    refine wpAnyH_take (i := 10) (v := ?_) rfl (by kernel_rfl) (by kernel_rfl) (by kernel_rfl) (fun _ _ _ h => h) (Or.inl ⟨by rfl, ?_⟩) (by assumption) ?_
    rotate_left 1
    · intro w hSw; (try dsimp only at hSw); go_simp; try (with_reducible rfl)
    try simp only [Act.put, List.setIfInBounds_toArray, List.set_cons_zero, List.set_cons_succ]
    refine wpAnyH_ready (rs := [11]) (by kernel_rfl) (by simp) ?_
    refine AllReadyH.cons rfl (fun K hK => ?_) AllReadyH.nil
    go_simp
    refine hK.out _ _ HH.out.rd.c0 (fun hHeld => ?_)
    clear hK K
    try simp only [Act.put, List.setIfInBounds_toArray, List.set_cons_zero, List.set_cons_succ]
    refine wpAnyH_ready (rs := [12]) (by kernel_rfl) (by simp) ?_
    refine AllReadyH.cons rfl (fun K hK => ?_) AllReadyH.nil
    go_simp
    refine (HRd.out _ ((Below.refl _ w).drew)).mono ?_; rintro en w1 ⟨rfl, hb1⟩
    replace HH := Lib.hid (HH.out.later hb1)
    clear hb1
    try go_wp2_with fail
    refine hK.out _ _ HH.out.rd.c0 (fun hHeld => ?_)
    clear hK K
    try simp only [Act.put, List.setIfInBounds_toArray, List.set_cons_zero, List.set_cons_succ]
    clear c0 c1 c2 c3 cq fq fz1 fz2 fz3
    obtain ⟨c0, c1, c2, c3, fz⟩ := HH.out.rd
    simp only [if_true, if_false, Bool.false_eq_true] at c1 c2 c3
    have fz1 := fz 1
    have fz2 := fz 2
    have fz3 := fz 3
    have cq := HH.out.old
    have fq := HH.out.ce.fz o
    clear fz
    refine wpAnyH_take (i := 13) (v := ?_) rfl (by kernel_rfl) (by kernel_rfl) (by kernel_rfl) (fun _ _ _ h => h) (Or.inl ⟨by rfl, ?_⟩) (by assumption) ?_
    rotate_left 1
    · intro w hSw; (try dsimp only at hSw); go_simp; try (with_reducible rfl)
    try simp only [Act.put, List.setIfInBounds_toArray, List.set_cons_zero, List.set_cons_succ]
    refine wpAnyH_take (i := 14) (v := ?_) rfl (by kernel_rfl) (by kernel_rfl) (by kernel_rfl) (fun _ _ _ h => h) (Or.inl ⟨by rfl, ?_⟩) (by assumption) ?_
    rotate_left 1
    · intro w hSw; (try dsimp only at hSw); go_simp; try (with_reducible rfl)
    try simp only [Act.put, List.setIfInBounds_toArray, List.set_cons_zero, List.set_cons_succ]
    refine wpAnyH_take (i := 15) (v := ?_) rfl (by kernel_rfl) (by kernel_rfl) (by kernel_rfl) (fun _ _ _ h => h) (Or.inl ⟨by rfl, ?_⟩) (by assumption) ?_
    rotate_left 1
    · intro w hSw; (try dsimp only at hSw); go_simp; try (with_reducible rfl)
    try simp only [Act.put, List.setIfInBounds_toArray, List.set_cons_zero, List.set_cons_succ]
    refine wpAnyH_take (i := 16) (v := ?_) rfl (by kernel_rfl) (by kernel_rfl) (by kernel_rfl) (fun _ _ _ h => h) (Or.inl ⟨by rfl, ?_⟩) (by assumption) ?_
    rotate_left 1
    · intro w hSw; (try dsimp only at hSw); go_simp; try (with_reducible rfl)
    try simp only [Act.put, List.setIfInBounds_toArray, List.set_cons_zero, List.set_cons_succ]
    refine wpAnyH_take (i := 17) (v := ?_) rfl (by kernel_rfl) (by kernel_rfl) (by kernel_rfl) (fun _ _ _ h => h) (Or.inl ⟨by rfl, ?_⟩) (by assumption) ?_
    rotate_left 1
    · intro w hSw; (try dsimp only at hSw); go_simp; try (with_reducible rfl)
    try simp only [Act.put, List.setIfInBounds_toArray, List.set_cons_zero, List.set_cons_succ]
    refine wpAnyH_ready (rs := [18]) (by kernel_rfl) (by simp) ?_
    refine AllReadyH.cons rfl (fun K hK => ?_) AllReadyH.nil
    go_simp
    replace HH := Lib.hid HH.out.sq
    refine hK.out _ _ HH.out.rd.c0 (fun hHeld => ?_)
    clear hK K
    try simp only [Act.put, List.setIfInBounds_toArray, List.set_cons_zero, List.set_cons_succ]
    clear c0 c1 c2 c3 cq fq fz1 fz2 fz3
    obtain ⟨c0, c1, c2, c3, fz⟩ := HH.out.rd
    simp only [if_true, if_false, Bool.false_eq_true] at c1 c2 c3
    have fz1 := fz 1
    have fz2 := fz 2
    have fz3 := fz 3
    have cq := HH.out.old
    have fq := HH.out.ce.fz o
    clear fz
    refine wpAnyH_take (i := 19) (v := ?_) rfl (by kernel_rfl) (by kernel_rfl) (by kernel_rfl) (fun _ _ _ h => h) (Or.inl ⟨by rfl, ?_⟩) (by assumption) ?_
    rotate_left 1
    · intro w hSw; (try dsimp only at hSw); go_simp; try (with_reducible rfl)
    try simp only [Act.put, List.setIfInBounds_toArray, List.set_cons_zero, List.set_cons_succ]
    refine wpAnyH_take (i := 20) (v := ?_) rfl (by kernel_rfl) (by kernel_rfl) (by kernel_rfl) (fun _ _ _ h => h) (Or.inl ⟨by rfl, ?_⟩) (by assumption) ?_
    rotate_left 1
    · intro w hSw; (try dsimp only at hSw); go_simp; try (with_reducible rfl)
    try simp only [Act.put, List.setIfInBounds_toArray, List.set_cons_zero, List.set_cons_succ]
    refine wpAnyH_ready (rs := [21]) (by kernel_rfl) (by simp) ?_
    refine AllReadyH.cons rfl (fun K hK => ?_) AllReadyH.nil
    go_simp
    replace HH := Lib.hid HH.out.sa
    refine hK.out _ _ HH.out.rd.c0 (fun hHeld => ?_)
    clear hK K
    try simp only [Act.put, List.setIfInBounds_toArray, List.set_cons_zero, List.set_cons_succ]
    clear c0 c1 c2 c3 cq fq fz1 fz2 fz3
    obtain ⟨c0, c1, c2, c3, fz⟩ := HH.out.rd
    simp only [if_true, if_false, Bool.false_eq_true] at c1 c2 c3
    have fz1 := fz 1
    have fz2 := fz 2
    have fz3 := fz 3
    have cq := HH.out.old
    have fq := HH.out.ce.fz o
    clear fz
    refine wpAnyH_take (i := 22) (v := ?_) rfl (by kernel_rfl) (by kernel_rfl) (by kernel_rfl) (fun _ _ _ h => h) (Or.inl ⟨by rfl, ?_⟩) (by assumption) ?_
    rotate_left 1
    · intro w hSw; (try dsimp only at hSw); go_simp; try (with_reducible rfl)
    try simp only [Act.put, List.setIfInBounds_toArray, List.set_cons_zero, List.set_cons_succ]
    refine wpAnyH_take (i := 23) (v := ?_) rfl (by kernel_rfl) (by kernel_rfl) (by kernel_rfl) (fun _ _ _ h => h) (Or.inl ⟨by rfl, ?_⟩) (by assumption) ?_
    rotate_left 1
    · intro w hSw; (try dsimp only at hSw); go_simp; try (with_reducible rfl)
    try simp only [Act.put, List.setIfInBounds_toArray, List.set_cons_zero, List.set_cons_succ]
    refine wpAnyH_ready (rs := [24]) (by kernel_rfl) (by simp) ?_
    refine AllReadyH.cons rfl (fun K hK => ?_) AllReadyH.nil
    go_simp
    replace HH := Lib.hid HH.out.sf
    refine hK.out _ _ HH.out.rd.c0 (fun hHeld => ?_)
    clear hK K
    try simp only [Act.put, List.setIfInBounds_toArray, List.set_cons_zero, List.set_cons_succ]
    clear c0 c1 c2 c3 cq fq fz1 fz2 fz3
    obtain ⟨c0, c1, c2, c3, fz⟩ := HH.out.rd
    simp only [if_true, if_false, Bool.false_eq_true] at c1 c2 c3
    have fz1 := fz 1
    have fz2 := fz 2
    have fz3 := fz 3
    have cq := HH.out.old
    have fq := HH.out.ce.fz o
    clear fz
    refine wpAnyH_done (by kernel_rfl) ?_ _
    clear hHeld
    go_wp2_with fail
    go_ret
    exact half_done HH.out


  · have tE : (e == 0) = false := by simpa using h0
    have e1 : stN b ⟨a, e, p⟩ = ⟨a, e, p⟩ := by unfold stN; rw [if_pos h0]
    have e2 : (.string (bs (vlN b ⟨a, e, p⟩ old))) = l[o] := by rw [hold]; unfold vlN; rw [if_pos h0]
    rw [e1, e2, List.set_getElem_self]
    have HR := Lib.hid hR
    have HC := Lib.hid hC
    have c2 := hR.c2
    clear hR hC e1 e2 hS hold
    go_enter Tryz.func134, Tryz.ntmps134
    go_wp2_with fail
    go_ret
    exact ⟨rfl, HR.out, HC.out, Aside.refl _ _⟩

set_option maxHeartbeats 8000000 in
theorem two_next {w : World} {r q o lo hi : Nat} {vb : Value} {s : RS} {l : List Value} {b : List UInt8} (hR : Rdr w r vb s) (hC : Cel w q l) (ho : o < l.length) (hne : r ≠ q) {old : Int} (hold : l[o] = .int .i64 old) (hS : Sl w lo hi vb (iz b)) (hhi : hi ≤ w.heap.size) (hbl : b.length ≤ 1000000) :
    Calls Tryz.prog 136 #[.pointer (some ⟨r, 0, none⟩), .pointer (some ⟨q, o, none⟩), .func (.func 72) #[] #[]] w (NextPost w r q o vb (st2 b s) (l.set o (.int .i64 (vl2 b s old)))) := by
  obtain ⟨a, e, p⟩ := s
  by_cases h0 : e = 0
  · subst h0
    have e1 : st2 b ⟨a, 0, p⟩ = ⟨getF 2 b.length a (a + 2), getE 2 b.length a, getA 2 b.length a⟩ := by unfold st2; rw [if_neg (by simp)]
    have e2 : vl2 b ⟨a, 0, p⟩ old = getF 2 b.length a (nAt2 (iz b) a.toNat) := by unfold vl2; rw [if_neg (by simp)]
    rw [e1, e2]
    have hrd := fun wx (h : Below w.heap.size w wx) => get16_any (w := wx) (hS.below h hhi) (iz_byte b) (by rw [iz_len]; exact hbl) (Nat.le_trans hhi h.size) a
    rw [iz_len] at hrd
    unfold GetPost at hrd
    obtain ⟨n, hn⟩ : ∃ n, getF 2 b.length a (nAt2 (iz b) a.toNat) = n := ⟨_, rfl⟩
    obtain ⟨i, hi2⟩ : ∃ i, getF 2 b.length a (a + 2) = i := ⟨_, rfl⟩
    obtain ⟨f, hf⟩ : ∃ f, getE 2 b.length a = f := ⟨_, rfl⟩
    obtain ⟨g, hg⟩ : ∃ g, getA 2 b.length a = g := ⟨_, rfl⟩
    rw [hn, hi2, hf, hg] at hrd
    rw [hn, hi2, hf, hg]
    clear hn hi2 hf hg e1 e2
    have HRd := Lib.hid hrd
    clear hrd
    have HH := Lib.hid (half_start (t := ⟨i, f, g⟩) (v := .int .i64 n) hR hC ho hne hold)
    clear hR hC hold hS
    obtain ⟨c0, c1, c2, c3, fz⟩ := HH.out.rd
    simp only [if_true, if_false, Bool.false_eq_true] at c1 c2 c3
    have c2' : w.cell? ⟨r, 2, none⟩ = some (.int .i64 0) := c2
    have fz1 := fz 1
    have fz2 := fz 2
    have fz3 := fz 3
    have cq := HH.out.old
    have fq := HH.out.ce.fz o
    clear fz
    go_enter Tryz.func136, Tryz.ntmps136
    go_wp2_with fail
    refine wp_region_held_drew (S := (fun wx => wx.cell? ⟨r, 0, none⟩ = some vb)) (by kernel_rfl) HH.out.rd.c0 (fun hHeld => ?_)
    refine wpAnyH_take (i := 0) (v := ?_) rfl (by kernel_rfl) (by kernel_rfl) (by kernel_rfl) (fun _ _ _ h => h) (Or.inl ⟨by rfl, ?_⟩) (by assumption) ?_
    rotate_left 1
    · intro w hSw; (try dsimp only at hSw); go_simp; try (with_reducible rfl)
    try simp only [Act.put, List.setIfInBounds_toArray, List.set_cons_zero, List.set_cons_succ]
    refine wpAnyH_take (i := 1) (v := ?_) rfl (by kernel_rfl) (by kernel_rfl) (by kernel_rfl) (fun _ _ _ h => h) (Or.inl ⟨by rfl, ?_⟩) (by assumption) ?_
    rotate_left 1
    · intro w hSw; (try dsimp only at hSw); go_simp; try (with_reducible rfl)
    try simp only [Act.put, List.setIfInBounds_toArray, List.set_cons_zero, List.set_cons_succ]
    refine wpAnyH_take (i := 2) (v := ?_) rfl (by kernel_rfl) (by kernel_rfl) (by kernel_rfl) (fun _ _ _ h => h) (Or.inl ⟨by rfl, ?_⟩) (by assumption) ?_
    rotate_left 1
    · intro w hSw; (try dsimp only at hSw); go_simp; try (with_reducible rfl)
    try simp only [Act.put, List.setIfInBounds_toArray, List.set_cons_zero, List.set_cons_succ]
    refine wpAnyH_take (i := 3) (v := ?_) rfl (by kernel_rfl) (by kernel_rfl) (by kernel_rfl) (fun _ _ _ h => h) (Or.inl ⟨by rfl, ?_⟩) (by assumption) ?_
    rotate_left 1
    · intro w hSw; (try dsimp only at hSw); go_simp; try (with_reducible rfl)
    try simp only [Act.put, List.setIfInBounds_toArray, List.set_cons_zero, List.set_cons_succ]
    refine wpAnyH_take (i := 4) (v := ?_) rfl (by kernel_rfl) (by kernel_rfl) (by kernel_rfl) (fun _ _ _ h => h) (Or.inl ⟨by rfl, ?_⟩) (by assumption) ?_
    rotate_left 1
    · intro w hSw; (try dsimp only at hSw); go_simp; try (with_reducible rfl)
    try simp only [Act.put, List.setIfInBounds_toArray, List.set_cons_zero, List.set_cons_succ]
    refine wpAnyH_take (i := 5) (v := ?_) rfl (by kernel_rfl) (by kernel_rfl) (by kernel_rfl) (fun _ _ _ h => h) (Or.inl ⟨by rfl, ?_⟩) (by assumption) ?_
    rotate_left 1
    · intro w hSw; (try dsimp only at hSw); go_simp; try (with_reducible rfl)
    try simp only [Act.put, List.setIfInBounds_toArray, List.set_cons_zero, List.set_cons_succ]
    refine wpAnyH_take (i := 6) (v := ?_) rfl (by kernel_rfl) (by kernel_rfl) (by kernel_rfl) (fun _ _ _ h => h) (Or.inl ⟨by rfl, ?_⟩) (by assumption) ?_
    rotate_left 1
    · intro w hSw; (try dsimp only at hSw); go_simp; try (with_reducible rfl)
    try simp only [Act.put, List.setIfInBounds_toArray, List.set_cons_zero, List.set_cons_succ]
    refine wpAnyH_take (i := 7) (v := ?_) rfl (by kernel_rfl) (by kernel_rfl) (by kernel_rfl) (fun _ _ _ h => h) (Or.inl ⟨by rfl, ?_⟩) (by assumption) ?_
    rotate_left 1
    · intro w hSw; (try dsimp only at hSw); go_simp; try (with_reducible rfl)
    try simp only [Act.put, List.setIfInBounds_toArray, List.set_cons_zero, List.set_cons_succ]
    refine wpAnyH_take (i := 8) (v := ?_) rfl (by kernel_rfl) (by kernel_rfl) (by kernel_rfl) (fun _ _ _ h => h) (Or.inl ⟨by rfl, ?_⟩) (by assumption) ?_
    rotate_left 1
    · intro w hSw; (try dsimp only at hSw); go_simp; try (with_reducible rfl)
    try simp only [Act.put, List.setIfInBounds_toArray, List.set_cons_zero, List.set_cons_succ]
    refine wpAnyH_take (i := 9) (v := ?_) rfl (by kernel_rfl) (by kernel_rfl) (by kernel_rfl) (fun _ _ _ h => h) (Or.inl ⟨by rfl, ?_⟩) (by assumption) ?_
    rotate_left 1
    · intro w hSw; (try dsimp only at hSw); go_simp; try (with_reducible rfl)
    try simp only [Act.put, List.setIfInBounds_toArray, List.set_cons_zero, List.set_cons_succ]
    refine wpAnyH_take (i := 10) (v := ?_) rfl (by kernel_rfl) (by kernel_rfl) (by kernel_rfl) (fun _ _ _ h => h) (Or.inl ⟨by rfl, ?_⟩) (by assumption) ?_
    rotate_left 1
    · intro w hSw; (try dsimp only at hSw); go_simp; try (with_reducible rfl)
    try simp only [Act.put, List.setIfInBounds_toArray, List.set_cons_zero, List.set_cons_succ]
    refine wpAnyH_ready (rs := [11]) (by kernel_rfl) (by simp) ?_
    refine AllReadyH.cons rfl (fun K hK => ?_) AllReadyH.nil
    go_simp
    refine hK.out _ _ HH.out.rd.c0 (fun hHeld => ?_)
    clear hK K
    try simp only [Act.put, List.setIfInBounds_toArray, List.set_cons_zero, List.set_cons_succ]
    refine wpAnyH_ready (rs := [12]) (by kernel_rfl) (by simp) ?_
    refine AllReadyH.cons rfl (fun K hK => ?_) AllReadyH.nil
    go_simp
    refine (HRd.out _ ((Below.refl _ w).drew)).mono ?_; rintro en w1 ⟨rfl, hb1⟩
    replace HH := Lib.hid (HH.out.later hb1)
    clear hb1
    try go_wp2_with fail
    refine hK.out _ _ HH.out.rd.c0 (fun hHeld => ?_)
    clear hK K
    try simp only [Act.put, List.setIfInBounds_toArray, List.set_cons_zero, List.set_cons_succ]
    clear c0 c1 c2 c3 cq fq fz1 fz2 fz3
    obtain ⟨c0, c1, c2, c3, fz⟩ := HH.out.rd
    simp only [if_true, if_false, Bool.false_eq_true] at c1 c2 c3
    have fz1 := fz 1
    have fz2 := fz 2
    have fz3 := fz 3
    have cq := HH.out.old
    have fq := HH.out.ce.fz o
    clear fz
    refine wpAnyH_take (i := 13) (v := ?_) rfl (by kernel_rfl) (by kernel_rfl) (by kernel_rfl) (fun _ _ _ h => h) (Or.inl ⟨by rfl, ?_⟩) (by assumption) ?_
    rotate_left 1
    · intro w hSw; (try dsimp only at hSw); go_simp; try (with_reducible rfl)
    try simp only [Act.put, List.setIfInBounds_toArray, List.set_cons_zero, List.set_cons_succ]
    refine wpAnyH_take (i := 14) (v := ?_) rfl (by kernel_rfl) (by kernel_rfl) (by kernel_rfl) (fun _ _ _ h => h) (Or.inl ⟨by rfl, ?_⟩) (by assumption) ?_
    rotate_left 1
    · intro w hSw; (try dsimp only at hSw); go_simp; try (with_reducible rfl)
    try simp only [Act.put, List.setIfInBounds_toArray, List.set_cons_zero, List.set_cons_succ]
    refine wpAnyH_take (i := 15) (v := ?_) rfl (by kernel_rfl) (by kernel_rfl) (by kernel_rfl) (fun _ _ _ h => h) (Or.inl ⟨by rfl, ?_⟩) (by assumption) ?_
    rotate_left 1
    · intro w hSw; (try dsimp only at hSw); go_simp; try (with_reducible rfl)
    try simp only [Act.put, List.setIfInBounds_toArray, List.set_cons_zero, List.set_cons_succ]
    refine wpAnyH_take (i := 16) (v := ?_) rfl (by kernel_rfl) (by kernel_rfl) (by kernel_rfl) (fun _ _ _ h => h) (Or.inl ⟨by rfl, ?_⟩) (by assumption) ?_
    rotate_left 1
    · intro w hSw; (try dsimp only at hSw); go_simp; try (with_reducible rfl)
    try simp only [Act.put, List.setIfInBounds_toArray, List.set_cons_zero, List.set_cons_succ]
    refine wpAnyH_take (i := 17) (v := ?_) rfl (by kernel_rfl) (by kernel_rfl) (by kernel_rfl) (fun _ _ _ h => h) (Or.inl ⟨by rfl, ?_⟩) (by assumption) ?_
    rotate_left 1
    · intro w hSw; (try dsimp only at hSw); go_simp; try (with_reducible rfl)
    try simp only [Act.put, List.setIfInBounds_toArray, List.set_cons_zero, List.set_cons_succ]
    refine wpAnyH_ready (rs := [18]) (by kernel_rfl) (by simp) ?_
    refine AllReadyH.cons rfl (fun K hK => ?_) AllReadyH.nil
    go_simp
    replace HH := Lib.hid HH.out.sq
    refine hK.out _ _ HH.out.rd.c0 (fun hHeld => ?_)
    clear hK K
    try simp only [Act.put, List.setIfInBounds_toArray, List.set_cons_zero, List.set_cons_succ]
    clear c0 c1 c2 c3 cq fq fz1 fz2 fz3
    obtain ⟨c0, c1, c2, c3, fz⟩ := HH.out.rd
    simp only [if_true, if_false, Bool.false_eq_true] at c1 c2 c3
    have fz1 := fz 1
    have fz2 := fz 2
    have fz3 := fz 3
    have cq := HH.out.old
    have fq := HH.out.ce.fz o
    clear fz
    refine wpAnyH_take (i := 19) (v := ?_) rfl (by kernel_rfl) (by kernel_rfl) (by kernel_rfl) (fun _ _ _ h => h) (Or.inl ⟨by rfl, ?_⟩) (by assumption) ?_
    rotate_left 1
    · intro w hSw; (try dsimp only at hSw); go_simp; try (with_reducible rfl)
    try simp only [Act.put, List.setIfInBounds_toArray, List.set_cons_zero, List.set_cons_succ]
    refine wpAnyH_take (i := 20) (v := ?_) rfl (by kernel_rfl) (by kernel_rfl) (by kernel_rfl) (fun _ _ _ h => h) (Or.inl ⟨by rfl, ?_⟩) (by assumption) ?_
    rotate_left 1
    · intro w hSw; (try dsimp only at hSw); go_simp; try (with_reducible rfl)
    try simp only [Act.put, List.setIfInBounds_toArray, List.set_cons_zero, List.set_cons_succ]
    refine wpAnyH_ready (rs := [21]) (by kernel_rfl) (by simp) ?_
    refine AllReadyH.cons rfl (fun K hK => ?_) AllReadyH.nil
    go_simp
    replace HH := Lib.hid HH.out.sa
    refine hK.out _ _ HH.out.rd.c0 (fun hHeld => ?_)
    clear hK K
    try simp only [Act.put, List.setIfInBounds_toArray, List.set_cons_zero, List.set_cons_succ]
    clear c0 c1 c2 c3 cq fq fz1 fz2 fz3
    obtain ⟨c0, c1, c2, c3, fz⟩ := HH.out.rd
    simp only [if_true, if_false, Bool.false_eq_true] at c1 c2 c3
    have fz1 := fz 1
    have fz2 := fz 2
    have fz3 := fz 3
    have cq := HH.out.old
    have fq := HH.out.ce.fz o
    clear fz
    refine wpAnyH_take (i := 22) (v := ?_) rfl (by kernel_rfl) (by kernel_rfl) (by kernel_rfl) (fun _ _ _ h => h) (Or.inl ⟨by rfl, ?_⟩) (by assumption) ?_
    rotate_left 1
    · intro w hSw; (try dsimp only at hSw); go_simp; try (with_reducible rfl)
    try simp only [Act.put, List.setIfInBounds_toArray, List.set_cons_zero, List.set_cons_succ]
    refine wpAnyH_take (i := 23) (v := ?_) rfl (by kernel_rfl) (by kernel_rfl) (by kernel_rfl) (fun _ _ _ h => h) (Or.inl ⟨by rfl, ?_⟩) (by assumption) ?_
    rotate_left 1
    · intro w hSw; (try dsimp only at hSw); go_simp; try (with_reducible rfl)
    try simp only [Act.put, List.setIfInBounds_toArray, List.set_cons_zero, List.set_cons_succ]
    refine wpAnyH_ready (rs := [24]) (by kernel_rfl) (by simp) ?_
    refine AllReadyH.cons rfl (fun K hK => ?_) AllReadyH.nil
    go_simp
    replace HH := Lib.hid HH.out.sf
    refine hK.out _ _ HH.out.rd.c0 (fun hHeld => ?_)
    clear hK K
    try simp only [Act.put, List.setIfInBounds_toArray, List.set_cons_zero, List.set_cons_succ]
    clear c0 c1 c2 c3 cq fq fz1 fz2 fz3
    obtain ⟨c0, c1, c2, c3, fz⟩ := HH.out.rd
    simp only [if_true, if_false, Bool.false_eq_true] at c1 c2 c3
    have fz1 := fz 1
    have fz2 := fz 2
    have fz3 := fz 3
    have cq := HH.out.old
    have fq := HH.out.ce.fz o
    clear fz
    refine wpAnyH_done (by kernel_rfl) ?_ _
    clear hHeld
    go_wp2_with fail
    go_ret
    exact half_done HH.out


  · have tE : (e == 0) = false := by simpa using h0
    have e1 : st2 b ⟨a, e, p⟩ = ⟨a, e, p⟩ := by unfold st2; rw [if_pos h0]
    have e2 : (.int .i64 (vl2 b ⟨a, e, p⟩ old)) = l[o] := by rw [hold]; unfold vl2; rw [if_pos h0]
    rw [e1, e2, List.set_getElem_self]
    have HR := Lib.hid hR
    have HC := Lib.hid hC
    have c2 := hR.c2
    clear hR hC e1 e2 hS hold
    go_enter Tryz.func136, Tryz.ntmps136
    go_wp2_with fail
    go_ret
    exact ⟨rfl, HR.out, HC.out, Aside.refl _ _⟩

set_option maxHeartbeats 8000000 in
theorem four_next {w : World} {r q o lo hi : Nat} {vb : Value} {s : RS} {l : List Value} {b : List UInt8} (hR : Rdr w r vb s) (hC : Cel w q l) (ho : o < l.length) (hne : r ≠ q) {old : Int} (hold : l[o] = .int .i64 old) (hS : Sl w lo hi vb (iz b)) (hhi : hi ≤ w.heap.size) (hbl : b.length ≤ 1000000) :
    Calls Tryz.prog 136 #[.pointer (some ⟨r, 0, none⟩), .pointer (some ⟨q, o, none⟩), .func (.func 164) #[] #[]] w (NextPost w r q o vb (st4 b s) (l.set o (.int .i64 (vl4 b s old)))) := by
  obtain ⟨a, e, p⟩ := s
  by_cases h0 : e = 0
  · subst h0
    have e1 : st4 b ⟨a, 0, p⟩ = ⟨getF 4 b.length a (a + 4), getE 4 b.length a, getA 4 b.length a⟩ := by unfold st4; rw [if_neg (by simp)]
    have e2 : vl4 b ⟨a, 0, p⟩ old = getF 4 b.length a (nAt4 (iz b) a.toNat) := by unfold vl4; rw [if_neg (by simp)]
    rw [e1, e2]
    have hrd := fun wx (h : Below w.heap.size w wx) => get32_any (w := wx) (hS.below h hhi) (iz_byte b) (by rw [iz_len]; exact hbl) (Nat.le_trans hhi h.size) a
    rw [iz_len] at hrd
    unfold GetPost at hrd
    obtain ⟨n, hn⟩ : ∃ n, getF 4 b.length a (nAt4 (iz b) a.toNat) = n := ⟨_, rfl⟩
    obtain ⟨i, hi2⟩ : ∃ i, getF 4 b.length a (a + 4) = i := ⟨_, rfl⟩
    obtain ⟨f, hf⟩ : ∃ f, getE 4 b.length a = f := ⟨_, rfl⟩
    obtain ⟨g, hg⟩ : ∃ g, getA 4 b.length a = g := ⟨_, rfl⟩
    rw [hn, hi2, hf, hg] at hrd
    rw [hn, hi2, hf, hg]
    clear hn hi2 hf hg e1 e2
    have HRd := Lib.hid hrd
    clear hrd
    have HH := Lib.hid (half_start (t := ⟨i, f, g⟩) (v := .int .i64 n) hR hC ho hne hold)
    clear hR hC hold hS
    obtain ⟨c0, c1, c2, c3, fz⟩ := HH.out.rd
    simp only [if_true, if_false, Bool.false_eq_true] at c1 c2 c3
    have c2' : w.cell? ⟨r, 2, none⟩ = some (.int .i64 0) := c2
    have fz1 := fz 1
    have fz2 := fz 2
    have fz3 := fz 3
    have cq := HH.out.old
    have fq := HH.out.ce.fz o
    clear fz
    go_enter Tryz.func136, Tryz.ntmps136
    go_wp2_with fail
    refine wp_region_held_drew (S := (fun wx => wx.cell? ⟨r, 0, none⟩ = some vb)) (by kernel_rfl) HH.out.rd.c0 (fun hHeld => ?_)
    refine wpAnyH_take (i := 0) (v := ?_) rfl (by kernel_rfl) (by kernel_rfl) (by kernel_rfl) (fun _ _ _ h => h) (Or.inl ⟨by rfl, ?_⟩) (by assumption) ?_
    rotate_left 1
    · intro w hSw; (try dsimp only at hSw); go_simp; try (with_reducible rfl)
    try simp only [Act.put, List.setIfInBounds_toArray, List.set_cons_zero, List.set_cons_succ]
    refine wpAnyH_take (i := 1) (v := ?_) rfl (by kernel_rfl) (by kernel_rfl) (by kernel_rfl) (fun _ _ _ h => h) (Or.inl ⟨by rfl, ?_⟩) (by assumption) ?_
    rotate_left 1
    · intro w hSw; (try dsimp only at hSw); go_simp; try (with_reducible rfl)
    try simp only [Act.put, List.setIfInBounds_toArray, List.set_cons_zero, List.set_cons_succ]
    refine wpAnyH_take (i := 2) (v := ?_) rfl (by kernel_rfl) (by kernel_rfl) (by kernel_rfl) (fun _ _ _ h => h) (Or.inl ⟨by rfl, ?_⟩) (by assumption) ?_
    rotate_left 1
    · intro w hSw; (try dsimp only at hSw); go_simp; try (with_reducible rfl)
    try simp only [Act.put, List.setIfInBounds_toArray, List.set_cons_zero, List.set_cons_succ]
    refine wpAnyH_take (i := 3) (v := ?_) rfl (by kernel_rfl) (by kernel_rfl) (by kernel_rfl) (fun _ _ _ h => h) (Or.inl ⟨by rfl, ?_⟩) (by assumption) ?_
    rotate_left 1
    · intro w hSw; (try dsimp only at hSw); go_simp; try (with_reducible rfl)
    try simp only [Act.put, List.setIfInBounds_toArray, List.set_cons_zero, List.set_cons_succ]
    refine wpAnyH_take (i := 4) (v := ?_) rfl (by kernel_rfl) (by kernel_rfl) (by kernel_rfl) (fun _ _ _ h => h) (Or.inl ⟨by rfl, ?_⟩) (by assumption) ?_
    rotate_left 1
    · intro w hSw; (try dsimp only at hSw); go_simp; try (with_reducible rfl)
    try simp only [Act.put, List.setIfInBounds_toArray, List.set_cons_zero, List.set_cons_succ]
    refine wpAnyH_take (i := 5) (v := ?_) rfl (by kernel_rfl) (by kernel_rfl) (by kernel_rfl) (fun _ _ _ h => h) (Or.inl ⟨by rfl, ?_⟩) (by assumption) ?_
    rotate_left 1
    · intro w hSw; (try dsimp only at hSw); go_simp; try (with_reducible rfl)
    try simp only [Act.put, List.setIfInBounds_toArray, List.set_cons_zero, List.set_cons_succ]
    refine wpAnyH_take (i := 6) (v := ?_) rfl (by kernel_rfl) (by kernel_rfl) (by kernel_rfl) (fun _ _ _ h => h) (Or.inl ⟨by rfl, ?_⟩) (by assumption) ?_
    rotate_left 1
    · intro w hSw; (try dsimp only at hSw); go_simp; try (with_reducible rfl)
    try simp only [Act.put, List.setIfInBounds_toArray, List.set_cons_zero, List.set_cons_succ]
    refine wpAnyH_take (i := 7) (v := ?_) rfl (by kernel_rfl) (by kernel_rfl) (by kernel_rfl) (fun _ _ _ h => h) (Or.inl ⟨by rfl, ?_⟩) (by assumption) ?_
    rotate_left 1
    · intro w hSw; (try dsimp only at hSw); go_simp; try (with_reducible rfl)
    try simp only [Act.put, List.setIfInBounds_toArray, List.set_cons_zero, List.set_cons_succ]
    refine wpAnyH_take (i := 8) (v := ?_) rfl (by kernel_rfl) (by kernel_rfl) (by kernel_rfl) (fun _ _ _ h => h) (Or.inl ⟨by rfl, ?_⟩) (by assumption) ?_
    rotate_left 1
    · intro w hSw; (try dsimp only at hSw); go_simp; try (with_reducible rfl)
    try simp only [Act.put, List.setIfInBounds_toArray, List.set_cons_zero, List.set_cons_succ]
    refine wpAnyH_take (i := 9) (v := ?_) rfl (by kernel_rfl) (by kernel_rfl) (by kernel_rfl) (fun _ _ _ h => h) (Or.inl ⟨by rfl, ?_⟩) (by assumption) ?_
    rotate_left 1
    · intro w hSw; (try dsimp only at hSw); go_simp; try (with_reducible rfl)
    try simp only [Act.put, List.setIfInBounds_toArray, List.set_cons_zero, List.set_cons_succ]
    refine wpAnyH_take (i := 10) (v := ?_) rfl (by kernel_rfl) (by kernel_rfl) (by kernel_rfl) (fun _ _ _ h => h) (Or.inl ⟨by rfl, ?_⟩) (by assumption) ?_
    rotate_left 1
    · intro w hSw; (try dsimp only at hSw); go_simp; try (with_reducible rfl)
    try simp only [Act.put, List.setIfInBounds_toArray, List.set_cons_zero, List.set_cons_succ]
    refine wpAnyH_ready (rs := [11]) (by kernel_rfl) (by simp) ?_
    refine AllReadyH.cons rfl (fun K hK => ?_) AllReadyH.nil
    go_simp
    refine hK.out _ _ HH.out.rd.c0 (fun hHeld => ?_)
    clear hK K
    try simp only [Act.put, List.setIfInBounds_toArray, List.set_cons_zero, List.set_cons_succ]
    refine wpAnyH_ready (rs := [12]) (by kernel_rfl) (by simp) ?_
    refine AllReadyH.cons rfl (fun K hK => ?_) AllReadyH.nil
    go_simp
    refine (HRd.out _ ((Below.refl _ w).drew)).mono ?_; rintro en w1 ⟨rfl, hb1⟩
    replace HH := Lib.hid (HH.out.later hb1)
    clear hb1
    try go_wp2_with fail
    refine hK.out _ _ HH.out.rd.c0 (fun hHeld => ?_)
    clear hK K
    try simp only [Act.put, List.setIfInBounds_toArray, List.set_cons_zero, List.set_cons_succ]
    clear c0 c1 c2 c3 cq fq fz1 fz2 fz3
    obtain ⟨c0, c1, c2, c3, fz⟩ := HH.out.rd
    simp only [if_true, if_false, Bool.false_eq_true] at c1 c2 c3
    have fz1 := fz 1
    have fz2 := fz 2
    have fz3 := fz 3
    have cq := HH.out.old
    have fq := HH.out.ce.fz o
    clear fz
    refine wpAnyH_take (i := 13) (v := ?_) rfl (by kernel_rfl) (by kernel_rfl) (by kernel_rfl) (fun _ _ _ h => h) (Or.inl ⟨by rfl, ?_⟩) (by assumption) ?_
    rotate_left 1
    · intro w hSw; (try dsimp only at hSw); go_simp; try (with_reducible rfl)
    try simp only [Act.put, List.setIfInBounds_toArray, List.set_cons_zero, List.set_cons_succ]
    refine wpAnyH_take (i := 14) (v := ?_) rfl (by kernel_rfl) (by kernel_rfl) (by kernel_rfl) (fun _ _ _ h => h) (Or.inl ⟨by rfl, ?_⟩) (by assumption) ?_
    rotate_left 1
    · intro w hSw; (try dsimp only at hSw); go_simp; try (with_reducible rfl)
    try simp only [Act.put, List.setIfInBounds_toArray, List.set_cons_zero, List.set_cons_succ]
    refine wpAnyH_take (i := 15) (v := ?_) rfl (by kernel_rfl) (by kernel_rfl) (by kernel_rfl) (fun _ _ _ h => h) (Or.inl ⟨by rfl, ?_⟩) (by assumption) ?_
    rotate_left 1
    · intro w hSw; (try dsimp only at hSw); go_simp; try (with_reducible rfl)
    try simp only [Act.put, List.setIfInBounds_toArray, List.set_cons_zero, List.set_cons_succ]
    refine wpAnyH_take (i := 16) (v := ?_) rfl (by kernel_rfl) (by kernel_rfl) (by kernel_rfl) (fun _ _ _ h => h) (Or.inl ⟨by rfl, ?_⟩) (by assumption) ?_
    rotate_left 1
    · intro w hSw; (try dsimp only at hSw); go_simp; try (with_reducible rfl)
    try simp only [Act.put, List.setIfInBounds_toArray, List.set_cons_zero, List.set_cons_succ]
    refine wpAnyH_take (i := 17) (v := ?_) rfl (by kernel_rfl) (by kernel_rfl) (by kernel_rfl) (fun _ _ _ h => h) (Or.inl ⟨by rfl, ?_⟩) (by assumption) ?_
    rotate_left 1
    · intro w hSw; (try dsimp only at hSw); go_simp; try (with_reducible rfl)
    try simp only [Act.put, List.setIfInBounds_toArray, List.set_cons_zero, List.set_cons_succ]
    refine wpAnyH_ready (rs := [18]) (by kernel_rfl) (by simp) ?_
    refine AllReadyH.cons rfl (fun K hK => ?_) AllReadyH.nil
    go_simp
    replace HH := Lib.hid HH.out.sq
    refine hK.out _ _ HH.out.rd.c0 (fun hHeld => ?_)
    clear hK K
    try simp only [Act.put, List.setIfInBounds_toArray, List.set_cons_zero, List.set_cons_succ]
    clear c0 c1 c2 c3 cq fq fz1 fz2 fz3
    obtain ⟨c0, c1, c2, c3, fz⟩ := HH.out.rd
    simp only [if_true, if_false, Bool.false_eq_true] at c1 c2 c3
    have fz1 := fz 1
    have fz2 := fz 2
    have fz3 := fz 3
    have cq := HH.out.old
    have fq := HH.out.ce.fz o
    clear fz
    refine wpAnyH_take (i := 19) (v := ?_) rfl (by kernel_rfl) (by kernel_rfl) (by kernel_rfl) (fun _ _ _ h => h) (Or.inl ⟨by rfl, ?_⟩) (by assumption) ?_
    rotate_left 1
    · intro w hSw; (try dsimp only at hSw); go_simp; try (with_reducible rfl)
    try simp only [Act.put, List.setIfInBounds_toArray, List.set_cons_zero, List.set_cons_succ]
    refine wpAnyH_take (i := 20) (v := ?_) rfl (by kernel_rfl) (by kernel_rfl) (by kernel_rfl) (fun _ _ _ h => h) (Or.inl ⟨by rfl, ?_⟩) (by assumption) ?_
    rotate_left 1
    · intro w hSw; (try dsimp only at hSw); go_simp; try (with_reducible rfl)
    try simp only [Act.put, List.setIfInBounds_toArray, List.set_cons_zero, List.set_cons_succ]
    refine wpAnyH_ready (rs := [21]) (by kernel_rfl) (by simp) ?_
    refine AllReadyH.cons rfl (fun K hK => ?_) AllReadyH.nil
    go_simp
    replace HH := Lib.hid HH.out.sa
    refine hK.out _ _ HH.out.rd.c0 (fun hHeld => ?_)
    clear hK K
    try simp only [Act.put, List.setIfInBounds_toArray, List.set_cons_zero, List.set_cons_succ]
    clear c0 c1 c2 c3 cq fq fz1 fz2 fz3
    obtain ⟨c0, c1, c2, c3, fz⟩ := HH.out.rd
    simp only [if_true, if_false, Bool.false_eq_true] at c1 c2 c3
    have fz1 := fz 1
    have fz2 := fz 2
    have fz3 := fz 3
    have cq := HH.out.old
    have fq := HH.out.ce.fz o
    clear fz
    refine wpAnyH_take (i := 22) (v := ?_) rfl (by kernel_rfl) (by kernel_rfl) (by kernel_rfl) (fun _ _ _ h => h) (Or.inl ⟨by rfl, ?_⟩) (by assumption) ?_
    rotate_left 1
    · intro w hSw; (try dsimp only at hSw); go_simp; try (with_reducible rfl)
    try simp only [Act.put, List.setIfInBounds_toArray, List.set_cons_zero, List.set_cons_succ]
    refine wpAnyH_take (i := 23) (v := ?_) rfl (by kernel_rfl) (by kernel_rfl) (by kernel_rfl) (fun _ _ _ h => h) (Or.inl ⟨by rfl, ?_⟩) (by assumption) ?_
    rotate_left 1
    · intro w hSw; (try dsimp only at hSw); go_simp; try (with_reducible rfl)
    try simp only [Act.put, List.setIfInBounds_toArray, List.set_cons_zero, List.set_cons_succ]
    refine wpAnyH_ready (rs := [24]) (by kernel_rfl) (by simp) ?_
    refine AllReadyH.cons rfl (fun K hK => ?_) AllReadyH.nil
    go_simp
    replace HH := Lib.hid HH.out.sf
    refine hK.out _ _ HH.out.rd.c0 (fun hHeld => ?_)
    clear hK K
    try simp only [Act.put, List.setIfInBounds_toArray, List.set_cons_zero, List.set_cons_succ]
    clear c0 c1 c2 c3 cq fq fz1 fz2 fz3
    obtain ⟨c0, c1, c2, c3, fz⟩ := HH.out.rd
    simp only [if_true, if_false, Bool.false_eq_true] at c1 c2 c3
    have fz1 := fz 1
    have fz2 := fz 2
    have fz3 := fz 3
    have cq := HH.out.old
    have fq := HH.out.ce.fz o
    clear fz
    refine wpAnyH_done (by kernel_rfl) ?_ _
    clear hHeld
    go_wp2_with fail
    go_ret
    exact half_done HH.out


  · have tE : (e == 0) = false := by simpa using h0
    have e1 : st4 b ⟨a, e, p⟩ = ⟨a, e, p⟩ := by unfold st4; rw [if_pos h0]
    have e2 : (.int .i64 (vl4 b ⟨a, e, p⟩ old)) = l[o] := by rw [hold]; unfold vl4; rw [if_pos h0]
    rw [e1, e2, List.set_getElem_self]
    have HR := Lib.hid hR
    have HC := Lib.hid hC
    have c2 := hR.c2
    clear hR hC e1 e2 hS hold
    go_enter Tryz.func136, Tryz.ntmps136
    go_wp2_with fail
    go_ret
    exact ⟨rfl, HR.out, HC.out, Aside.refl _ _⟩

end Go.Proofs.YteegekpanadmkaaGreat

/-
  The document's Read.
-/
namespace Go.Proofs.YteegekpanadmkaaGreat
open Go.RowKit Go.Shelf
set_option linter.unusedVariables false
set_option maxRecDepth 100000

theorem lex_lt {L p i T : Nat} (hT : T < p) (hi : i ≤ L) : T * (L + 1) + (L - T) < p * (L + 1) + (L - i) := by
  have h := Nat.mul_le_mul_right (L + 1) (show T + 1 ≤ p from hT)
  rw [Nat.add_mul] at h
  generalize T * (L + 1) = x at *
  generalize p * (L + 1) = y at *
  omega

end Go.Proofs.YteegekpanadmkaaGreat

/-
  What is read is a name, or there is a fault; plainly.
-/
namespace Go.Proofs.YteegekpanadmkaaGreat
open Go.RowKit Go.Shelf
set_option linter.unusedVariables false
set_option maxRecDepth 100000

/-- Reading, way by way. -/
theorem rd_ind (b : List UInt8) (a : Nat) (M : Nat → Nat → Nat → List UInt8 → Got → Prop)
    (fault : ∀ part i next n (e : Int) k, e ≠ 0 → (k ≤ b.length ∨ k = a) → M part i next n ([], 0, e, k))
    (zero : ∀ part i next n (h : i < b.length), b[i].toNat = 0 → M part i next n (n ++ [0], if next = 0 then i + 1 else next, 0, 0))
    (label : ∀ part i next n R (h : i < b.length), b[i].toNat ≠ 0 → b[i].toNat < 64 → i + (1 + b[i].toNat) ≤ b.length → n.length + (1 + b[i].toNat) ≤ 254 →
      M part (i + (1 + b[i].toNat)) next (n ++ (b.drop i).take (1 + b[i].toNat)) R → M part i next n R)
    (lead : ∀ part i next n R (h : i + 1 < b.length), 192 ≤ (b[i]'(by omega)).toNat → ptr (b[i]'(by omega)) b[i + 1] < part →
      M (ptr (b[i]'(by omega)) b[i + 1]) (ptr (b[i]'(by omega)) b[i + 1]) (if next = 0 then i + 2 else next) n R → M part i next n R)
    (part i next : Nat) (n : List UInt8) : M part i next n (rd b a part i next n) := by
  obtain ⟨g, hg⟩ : ∃ g, part * (b.length + 1) + (b.length - i) = g := ⟨_, rfl⟩
  induction g using Nat.strongRecOn generalizing part i next n with
  | _ g ih =>
    by_cases h : i < b.length
    · by_cases h0 : b[i].toNat = 0
      · rw [rd_zero h h0]; exact zero _ _ _ _ h h0
      by_cases h1 : b[i].toNat < 64
      · by_cases h2 : b.length < i + (1 + b[i].toNat)
        · rw [rd_short h h0 h1 h2]; exact fault _ _ _ _ _ _ (by decide) (.inl (Nat.le_refl _))
        by_cases h3 : 254 < n.length + (1 + b[i].toNat)
        · rw [rd_long h h0 h1 h2 h3]; exact fault _ _ _ _ _ _ (by decide) (.inr rfl)
        rw [rd_label h h0 h1 h2 h3]
        exact label _ _ _ _ _ h h0 h1 (by omega) (by omega) (ih _ (by rw [← hg]; omega) _ _ _ _ rfl)
      by_cases h2 : b[i].toNat < 192
      · rw [rd_mid h (by omega) h2]; exact fault _ _ _ _ _ _ (by decide) (.inl (by omega))
      by_cases h3 : i + 1 < b.length
      · by_cases h4 : part ≤ ptr b[i] b[i + 1]
        · rw [rd_back h (by omega) h3 h4]; exact fault _ _ _ _ _ _ (by decide) (.inl (by omega))
        rw [rd_go h (by omega) h3 h4]
        exact lead _ _ _ _ _ h3 (by omega) (by omega) (ih _ (by rw [← hg]; exact lex_lt (by omega) (by omega)) _ _ _ _ rfl)
      · rw [rd_half h (by omega) (by omega)]; exact fault _ _ _ _ _ _ (by decide) (.inl (Nat.le_refl _))
    · rw [rd_end (by omega)]; exact fault _ _ _ _ _ _ (by decide) (.inl (Nat.le_refl _))

/-- A label and its length, cut out of bytes. -/
theorem cut_label {b : List UInt8} {i : Nat} (h : i < b.length) (h2 : i + (1 + b[i].toNat) ≤ b.length) :
    (b.drop i).take (1 + b[i].toNat) = wire [(b.drop (i + 1)).take b[i].toNat] ∧ ((b.drop (i + 1)).take b[i].toNat).length = b[i].toNat := by
  have hl : ((b.drop (i + 1)).take b[i].toNat).length = b[i].toNat := by rw [List.length_take, List.length_drop]; omega
  refine ⟨?_, hl⟩
  rw [List.drop_eq_getElem_cons h, Nat.add_comm 1, List.take_succ_cons, wire, wire, hl]
  simp

/-- What came of reading: a name that may be, its first labels those that were read; or a fault within the bytes. -/
def Fine (b : List UInt8) (ls : List (List UInt8)) (R : Got) : Prop :=
  (R.2.2.1 = 0 ∧ R.2.2.2 = 0 ∧ ∃ ls', R.1 = wire (ls ++ ls') ++ [0] ∧ Shorts (ls ++ ls')) ∨ (R.2.2.1 ≠ 0 ∧ R.1 = [] ∧ R.2.1 = 0 ∧ R.2.2.2 ≤ b.length)

theorem rd_fine (b : List UInt8) (a : Nat) (ha : a ≤ b.length) (part i next : Nat) (n : List UInt8) (ls : List (List UInt8)) (hn : n = wire ls) (hs : Shorts ls) : Fine b ls (rd b a part i next n) := by
  refine rd_ind b a (fun _ _ _ n R => ∀ ls, n = wire ls → Shorts ls → Fine b ls R) ?_ ?_ ?_ ?_ part i next n ls hn hs
  · intro part i next n e k he hk ls _ _
    exact .inr ⟨he, rfl, rfl, by show k ≤ b.length; omega⟩
  · intro part i next n h h0 ls hn hs
    exact .inl ⟨rfl, rfl, [], by rw [List.append_nil]; exact congrArg (· ++ [0]) hn, by rw [List.append_nil]; exact hs⟩
  · intro part i next n R h h0 h1 h2 h3 ih ls hn hs
    obtain ⟨e1, e2⟩ := cut_label h h2
    rcases ih (ls ++ [(b.drop (i + 1)).take b[i].toNat]) (by rw [wire_app, e1, hn]) ⟨fun x hx => by
        rcases List.mem_append.mp hx with hx | hx
        · exact hs.1 x hx
        · rw [List.mem_singleton.mp hx]; omega, by rw [wire_snoc, e2, ← hn]; omega⟩ with ⟨r1, r2, ls', r3, r4⟩ | r
    · exact .inl ⟨r1, r2, (b.drop (i + 1)).take b[i].toNat :: ls', by rw [r3]; simp, by simpa using r4⟩
    · exact .inr r
  · intro part i next n R h h0 h1 ih ls hn hs
    exact ih ls hn hs

theorem rd_kept (b : List UInt8) (a part i next : Nat) (n : List UInt8) (h0 : next ≠ 0) (he : (rd b a part i next n).2.2.1 = 0) : (rd b a part i next n).2.1 = next := by
  refine rd_ind b a (fun _ _ next _ R => next ≠ 0 → R.2.2.1 = 0 → R.2.1 = next) ?_ ?_ ?_ ?_ part i next n h0 he
  · intro part i next n e k he hk h0 h; exact absurd h he
  · intro part i next n h h0 hn _; show (if next = 0 then i + 1 else next) = next; rw [if_neg hn]
  · intro part i next n R h h0 h1 h2 h3 ih hn he; exact ih hn he
  · intro part i next n R h h0 h1 ih hn he
    have := ih (by rw [if_neg hn]; exact hn) he
    rw [if_neg hn] at this
    exact this

/-- Where a name ends whose first part is not left yet. -/
theorem rd_next (b : List UInt8) (a part i : Nat) (n : List UInt8) (hn : n.length ≤ 254) (he : (rd b a part i 0 n).2.2.1 = 0) :
    i < (rd b a part i 0 n).2.1 ∧ (rd b a part i 0 n).2.1 ≤ b.length ∧ (rd b a part i 0 n).2.1 + n.length ≤ i + 256 := by
  have := rd_ind b a (fun part i next n R => next = 0 → n.length ≤ 254 → R = rd b a part i next n → R.2.2.1 = 0 → i < R.2.1 ∧ R.2.1 ≤ b.length ∧ R.2.1 + n.length ≤ i + 256) ?_ ?_ ?_ ?_ part i 0 n rfl hn rfl he
  · exact this
  · intro part i next n e k he hk _ _ _ h; exact absurd h he
  · intro part i next n h h0 hn hl _ _
    subst hn
    show i < i + 1 ∧ i + 1 ≤ b.length ∧ i + 1 + n.length ≤ i + 256
    omega
  · intro part i next n R h h0 h1 h2 h3 ih hn hl hR he
    have hlen : ((b.drop i).take (1 + b[i].toNat)).length = 1 + b[i].toNat := by rw [List.length_take, List.length_drop]; omega
    have := ih hn (by rw [List.length_append, hlen]; omega) (by rw [hR, rd_label h h0 h1 (by omega) (by omega)]) he
    rw [List.length_append, hlen] at this
    omega
  · intro part i next n R h h0 h1 ih hn hl hR he
    subst hn
    rw [rd_go (by omega) h0 h (by omega), if_pos rfl] at hR
    have := rd_kept b a _ _ (i + 2) n (by omega) (by rw [← hR]; exact he)
    rw [← hR] at this
    omega

end Go.Proofs.YteegekpanadmkaaGreat

/-
  octet.Put16, Put32.
-/
namespace Go.Proofs.YteegekpanadmkaaGreat
open Go.RowKit
set_option linter.unusedVariables false
set_option maxRecDepth 100000

/-- The error that Put tells, and the bytes. -/
def putE (m n : Int) : Int := if 0 ≤ n ∧ n ≤ m then 0 else 5

def putL2 (n : Int) : List Int := if 0 ≤ n ∧ n ≤ 65535 then [n / 256, n % 256] else []

def putL4 (n : Int) : List Int := if 0 ≤ n ∧ n ≤ 4294967295 then [n / 256 / 256 / 256, n / 256 / 256 % 256, n / 256 % 256, n % 256] else []

def PutPost (w : World) (E : Int) (L : List Int) (e : Ending) (w' : World) : Prop :=
  ∃ v g, e = .returned (.tuple #[v, .int .i64 E]) ∧ Own w' g v L ∧ w.heap.size ≤ g ∧ g < w'.heap.size ∧ Below w.heap.size w w'

set_option maxHeartbeats 400000 in
theorem put2_any (n : Int) (w : World) : Calls Tryz.prog 87 #[.int .i64 n] w (PutPost w (putE 65535 n) (putL2 n)) := by
  have hm := make2
  by_cases h : 0 ≤ n ∧ n ≤ 65535
  · have e1 : putE 65535 n = 0 := by unfold putE; rw [if_pos h]
    have e2 : putL2 n = [n / 256, n % 256] := by unfold putL2; rw [if_pos h]
    rw [e1, e2]
    clear e1 e2
    obtain ⟨h0, h1⟩ := h
    go_enter Tryz.func87, Tryz.ntmps87
    go_wp2
    refine wp_loop_rounds 3 ?_
    iterate 3 (rw [rounds_succ]; go_wp2)
    go_ret2
    exact ⟨_, w.heap.size + 1, rfl, .inr ⟨rfl, two_alloc _ _ _⟩, by omega, by simp, ((Below.refl _ _).alloc (Nat.le_refl _) _).alloc (by simp) _⟩
  · have e1 : putE 65535 n = 5 := by unfold putE; rw [if_neg h]
    have e2 : putL2 n = [] := by unfold putL2; rw [if_neg h]
    rw [e1, e2]
    clear e1 e2
    have h : n < 0 ∨ 65535 < n := by omega
    go_enter Tryz.func87, Tryz.ntmps87
    go_wp2
    refine wp_loop_rounds 3 ?_
    iterate 3 (rw [rounds_succ]; go_wp2)
    go_ret2
    exact ⟨_, w.heap.size, rfl, .inl ⟨rfl, rfl⟩, by omega, by simp; omega, ((Below.refl _ _).alloc (Nat.le_refl _) _).alloc (by simp) _⟩

set_option maxHeartbeats 400000 in
theorem put4_any (n : Int) (w : World) : Calls Tryz.prog 174 #[.int .i64 n] w (PutPost w (putE 4294967295 n) (putL4 n)) := by
  have hm := make4
  by_cases h : 0 ≤ n ∧ n ≤ 4294967295
  · have e1 : putE 4294967295 n = 0 := by unfold putE; rw [if_pos h]
    have e2 : putL4 n = [n / 256 / 256 / 256, n / 256 / 256 % 256, n / 256 % 256, n % 256] := by unfold putL4; rw [if_pos h]
    rw [e1, e2]
    clear e1 e2
    obtain ⟨h0, h1⟩ := h
    go_enter Tryz.func174, Tryz.ntmps174
    go_wp2
    refine wp_loop_rounds 5 ?_
    iterate 5 (rw [rounds_succ]; go_wp2)
    go_ret2
    exact ⟨_, w.heap.size + 1, rfl, .inr ⟨rfl, two_alloc _ _ _⟩, by omega, by simp, ((Below.refl _ _).alloc (Nat.le_refl _) _).alloc (by simp) _⟩
  · have e1 : putE 4294967295 n = 5 := by unfold putE; rw [if_neg h]
    have e2 : putL4 n = [] := by unfold putL4; rw [if_neg h]
    rw [e1, e2]
    clear e1 e2
    have h : n < 0 ∨ 4294967295 < n := by omega
    go_enter Tryz.func174, Tryz.ntmps174
    go_wp2
    refine wp_loop_rounds 5 ?_
    iterate 5 (rw [rounds_succ]; go_wp2)
    go_ret2
    exact ⟨_, w.heap.size, rfl, .inl ⟨rfl, rfl⟩, by omega, by simp; omega, ((Below.refl _ _).alloc (Nat.le_refl _) _).alloc (by simp) _⟩

set_option maxHeartbeats 400000 in
theorem put16_any (n : Int) (w : World) : Calls Tryz.prog 73 #[.int .i64 n] w (PutPost w (putE 65535 n) (putL2 n)) := by
  go_enter Tryz.func73, Tryz.ntmps73
  go_wp2_with (go_at_call 87; refine (put2_any n _).mono ?_; rintro e w1 ⟨v, g, rfl, h1, h2, h3, h4⟩; have H1 := Lib.hid h1; have H2 := Lib.hid h2; have H3 := Lib.hid h3; have H4 := Lib.hid h4; clear h1 h2 h3 h4)
  go_ret2
  exact ⟨v, g, rfl, H1.out, H2.out, H3.out, H4.out⟩

set_option maxHeartbeats 400000 in
theorem put32_any (n : Int) (w : World) : Calls Tryz.prog 168 #[.int .i64 n] w (PutPost w (putE 4294967295 n) (putL4 n)) := by
  go_enter Tryz.func168, Tryz.ntmps168
  go_wp2_with (go_at_call 174; refine (put4_any n _).mono ?_; rintro e w1 ⟨v, g, rfl, h1, h2, h3, h4⟩; have H1 := Lib.hid h1; have H2 := Lib.hid h2; have H3 := Lib.hid h3; have H4 := Lib.hid h4; clear h1 h2 h3 h4)
  go_ret2
  exact ⟨v, g, rfl, H1.out, H2.out, H3.out, H4.out⟩

end Go.Proofs.YteegekpanadmkaaGreat

/-
  Rows of bytes of the call's own, made by append or out of a text: nothing of them is frozen, what lies behind their length is zeros.
-/
namespace Go.Proofs.YteegekpanadmkaaGreat
open Go.RowKit Go.Shelf
set_option linter.unusedVariables false
set_option maxRecDepth 100000

/-- The bytes l, then zeros up to the capacity. -/
def rowB (l : List UInt8) (cap : Nat) : List Value := ub l ++ List.replicate (cap - l.length) (.int .u8 0)

theorem ub_len (l : List UInt8) : (ub l).length = l.length := by simp [ub]
theorem ub_iz (l : List UInt8) : ub l = (iz l).map (Value.int .u8) := by unfold ub iz; rw [List.map_map]; rfl
theorem ub_app (a b : List UInt8) : ub (a ++ b) = ub a ++ ub b := List.map_append
theorem rowB_len {l : List UInt8} {cap : Nat} (h : l.length ≤ cap) : (rowB l cap).length = cap := by unfold rowB; rw [List.length_append, ub_len, List.length_replicate]; omega
theorem rowB_get {l : List UInt8} {cap j : Nat} (h : j < l.length) : (rowB l cap)[j]? = some (.int .u8 ((l.getD j 0).toNat : Nat)) := by
  unfold rowB
  rw [List.getElem?_append_left (by rw [ub_len]; exact h), ub, List.getElem?_map, List.getElem?_eq_getElem h, List.getD, List.getElem?_eq_getElem h]
  rfl

/-- v is nil, or such a row, in a block from B on. -/
def OwnB (w : World) (B : Nat) (v : Value) (l : List UInt8) : Prop :=
  (v = .slice none 0 0 ∧ l = []) ∨ ∃ g cap, ∃ fz : Nat × Nat, v = .slice (some ⟨g, 0, none⟩) l.length cap ∧ B ≤ g ∧ l.length ≤ cap ∧ cap ≤ maxLen ∧ (fz.2 = 0 ∨ cap ≤ fz.1) ∧ w.heap[g]? = some (.cells (rowB l cap).toArray 5 fz)

section
variable {w w' : World} {B B' : Nat} {v : Value} {l : List UInt8} {G : Nat → Prop}
theorem OwnB.nil (w : World) (B : Nat) : OwnB w B (.slice .none 0 0) [] := .inl ⟨rfl, rfl⟩
theorem OwnB.lt (h : OwnB w B v l) : ∀ k, v.ownBlock = some k → B ≤ k ∧ k < w.heap.size := by
  intro k hk
  rcases h with ⟨rfl, _⟩ | ⟨g, cap, fz, rfl, hB, _, _, _, hg⟩
  · simp [Value.ownBlock] at hk
  · simp [Value.ownBlock] at hk
    subst hk
    exact ⟨hB, (Array.getElem?_eq_some_iff.1 hg).1⟩
theorem OwnB.aside (h : OwnB w B v l) (ha : Aside G w w') (hG : ∀ b, v.ownBlock = some b → ¬ G b) : OwnB w' B v l := by
  have hlt := h.lt
  rcases h with h2 | ⟨g, cap, fz, hv, hg, h1, h2, h3, hh⟩
  · exact .inl h2
  · exact .inr ⟨g, cap, fz, hv, hg, h1, h2, h3, (ha.block g (by subst hv; exact (hlt g rfl).2) (hG g (by rw [hv]; rfl))).trans hh⟩
theorem OwnB.mono (h : OwnB w B v l) (hB : B' ≤ B) : OwnB w B' v l := by
  rcases h with h2 | ⟨g, cap, fz, hv, hg, r⟩
  · exact .inl h2
  · exact .inr ⟨g, cap, fz, hv, Nat.le_trans hB hg, r⟩
theorem OwnB.below (h : OwnB w B v l) (hb : Below w.heap.size w w') : OwnB w' B v l := h.aside (G := fun _ => False) (Aside.of_all hb) fun _ _ h => h
theorem OwnB.shape (h : OwnB w B v l) : ∃ a c, v = .slice a l.length c := by
  rcases h with ⟨rfl, rfl⟩ | ⟨g, cap, fz, rfl, _⟩
  · exact ⟨none, 0, rfl⟩
  · exact ⟨_, cap, rfl⟩
theorem OwnB.cells (h : OwnB w B v l) {g : Nat} (hg : v.ownBlock = some g) : ∀ j, j < l.length → w.cell? ⟨g, j, none⟩ = some (.int .u8 ((l.getD j 0).toNat : Nat)) := by
  intro j hj
  rcases h with ⟨rfl, _⟩ | ⟨g', cap, fz, rfl, _, _, _, _, hh⟩
  · simp [Value.ownBlock] at hg
  · simp [Value.ownBlock] at hg
    subst hg
    rw [World.cell?, hh]
    simpa using rowB_get (cap := cap) hj
theorem OwnB.sl (h : OwnB w B v l) : Sl w B w.heap.size v (iz l) := by
  have hlt := h.lt
  have hc := fun g hg => h.cells (g := g) hg
  rcases h with ⟨rfl, rfl⟩ | ⟨g, cap, fz, rfl, hB, hl, _, _, hh⟩
  · exact ⟨none, 0, rfl, by simp [iz], fun _ => rfl, fun h => by simp [iz] at h⟩
  · refine ⟨some ⟨g, 0, none⟩, cap, by rw [iz_len], by rw [iz_len]; exact hl, fun h => by simp at h, fun _ => ⟨g, 0, rfl, hB, (hlt g rfl).2, fun j hj => ?_⟩⟩
    rw [iz_len] at hj
    rw [Nat.zero_add, hc g rfl j hj, iz_get l j hj, List.getD, List.getElem?_eq_getElem hj]
    rfl
theorem OwnB.of_own {g : Nat} (h : Own w g v (iz l)) (hl : l.length ≤ 1000000) : OwnB w g v l := by
  rcases h with ⟨h1, h2⟩ | ⟨h1, h2⟩
  · exact .inl ⟨h1, by have := congrArg List.length h2; rw [iz_len] at this; exact List.eq_nil_of_length_eq_zero this⟩
  · rw [iz_len] at h1
    refine .inr ⟨g, l.length, (0, 0), h1, Nat.le_refl _, Nat.le_refl _, by unfold maxLen; omega, .inl rfl, ?_⟩
    rw [h2, rowB, Nat.sub_self, List.replicate_zero, List.append_nil, ub_iz]
end

/-- A text as bytes. -/
theorem conv_B (w : World) (s : List UInt8) (hs : s.length ≤ 1000000) : ∃ cap W, (convert 9 28 (.string (bs s))).run Tryz.prog w = .ok (.slice (some ⟨w.heap.size, 0, none⟩) s.length cap) W ∧ OwnB W w.heap.size (.slice (some ⟨w.heap.size, 0, none⟩) s.length cap) s ∧ Below w.heap.size w W ∧ w.heap.size < W.heap.size := by
  have h := run_bytes_of_string (P := Tryz.prog) w 9 28 5 (bs s) Tryz.underlying9 Tryz.underlying28 Tryz.underlying5
  rw [bs_size] at h
  have hge := grownCap_ge w s.length 0 5
  have hlist : (bytesRow (bs s) (grownCap w s.length 0 5)) = (rowB s (grownCap w s.length 0 5)).toArray := by
    unfold bytesRow rowB ub
    rw [bs_size]
    simp [bs]
  have hsz : (rowB s (grownCap w s.length 0 5)).toArray.size = grownCap w s.length 0 5 := by simp only [List.size_toArray, rowB_len hge]
  rw [hlist, hsz] at h
  exact ⟨_, _, h, .inr ⟨w.heap.size, grownCap w s.length 0 5, (grownCap w s.length 0 5, grownCap w s.length 0 5 + 1), rfl, Nat.le_refl _, hge, grownCap_le_maxLen w s.length 0 5 (by unfold maxLen; omega), .inr (Nat.le_refl _), heap_alloc_new w.drew _⟩, (Below.refl _ w).drew.alloc (Nat.le_refl _) _, by simp⟩

/-- Cells written into a row that is marked behind its end. -/
theorem store_marked (P : Program) (g t : Nat) (fz : Nat × Nat) : ∀ (vs : List Value) (o i : Nat) (cur : Array Value) (w : World), w.heap[g]? = some (.cells cur t fz) → (fz.2 = 0 ∨ cur.size ≤ fz.1) → o + i + vs.length ≤ cur.size → (∀ x ∈ vs, x.oneCell' = true) →
    (storeCells ⟨g, o, none⟩ vs i).run P w = .ok () (w.setRow g (cur.toList.take (o + i) ++ vs ++ cur.toList.drop (o + i + vs.length)).toArray) := by
  intro vs
  induction vs with
  | nil =>
    intro o i cur w hg _ _ _
    have : cur.toList.take (o + i) ++ [] ++ cur.toList.drop (o + i + ([] : List Value).length) = cur.toList := by simp
    rw [this, Array.toArray_toList, setRow_self w g cur t fz hg]
    rfl
  | cons x r ih =>
    intro o i cur w hg hz hl h1
    rw [List.length_cons] at hl
    have hlt : o + i < cur.size := by omega
    have hx : w.cell? ⟨g, o + i, none⟩ = some cur[o + i] := by simp [World.cell?, hg, hlt]
    have hf : w.frozen? ⟨g, o + i, none⟩ = false := by
      have : ¬ (fz.1 ≤ o + i ∧ o + i < fz.2) := by omega
      simp only [World.frozen?, hg]
      simpa using this
    have hstep : (store ((⟨g, o, none⟩ : Addr).add i) x).run P w = .ok () (w.setRow g (cur.setIfInBounds (o + i) x)) := by
      rw [WideShapes.add_plain, run_store P w _ x _ (h1 x List.mem_cons_self), hx]
      simp [hf, setCell_eq_setRow w g (o + i) cur t fz x hg]
    have hrest := ih o (i + 1) (cur.setIfInBounds (o + i) x) _ (setRow_heap w g cur _ t fz hg) (by simpa using hz) (by simp; omega) (fun y hy => h1 y (List.mem_cons_of_mem _ hy))
    have hlist : (cur.setIfInBounds (o + i) x).toList.take (o + (i + 1)) ++ r ++ (cur.setIfInBounds (o + i) x).toList.drop (o + (i + 1) + r.length) = cur.toList.take (o + i) ++ (x :: r) ++ cur.toList.drop (o + i + (r.length + 1)) := by
      rw [Array.toList_setIfInBounds]
      have hl2 : o + i < cur.toList.length := by simpa using hlt
      rw [show o + (i + 1) = o + i + 1 by omega, List.take_set, List.drop_set_of_lt (by omega), List.take_add_one, List.getElem?_eq_getElem hl2]
      rw [List.set_append_right _ _ (by rw [List.length_take]; omega)]
      have hl3 : cur.toList.length = cur.size := Array.length_toList
      have e1 : o + i - (cur.toList.take (o + i)).length = 0 := by rw [List.length_take]; omega
      rw [e1, Option.toList_some, List.set_cons_zero, List.append_assoc, List.append_assoc, List.append_assoc, List.singleton_append]
      congr 4
      omega
    simp only [storeCells, Sem.run_bind, hstep, Result.andThen_ok, hrest, setRow_setRow, hlist, List.length_cons]

/-- append of bytes, as it runs. -/
theorem run_appB {w : World} (B : Nat) (v xv : Value) (l l' : List UInt8) {lo hi : Nat} (hown : OwnB w B v l) (hx : Sl w lo hi xv (iz l')) (h0 : 0 < l'.length) (hb : l.length + l'.length ≤ 1000000) (hB : B ≤ w.heap.size) :
    ∃ v' w', (Builtin.append_ #[28, 28] 28 #[v, xv]).run Tryz.prog w = .ok v' w' ∧ OwnB w' B v' (l ++ l') ∧ w.grownBy w' v.ownBlock ∧ (v'.ownBlock = v.ownBlock ∨ v'.ownBlock = some w.heap.size) := by
  obtain ⟨i0, hi, hz0, hz1, hz2⟩ := info_parts Tryz.info5
  obtain ⟨ad, c, rfl, hc, hn, hp⟩ := hx
  rw [iz_len] at hc hp
  rw [iz_len]
  obtain ⟨g', off, rfl, _, _, hcell⟩ := hp h0
  have hnews : ∀ j u, (ub l')[j]? = some u → w.cell? ((⟨g', off, none⟩ : Addr).add j) = some u := by
    intro j u hu
    have hj : j < l'.length := by have := (List.getElem?_eq_some_iff.mp hu).1; rwa [ub_len] at this
    rw [WideShapes.add_plain, hcell j hj, iz_get l' j hj]
    rw [ub, List.getElem?_map, List.getElem?_eq_getElem hj] at hu
    exact hu
  have hm : (ub l').length = l'.length := ub_len _
  have fin : ∀ (need cap : Nat), l.length + l'.length ≤ cap → cap ≤ maxLen → ∀ W, W.heap[w.heap.size]? = some (.cells (ub l ++ ub l' ++ List.replicate (cap - (l.length + l'.length)) (Value.int .u8 0)).toArray 5 (0, 0)) →
      OwnB W B (.slice (some ⟨w.heap.size, 0, none⟩) (l.length + l'.length) cap) (l ++ l') := fun need cap h1 h2 W hW => by
    refine .inr ⟨w.heap.size, cap, (0, 0), by rw [List.length_append], hB, by rw [List.length_append]; exact h1, h2, .inl rfl, ?_⟩
    rw [hW, rowB, ub_app, List.length_append]
  rcases hown with ⟨rfl, rfl⟩ | ⟨g, cap, fz, rfl, hbg, hlc, hcm, hfz, hg⟩
  · have hr := run_append_nil (P := Tryz.prog) w 28 28 5 i0 (.int .u8 0) Tryz.underlying28 hi hz0 ⟨g', off, none⟩ l'.length c (ub l') (by rw [hz1, hm]; omega) hnews (by omega) (by simp at hb; omega) (by rw [hz2]; simp at hb; omega)
    have hge := grownCap_ge w l'.length 0 5
    have h := fin 0 (grownCap w l'.length 0 5) (by simpa using hge) (grownCap_le_maxLen w l'.length 0 5 (by simp at hb; unfold maxLen; omega)) (w.drew.alloc (.cells (ub l' ++ List.replicate (grownCap w l'.length 0 5 - l'.length) (Value.int .u8 0)).toArray 5)) (by
      refine (heap_alloc_new w.drew _).trans ?_
      simp [ub])
    simp only [List.length_nil, Nat.zero_add] at h
    refine ⟨_, _, hr, ?_, ⟨rfl, rfl, rfl, by simp, fun k hk _ => Below.heap_alloc w.drew _ _ hk⟩, .inr rfl⟩
    rw [zeroCells_one _ rfl]
    simp only [List.append_toArray]
    exact h
  · by_cases hroom : l.length + l'.length ≤ cap
    · have hf := run_firstCells_some (P := Tryz.prog) w i0.size l'.length ⟨g', off, none⟩ l'.length c (ub l') (by rw [hz1, hm]; omega) hnews
      have hst := store_marked Tryz.prog g 5 fz (ub l') (l.length * i0.size) 0 _ w hg (by simpa [rowB_len hlc] using hfz) (by simp [rowB_len hlc, hz1, hm]; omega) (ub_one _)
      have hlist : (rowB l cap).toArray.toList.take (l.length * i0.size + 0) ++ ub l' ++ (rowB l cap).toArray.toList.drop (l.length * i0.size + 0 + (ub l').length) = rowB (l ++ l') cap := by
        rw [hz1, hm]
        unfold rowB
        simp only [Nat.mul_one, Nat.add_zero]
        rw [List.take_left' (ub_len l), ub_app, List.length_append, List.append_assoc, List.append_assoc, List.drop_append, List.drop_eq_nil_of_le (by rw [ub_len]; omega), List.nil_append, List.drop_replicate, ub_len]
        congr 3
        omega
      rw [hlist] at hst
      refine ⟨.slice (some ⟨g, 0, none⟩) (l.length + l'.length) cap, w.setRow g (rowB (l ++ l') cap).toArray, ?_, .inr ⟨g, cap, fz, by rw [List.length_append], hbg, by rw [List.length_append]; exact hroom, hcm, hfz, setRow_heap w g _ _ 5 fz hg⟩, ⟨rfl, rfl, rfl, by simp, fun k _ hk => setRow_other w g k _ (fun e => hk (by simp [Value.ownBlock, e]))⟩, .inl rfl⟩
      simp [Builtin.append_, run_underlying Tryz.underlying28, sizeOf, typeInfo, hi, Builtin.lenOf, hroom, hf, Addr.add_lit, hst]
    · have holds : ∀ j u, (ub l)[j]? = some u → w.cell? ((⟨g, 0, none⟩ : Addr).add j) = some u := fun j u hu => by
        have hj : j < l.length := by have := (List.getElem?_eq_some_iff.mp hu).1; rwa [ub_len] at this
        rw [WideShapes.add_plain, Nat.zero_add, World.cell?, hg]
        simp [rowB, List.getElem?_append_left (show j < (ub l).length by rw [ub_len]; exact hj), hu]
      have hr := run_append_grow (P := Tryz.prog) w 28 28 5 i0 (.int .u8 0) Tryz.underlying28 hi hz0 ⟨g, 0, none⟩ l.length cap (ub l) (by rw [hz1, ub_len]; omega) holds ⟨g', off, none⟩ l'.length c (ub l') (by rw [hz1, hm]; omega) hnews (by omega) (by omega) (growslice_fits (by omega) (by rw [hz2]; omega))
      have hge := grownCap_ge w (l.length + l'.length) cap 5
      have h := fin 0 (grownCap w (l.length + l'.length) cap 5) hge (grownCap_le_maxLen w (l.length + l'.length) cap 5 (by unfold maxLen; omega)) (w.drew.alloc (.cells (ub l ++ ub l' ++ List.replicate (grownCap w (l.length + l'.length) cap 5 - (l.length + l'.length)) (Value.int .u8 0)).toArray 5)) (heap_alloc_new w.drew _)
      refine ⟨_, _, hr, ?_, ⟨rfl, rfl, rfl, by simp, fun k hk _ => Below.heap_alloc w.drew _ _ hk⟩, .inr rfl⟩
      rw [zeroCells_one _ rfl]
      simp only [List.append_toArray]
      exact h

/-- Block g is c bytes, none of them frozen. -/
def Bytes (w : World) (g c : Nat) : Prop := ∃ (l : List Int) (fz : Nat × Nat), l.length = c ∧ (fz.2 = 0 ∨ c ≤ fz.1) ∧ w.heap[g]? = some (.cells (l.map (Value.int .u8)).toArray 5 fz)

end Go.Proofs.YteegekpanadmkaaGreat

/-
  Tails of names, and what a packer knows of them; plainly.
-/
namespace Go.Proofs.YteegekpanadmkaaGreat
open Go.RowKit Go.Shelf
set_option linter.unusedVariables false
set_option maxRecDepth 100000

/-- The name of labels. -/
def nm (ls : List (List UInt8)) : List UInt8 := wire ls ++ [0]

/-- Where label k begins. -/
def pos (ls : List (List UInt8)) (k : Nat) : Nat := (wire (ls.take k)).length

theorem nm_len (ls : List (List UInt8)) : (nm ls).length = (wire ls).length + 1 := by simp [nm]
theorem wire_split (ls : List (List UInt8)) (k : Nat) : wire ls = wire (ls.take k) ++ wire (ls.drop k) := by rw [← wire_app, List.take_append_drop]
theorem nm_drop (ls : List (List UInt8)) (k : Nat) : (nm ls).drop (pos ls k) = nm (ls.drop k) := by
  unfold nm pos
  rw [wire_split ls k, List.append_assoc, List.drop_left]
theorem nm_take (ls : List (List UInt8)) (k : Nat) : (nm ls).take (pos ls k) = wire (ls.take k) := by
  unfold nm pos
  rw [wire_split ls k, List.append_assoc, List.take_left]
theorem pos_le (ls : List (List UInt8)) (k : Nat) : pos ls k ≤ (wire ls).length := by
  rw [wire_split ls k, List.length_append]; unfold pos; omega
theorem pos_zero (ls : List (List UInt8)) : pos ls 0 = 0 := by simp [pos, wire]
theorem pos_succ {ls : List (List UInt8)} {k : Nat} (h : k < ls.length) : pos ls (k + 1) = pos ls k + (1 + ls[k].length) := by
  unfold pos
  rw [List.take_add_one, List.getElem?_eq_getElem h, Option.toList_some, wire_snoc]
theorem pos_rest (ls : List (List UInt8)) (k : Nat) : (wire (ls.drop k)).length + pos ls k = (wire ls).length := by
  rw [wire_split ls k, List.length_append]; unfold pos; omega
theorem nm_at {ls : List (List UInt8)} {k : Nat} (h : k < ls.length) (hs : ∀ x ∈ ls, 0 < x.length ∧ x.length ≤ 63) : ∃ hp : pos ls k < (nm ls).length, (nm ls)[pos ls k].toNat = ls[k].length := by
  have hp : pos ls k < (nm ls).length := by rw [nm_len]; have := pos_le ls k; omega
  refine ⟨hp, ?_⟩
  have e := nm_drop ls k
  rw [List.drop_eq_getElem_cons hp, List.drop_eq_getElem_cons h] at e
  have e1 : (nm ls)[pos ls k] = UInt8.ofNat ls[k].length := by
    unfold nm at e
    rw [wire] at e
    injection e
  have := hs ls[k] (List.getElem_mem h)
  rw [e1, UInt8.toNat_ofNat']
  omega
theorem nm_end (ls : List (List UInt8)) : ∃ hp : pos ls ls.length < (nm ls).length, (nm ls)[pos ls ls.length].toNat = 0 := by
  have hp : pos ls ls.length < (nm ls).length := by rw [nm_len]; have := pos_le ls ls.length; omega
  refine ⟨hp, ?_⟩
  have e := nm_drop ls ls.length
  rw [List.drop_eq_getElem_cons hp, List.drop_length] at e
  have e1 : (nm ls)[pos ls ls.length] = 0 := by
    unfold nm at e
    rw [wire] at e
    injection e
  rw [e1]; rfl
theorem shorts_drop {ls : List (List UInt8)} (h : Shorts ls) (k : Nat) : Shorts (ls.drop k) :=
  ⟨fun x hx => h.1 x (List.mem_of_mem_drop hx), by have := pos_rest ls k; have := h.2; omega⟩
theorem nm_inj {a b : List (List UInt8)} (ha : Shorts a) (hb : Shorts b) (h : nm a = nm b) : a = b := by
  have h1 := shorts_labs ha
  have h2 := shorts_labs hb
  unfold nm at h
  rw [h] at h1
  exact h1.symm.trans h2
theorem nm_nil {ls : List (List UInt8)} (h : nm ls = [0]) : ls = [] := by
  cases ls with
  | nil => rfl
  | cons x r =>
    have := congrArg List.length h
    simp [nm, wire] at this
theorem len_wire (ls : List (List UInt8)) : ls.length ≤ (wire ls).length := by
  induction ls with
  | nil => simp
  | cons x r ih => simp [wire]; omega

/-- The place of a tail. -/
def plc (K : List (List UInt8 × Nat)) (n : List UInt8) : Option Nat := (K.find? (fun p => p.1 == n)).map (·.2)

theorem plc_app (K K' : List (List UInt8 × Nat)) (n : List UInt8) : plc (K ++ K') n = (plc K n).or (plc K' n) := by
  unfold plc
  rw [List.find?_append]
  cases K.find? (fun p => p.1 == n) <;> simp
theorem plc_none {K : List (List UInt8 × Nat)} {n : List UInt8} (h : ∀ p ∈ K, p.1 ≠ n) : plc K n = none := by
  unfold plc
  rw [List.find?_eq_none.mpr (fun p hp => by simpa using h p hp)]
  rfl
theorem plc_mem {K : List (List UInt8 × Nat)} {n : List UInt8} {x : Nat} (h : plc K n = some x) : (n, x) ∈ K := by
  unfold plc at h
  obtain ⟨p, hp, rfl⟩ := Option.map_eq_some_iff.mp h
  have h1 := List.find?_some hp
  have h2 := List.mem_of_find?_eq_some hp
  have : p.1 = n := by simpa using h1
  subst this
  exact h2
theorem plc_one (n m : List UInt8) (x : Nat) : plc [(n, x)] m = if n = m then some x else none := by
  unfold plc
  by_cases h : n = m <;> simp [h]

/-- How many labels are ahead of the first tail that is known. -/
def hdn (K : List (List UInt8 × Nat)) : List (List UInt8) → Nat
  | [] => 0
  | l :: r => if (plc K (nm (l :: r))).isSome then 0 else hdn K r + 1

theorem hdn_le (K : List (List UInt8 × Nat)) (ls : List (List UInt8)) : hdn K ls ≤ ls.length := by
  induction ls with
  | nil => simp [hdn]
  | cons l r ih => unfold hdn; split <;> simp <;> omega
theorem hdn_step (K : List (List UInt8 × Nat)) (ls : List (List UInt8)) (k : Nat) (hk : k < ls.length) (h : hdn K ls = k + hdn K (ls.drop k)) :
    (∀ x, plc K (nm (ls.drop k)) = some x → hdn K ls = k) ∧ (plc K (nm (ls.drop k)) = none → hdn K ls = (k + 1) + hdn K (ls.drop (k + 1))) := by
  have e : ls.drop k = ls[k] :: ls.drop (k + 1) := List.drop_eq_getElem_cons hk
  rw [e] at h ⊢
  rw [hdn] at h
  constructor
  · intro x hx
    rw [hx] at h
    simpa using h
  · intro hx
    rw [hx] at h
    simp at h
    omega
theorem hdn_none {K : List (List UInt8 × Nat)} : ∀ {ls : List (List UInt8)} {k : Nat}, k < hdn K ls → plc K (nm (ls.drop k)) = none
  | [], k, h => by simp [hdn] at h
  | l :: r, k, h => by
    unfold hdn at h
    split at h
    · omega
    · rename_i hn
      cases k with
      | zero => simpa using hn
      | succ k => exact hdn_none (ls := r) (by omega)
theorem hdn_stop {K : List (List UInt8 × Nat)} : ∀ {ls : List (List UInt8)}, hdn K ls < ls.length → ∃ x, plc K (nm (ls.drop (hdn K ls))) = some x
  | [], h => by simp at h
  | l :: r, h => by
    by_cases hs : (plc K (nm (l :: r))).isSome
    · have e : hdn K (l :: r) = 0 := by unfold hdn; rw [if_pos hs]
      rw [e]
      exact Option.isSome_iff_exists.mp hs
    · have e : hdn K (l :: r) = hdn K r + 1 := by conv => lhs; unfold hdn; rw [if_neg hs]
      rw [e] at h ⊢
      exact hdn_stop (ls := r) (by simpa using h)

/-- What a packer learns of the first h labels of a name that stands at a place. -/
def fr (at_ : Nat) : List (List UInt8) → Nat → List (List UInt8 × Nat)
  | [], _ => []
  | _ :: _, 0 => []
  | l :: r, h + 1 => (if at_ < 16384 then [(nm (l :: r), at_)] else []) ++ fr (at_ + (1 + l.length)) r h

theorem fr_zero (at_ : Nat) (ls : List (List UInt8)) : fr at_ ls 0 = [] := by cases ls <;> rfl
theorem fr_succ : ∀ (ls : List (List UInt8)) (at_ k : Nat), k < ls.length → fr at_ ls (k + 1) = fr at_ ls k ++ (if at_ + pos ls k < 16384 then [(nm (ls.drop k), at_ + pos ls k)] else [])
  | [], _, _, h => by simp at h
  | l :: r, at_, 0, h => by rw [pos_zero, List.drop_zero, fr_zero, fr, fr_zero, List.append_nil, Nat.add_zero, List.nil_append]
  | l :: r, at_, k + 1, h => by
    have e : pos (l :: r) (k + 1) = 1 + l.length + pos r k := by unfold pos; simp [wire]; omega
    rw [fr, fr_succ r _ k (by simpa using h), fr, e, List.drop_succ_cons, List.append_assoc]
    rw [show at_ + (1 + l.length) + pos r k = at_ + (1 + l.length + pos r k) by omega]
theorem pos_mono (ls : List (List UInt8)) {j k : Nat} (h : j ≤ k) : pos ls j ≤ pos ls k := by
  unfold pos
  rw [show ls.take j = (ls.take k).take j by rw [List.take_take, Nat.min_eq_left h], wire_split (ls.take k) j, List.length_append]
  omega
theorem fr_stop {ls : List (List UInt8)} {at_ k : Nat} (hf : 16384 ≤ at_ + pos ls k) : ∀ h, k ≤ h → h ≤ ls.length → fr at_ ls h = fr at_ ls k := by
  intro h hk
  induction h with
  | zero => intro _; rw [Nat.le_zero.mp hk]
  | succ h ih =>
    intro hl
    by_cases e : k = h + 1
    · rw [e]
    · rw [fr_succ ls at_ h (by omega), ih (by omega) (by omega), if_neg (by have := pos_mono ls (show k ≤ h by omega); omega), List.append_nil]
theorem fr_mem {ls : List (List UInt8)} {at_ : Nat} : ∀ {h : Nat}, h ≤ ls.length → ∀ p ∈ fr at_ ls h, ∃ j, j < h ∧ p = (nm (ls.drop j), at_ + pos ls j) ∧ at_ + pos ls j < 16384 := by
  intro h
  induction h with
  | zero => intro _ p hp; rw [fr_zero] at hp; simp at hp
  | succ h ih =>
    intro hl p hp
    rw [fr_succ ls at_ h (by omega)] at hp
    rcases List.mem_append.mp hp with hp | hp
    · obtain ⟨j, h1, h2⟩ := ih (by omega) p hp
      exact ⟨j, by omega, h2⟩
    · split at hp
      · rename_i hlt
        exact ⟨h, by omega, List.mem_singleton.mp hp, hlt⟩
      · simp at hp
theorem fr_len (ls : List (List UInt8)) (at_ : Nat) : ∀ h, (fr at_ ls h).length ≤ h := by
  induction ls generalizing at_ with
  | nil => intro h; simp [fr]
  | cons l r ih =>
    intro h
    cases h with
    | zero => rw [fr_zero]; simp
    | succ h => rw [fr, List.length_append]; have := ih (at_ + (1 + l.length)) h; split <;> simp <;> omega

/-- A tail is another one than those ahead of it. -/
theorem fr_fresh {K : List (List UInt8 × Nat)} {ls : List (List UInt8)} {at_ k : Nat} (hk : k < ls.length) (h : plc K (nm (ls.drop k)) = none) : plc (K ++ fr at_ ls k) (nm (ls.drop k)) = none := by
  rw [plc_app, h, Option.none_or]
  refine plc_none fun p hp => ?_
  obtain ⟨j, h1, rfl, _⟩ := fr_mem (by omega) p hp
  intro e
  have := congrArg List.length e
  rw [nm_len, nm_len] at this
  have h2 := pos_rest ls j
  have h3 := pos_rest ls k
  have h4 := pos_mono ls (show j + 1 ≤ k by omega)
  rw [pos_succ (show j < ls.length by omega)] at h4
  omega

/-- What a packer knows: names, not the root, at places that pointers lead to. -/
def GoodK (K : List (List UInt8 × Nat)) : Prop := ∀ p ∈ K, p.2 < 16384 ∧ ∃ ls, ls ≠ [] ∧ Shorts ls ∧ p.1 = nm ls

theorem good_nil : GoodK [] := fun p hp => by simp at hp
theorem good_fr {K : List (List UInt8 × Nat)} (h : GoodK K) {ls : List (List UInt8)} (hs : Shorts ls) (at_ : Nat) {k : Nat} (hk : k ≤ ls.length) : GoodK (K ++ fr at_ ls k) := fun p hp => by
  rcases List.mem_append.mp hp with hp | hp
  · exact h p hp
  · obtain ⟨j, h1, rfl, h2⟩ := fr_mem hk p hp
    exact ⟨h2, ls.drop j, fun e => by have := congrArg List.length e; rw [List.length_drop, List.length_nil] at this; omega, shorts_drop hs j, rfl⟩
theorem good_root {K : List (List UInt8 × Nat)} (h : GoodK K) : plc K [0] = none := plc_none fun p hp e => by
  obtain ⟨_, ls, h1, _, h2⟩ := h p hp
  exact h1 (nm_nil (h2.symm.trans e))
theorem good_lt {K : List (List UInt8 × Nat)} (h : GoodK K) {n : List UInt8} {x : Nat} (hx : plc K n = some x) : x < 16384 := (h _ (plc_mem hx)).1

/-- A pointer's bytes; a tail that is known, or as it is. -/
def pb (x : Nat) : List UInt8 := [UInt8.ofNat (192 + x / 256), UInt8.ofNat (x % 256)]
def restb (K : List (List UInt8 × Nat)) (t : List UInt8) : List UInt8 := match plc K t with | some x => pb x | none => t

/-- What is told of a name. -/
def told (K : List (List UInt8 × Nat)) (ls : List (List UInt8)) : List UInt8 := wire (ls.take (hdn K ls)) ++ restb K (nm (ls.drop (hdn K ls)))

theorem restb_len (K : List (List UInt8 × Nat)) (t : List UInt8) : (restb K t).length ≤ t.length + 2 := by
  unfold restb
  cases plc K t <;> simp [pb]
theorem restb_pos {K : List (List UInt8 × Nat)} {t : List UInt8} (h : 0 < t.length) : 0 < (restb K t).length := by
  unfold restb
  cases plc K t <;> simp [pb]
  exact h
theorem told_pos (K : List (List UInt8 × Nat)) (ls : List (List UInt8)) : 0 < (told K ls).length := by
  unfold told
  rw [List.length_append]
  have := restb_pos (K := K) (t := nm (ls.drop (hdn K ls))) (by rw [nm_len]; omega)
  omega

/-- The code that a packer answers. -/
def pkE (e : Nat) (at_ : Int) (n : List UInt8) : Int := if chk n ≠ 0 then chk n else if at_ < 0 ∨ 65535 < at_ then 2 else if at_ < e then 9 else 0
end Go.Proofs.YteegekpanadmkaaGreat

/-
  A packer that New did not make; New.
-/
namespace Go.Proofs.YteegekpanadmkaaGreat
open Go.RowKit Go.Shelf
set_option linter.unusedVariables false
set_option maxRecDepth 100000

theorem info_pk : (Tryz.prog.info? 125).map (fun i => decide (i.size = 0)) = some false := by kernel_rfl
theorem eq_ptr (p : Nat) (w : World) : (binOp .eql 90 (.pointer (some ⟨p, 0, none⟩)) (.pointer (some ⟨p, 0, none⟩))).run Tryz.prog w = .ok (.bool true) w := by
  obtain ⟨i, hi, _⟩ := Option.map_eq_some_iff.1 info_pk
  exact run_eql_ptr_same w ⟨p, 0, none⟩ Tryz.underlying90 hi

theorem made_yes (p : Nat) (w : World) (h : w.cell? ⟨p, 0, none⟩ = some (.pointer (some ⟨p, 0, none⟩))) : Calls Tryz.prog 138 #[.pointer (some ⟨p, 0, none⟩)] w fun e w' => e = .returned (.bool true) ∧ w = w' := by
  have he := eq_ptr p w
  go_enter Tryz.func138, Tryz.ntmps138
  go_wp2
  go_ret
  exact ⟨rfl, rfl⟩

end Go.Proofs.YteegekpanadmkaaGreat
