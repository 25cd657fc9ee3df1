/-
  The reader that goes along a message: a name, a number.
-/
import Derived.Test.YtpdaekgldgoalaaGreatV01
import Derived.Test.YtpdaekgldgoalaaGreatV00
import Derived.Deep.RegionHeld3
import Derived.Laws.CopyOwn
namespace Go.Proofs.YtpdaekgldgoalaaGreat
open Go.RowKit Go.Shelf
set_option linter.unusedVariables false
set_option linter.unusedSimpArgs false
set_option maxRecDepth 100000

/-- Where the next part begins, the first fault, its place. -/
structure RS where
  a : Int
  e : Int
  p : Int

/-- The reader's own cells. -/
structure Rdr (w : World) (r : Nat) (vb : Value) (s : RS) : Prop where
  c0 : w.cell? ⟨r, 0, none⟩ = some vb
  c1 : w.cell? ⟨r, 1, none⟩ = some (.int .i64 s.a)
  c2 : w.cell? ⟨r, 2, none⟩ = some (.int .i64 s.e)
  c3 : w.cell? ⟨r, 3, none⟩ = some (.int .i64 s.p)
  fz : ∀ j, w.frozen? ⟨r, j, none⟩ = false

/-- Cells of a block, none of them frozen. -/
structure Cel (w : World) (q : Nat) (l : List Value) : Prop where
  c : ∀ j (h : j < l.length), w.cell? ⟨q, j, none⟩ = some l[j]
  fz : ∀ j, w.frozen? ⟨q, j, none⟩ = false

def NextPost (w : World) (r q o : Nat) (vb : Value) (s : RS) (l : List Value) (x : Ending) (w' : World) : Prop :=
  x = .returned (.pointer (some ⟨r, 0, none⟩)) ∧ Rdr w' r vb s ∧ Cel w' q l ∧ Aside (fun b => b = r ∨ b = q) w w'

section
variable {w w' : World} {r q : Nat} {vb : Value} {s : RS} {l : List Value}
theorem Rdr.lt (h : Rdr w r vb s) : r < w.heap.size := World.block_lt_of_cell? w ⟨r, 0, none⟩ h.c0
theorem Rdr.aside {G : Nat → Prop} (h : Rdr w r vb s) (ha : Aside G w w') (hg : ¬ G r) : Rdr w' r vb s :=
  ⟨ha.cell_lt h.c0 hg, ha.cell_lt h.c1 hg, ha.cell_lt h.c2 hg, ha.cell_lt h.c3 hg, fun j => (ha.frozen (p := ⟨r, j, none⟩) h.lt hg).trans (h.fz j)⟩
theorem Rdr.below (h : Rdr w r vb s) (hb : Below w.heap.size w w') : Rdr w' r vb s := h.aside (G := fun _ => False) (Aside.of_all hb) (fun h => h)
theorem Cel.lt (h : Cel w q l) (h0 : 0 < l.length) : q < w.heap.size := World.block_lt_of_cell? w ⟨q, 0, none⟩ (h.c 0 h0)
theorem Cel.aside {G : Nat → Prop} (h : Cel w q l) (h0 : 0 < l.length) (ha : Aside G w w') (hg : ¬ G q) : Cel w' q l :=
  ⟨fun j hj => ha.cell_lt (h.c j hj) hg, fun j => (ha.frozen (p := ⟨q, j, none⟩) (h.lt h0) hg).trans (h.fz j)⟩
theorem Cel.below (h : Cel w q l) (h0 : 0 < l.length) (hb : Below w.heap.size w w') : Cel w' q l := h.aside (G := fun _ => False) h0 (Aside.of_all hb) (fun h => h)
theorem Cel.set (h : Cel w q l) {o : Nat} (ho : o < l.length) (v : Value) : Cel (w.setCell ⟨q, o, none⟩ v) q (l.set o v) := by
  refine ⟨fun j hj => ?_, fun j => by rw [World.frozen?_setCell]; exact h.fz j⟩
  rw [List.length_set] at hj
  by_cases hjo : o = j
  · subst hjo
    rw [List.getElem_set_self]
    exact World.cell?_setCell_same _ _ _ (h.c o ho)
  · rw [List.getElem_set_ne hjo, World.cell?_setCell_other _ _ _ _ (fun e => hjo (congrArg Addr.off e))]
    exact h.c j hj
theorem Cel.other (h : Cel w q l) {a : Addr} (ha : a.block ≠ q) (v : Value) : Cel (w.setCell a v) q l :=
  ⟨fun j hj => by rw [World.cell?_setCell_other _ _ _ _ (fun e => ha (congrArg Addr.block e))]; exact h.c j hj, fun j => by rw [World.frozen?_setCell]; exact h.fz j⟩
end

/-- A name is read. -/
def stN (b : List UInt8) (s : RS) : RS := if s.e ≠ 0 then s else ⟨(rda b s.a).2.1, (rda b s.a).2.2.1, (rda b s.a).2.2.2⟩
def vlN (b : List UInt8) (s : RS) (old : List UInt8) : List UInt8 := if s.e ≠ 0 then old else (rda b s.a).1

/-- A number of two bytes, of four. -/
def st2 (b : List UInt8) (s : RS) : RS := if s.e ≠ 0 then s else ⟨getF 2 b.length s.a (s.a + 2), getE 2 b.length s.a, getA 2 b.length s.a⟩
def vl2 (b : List UInt8) (s : RS) (old : Int) : Int := if s.e ≠ 0 then old else getF 2 b.length s.a (nAt2 (iz b) s.a.toNat)
def st4 (b : List UInt8) (s : RS) : RS := if s.e ≠ 0 then s else ⟨getF 4 b.length s.a (s.a + 4), getE 4 b.length s.a, getA 4 b.length s.a⟩
def vl4 (b : List UInt8) (s : RS) (old : Int) : Int := if s.e ≠ 0 then old else getF 4 b.length s.a (nAt4 (iz b) s.a.toNat)

/-- What came of one part is being stored: the cell, where the next part begins, the fault; in any order. -/
structure Half (w w2 : World) (r q o : Nat) (vb v old : Value) (l : List Value) (s t : RS) (f g h : Bool) : Prop where
  rd : Rdr w2 r vb ⟨if g = true then t.a else s.a, if h = true then t.e else s.e, if h = true then t.p else s.p⟩
  ce : Cel w2 q (if f = true then l.set o v else l)
  ho : o < l.length
  hne : r ≠ q
  has : Aside (fun b => b = r ∨ b = q) w w2
  old : w2.cell? ⟨q, o, none⟩ = some (if f = true then v else old)

section
variable {w w2 w3 : World} {r q o : Nat} {vb v old : Value} {l : List Value} {s t : RS} {f g h : Bool}
theorem Half.pos (H : Half w w2 r q o vb v old l s t f g h) : 0 < (if f = true then l.set o v else l).length := by
  have := H.ho
  split
  · rw [List.length_set]; omega
  · omega
theorem Half.later (H : Half w w2 r q o vb v old l s t f g h) (hb : Below w2.heap.size w2 w3) : Half w w3 r q o vb v old l s t f g h := by
  exact ⟨H.rd.below hb, H.ce.below H.pos hb, H.ho, H.hne, H.has.trans (Aside.of_all hb), cell_later hb H.old⟩
theorem Half.sq (H : Half w w2 r q o vb v old l s t false g h) : Half w (w2.setCell ⟨q, o, none⟩ v) r q o vb v old l s t true g h := by
  have hne := H.hne
  have hR := H.rd
  have hc : Cel w2 q l := H.ce
  refine ⟨⟨(World.cell?_setCell_other _ _ _ _ (fun e => hne (congrArg Addr.block e).symm)).trans hR.c0, (World.cell?_setCell_other _ _ _ _ (fun e => hne (congrArg Addr.block e).symm)).trans hR.c1, (World.cell?_setCell_other _ _ _ _ (fun e => hne (congrArg Addr.block e).symm)).trans hR.c2, (World.cell?_setCell_other _ _ _ _ (fun e => hne (congrArg Addr.block e).symm)).trans hR.c3, fun j => by rw [World.frozen?_setCell]; exact hR.fz j⟩, ?_, H.ho, hne, H.has.trans (Aside.setCell w2 (p := ⟨q, o, none⟩) v (.inr rfl)), ?_⟩
  · rw [if_pos rfl]; exact hc.set H.ho v
  · rw [if_pos rfl]; exact World.cell?_setCell_same _ _ _ H.old
theorem Half.rset (H : Half w w2 r q o vb v old l s t f g h) (j : Nat) (u : Value) : Cel (w2.setCell ⟨r, j, none⟩ u) q (if f = true then l.set o v else l) ∧ Aside (fun b => b = r ∨ b = q) w (w2.setCell ⟨r, j, none⟩ u) ∧ (w2.setCell ⟨r, j, none⟩ u).cell? ⟨q, o, none⟩ = some (if f = true then v else old) := by
  have hne := H.hne
  exact ⟨H.ce.other (a := ⟨r, j, none⟩) hne u, H.has.trans (Aside.setCell w2 (p := ⟨r, j, none⟩) u (.inl rfl)), (World.cell?_setCell_other _ _ _ _ (fun e => hne (congrArg Addr.block e))).trans H.old⟩
theorem Half.sa (H : Half w w2 r q o vb v old l s t f false h) : Half w (w2.setCell ⟨r, 1, none⟩ (.int .i64 t.a)) r q o vb v old l s t f true h := by
  obtain ⟨h1, h2, h3⟩ := H.rset 1 (.int .i64 t.a)
  have hR := H.rd
  exact ⟨⟨(World.cell?_setCell_other _ _ _ _ (by simp)).trans hR.c0, by rw [if_pos rfl]; exact World.cell?_setCell_same _ _ _ hR.c1, (World.cell?_setCell_other _ _ _ _ (by simp)).trans hR.c2, (World.cell?_setCell_other _ _ _ _ (by simp)).trans hR.c3, fun j => by rw [World.frozen?_setCell]; exact hR.fz j⟩, h1, H.ho, H.hne, h2, h3⟩
theorem Half.sf (H : Half w w2 r q o vb v old l s t f g false) : Half w ((w2.setCell ⟨r, 2, none⟩ (.int .i64 t.e)).setCell ⟨r, 3, none⟩ (.int .i64 t.p)) r q o vb v old l s t f g true := by
  obtain ⟨h1, h2, h3⟩ := H.rset 2 (.int .i64 t.e)
  have hR := H.rd
  have hne := H.hne
  refine ⟨⟨?_, ?_, ?_, ?_, fun j => by rw [World.frozen?_setCell, World.frozen?_setCell]; exact hR.fz j⟩, h1.other (a := ⟨r, 3, none⟩) hne _, H.ho, hne, h2.trans (Aside.setCell _ (p := ⟨r, 3, none⟩) _ (.inl rfl)), (World.cell?_setCell_other _ _ _ _ (fun e => hne (congrArg Addr.block e))).trans h3⟩
  · exact (World.cell?_setCell_other _ _ _ _ (by simp)).trans ((World.cell?_setCell_other _ _ _ _ (by simp)).trans hR.c0)
  · exact (World.cell?_setCell_other _ _ _ _ (by simp)).trans ((World.cell?_setCell_other _ _ _ _ (by simp)).trans hR.c1)
  · exact (World.cell?_setCell_other _ _ _ _ (by simp)).trans (by rw [if_pos rfl]; exact World.cell?_setCell_same _ _ _ hR.c2)
  · rw [if_pos rfl]; exact World.cell?_setCell_same _ _ _ ((World.cell?_setCell_other _ _ _ _ (by simp)).trans hR.c3)
end

theorem half_done {w w2 : World} {r q o : Nat} {vb v old : Value} {l : List Value} {s t : RS} (H : Half w w2 r q o vb v old l s t true true true) : NextPost w r q o vb t (l.set o v) (.returned (.pointer (some ⟨r, 0, none⟩))) w2 := by
  exact ⟨rfl, H.rd, H.ce, H.has⟩

theorem half_start {w : World} {r q o : Nat} {vb v old : Value} {l : List Value} {s t : RS} (hR : Rdr w r vb s) (hC : Cel w q l) (ho : o < l.length) (hne : r ≠ q) (hold : l[o]'ho = old) : Half w w.drew r q o vb v old l s t false false false :=
  (show Half w w r q o vb v old l s t false false false from ⟨hR, hC, ho, hne, Aside.refl _ _, by rw [if_neg (by simp)]; rw [← hold]; exact hC.c o ho⟩).later (Below.refl _ _).drew

set_option maxHeartbeats 8000000 in
theorem name_next {w : World} {r q o lo hi : Nat} {vb : Value} {s : RS} {l : List Value} {b : List UInt8} (hR : Rdr w r vb s) (hC : Cel w q l) (ho : o < l.length) (hne : r ≠ q) {old : List UInt8} (hold : l[o] = .string (bs old)) (hS : Sl w lo hi vb (iz b)) (hhi : hi ≤ w.heap.size) (hbl : b.length ≤ 1000000) :
    Calls Tryz.prog 89 #[.pointer (some ⟨r, 0, none⟩), .pointer (some ⟨q, o, none⟩), .func (.func 90) #[] #[]] w (NextPost w r q o vb (stN b s) (l.set o (.string (bs (vlN b s old))))) := by
  obtain ⟨a, e, p⟩ := s
  by_cases h0 : e = 0
  · subst h0
    have e1 : stN b ⟨a, 0, p⟩ = ⟨(rda b a).2.1, (rda b a).2.2.1, (rda b a).2.2.2⟩ := by unfold stN; rw [if_neg (by simp)]
    have e2 : vlN b ⟨a, 0, p⟩ old = (rda b a).1 := by unfold vlN; rw [if_neg (by simp)]
    rw [e1, e2]
    have hrd := fun wx (h : Below w.heap.size w wx) => read_any (w := wx) (hS.below h hhi) (Nat.le_trans hhi h.size) hbl a
    obtain ⟨R, hRd⟩ : ∃ R, rda b a = R := ⟨_, rfl⟩
    rw [hRd] at hrd ⊢
    clear hRd e1 e2
    obtain ⟨n, i, f, g⟩ := R
    unfold gotV at hrd
    simp only at hrd ⊢
    have HRd := Lib.hid hrd
    clear hrd
    have HH := Lib.hid (half_start (t := ⟨(i : Int), f, (g : Int)⟩) (v := .string (bs n)) hR hC ho hne hold)
    clear hR hC hold hS
    obtain ⟨c0, c1, c2, c3, fz⟩ := HH.out.rd
    simp only [if_true, if_false, Bool.false_eq_true] at c1 c2 c3
    have c2' : w.cell? ⟨r, 2, none⟩ = some (.int .i64 0) := c2
    have fz1 := fz 1
    have fz2 := fz 2
    have fz3 := fz 3
    have cq := HH.out.old
    have fq := HH.out.ce.fz o
    clear fz
    go_enter Tryz.func89, Tryz.ntmps89
    go_wp2_with fail
    refine wp_region_held_drew (S := (fun wx => wx.cell? ⟨r, 0, none⟩ = some vb)) (by kernel_rfl) HH.out.rd.c0 (fun hHeld => ?_)
    refine wpAnyH_take (i := 0) (v := ?_) rfl (by kernel_rfl) (by kernel_rfl) (by kernel_rfl) (fun _ _ _ h => h) (Or.inl ⟨by rfl, ?_⟩) (by assumption) ?_
    rotate_left 1
    · intro w hSw; (try dsimp only at hSw); go_simp; try (with_reducible rfl)
    try simp only [Act.put, List.setIfInBounds_toArray, List.set_cons_zero, List.set_cons_succ]
    refine wpAnyH_take (i := 1) (v := ?_) rfl (by kernel_rfl) (by kernel_rfl) (by kernel_rfl) (fun _ _ _ h => h) (Or.inl ⟨by rfl, ?_⟩) (by assumption) ?_
    rotate_left 1
    · intro w hSw; (try dsimp only at hSw); go_simp; try (with_reducible rfl)
    try simp only [Act.put, List.setIfInBounds_toArray, List.set_cons_zero, List.set_cons_succ]
    refine wpAnyH_take (i := 2) (v := ?_) rfl (by kernel_rfl) (by kernel_rfl) (by kernel_rfl) (fun _ _ _ h => h) (Or.inl ⟨by rfl, ?_⟩) (by assumption) ?_
    rotate_left 1
    · intro w hSw; (try dsimp only at hSw); go_simp; try (with_reducible rfl)
    try simp only [Act.put, List.setIfInBounds_toArray, List.set_cons_zero, List.set_cons_succ]
    refine wpAnyH_take (i := 3) (v := ?_) rfl (by kernel_rfl) (by kernel_rfl) (by kernel_rfl) (fun _ _ _ h => h) (Or.inl ⟨by rfl, ?_⟩) (by assumption) ?_
    rotate_left 1
    · intro w hSw; (try dsimp only at hSw); go_simp; try (with_reducible rfl)
    try simp only [Act.put, List.setIfInBounds_toArray, List.set_cons_zero, List.set_cons_succ]
    refine wpAnyH_take (i := 4) (v := ?_) rfl (by kernel_rfl) (by kernel_rfl) (by kernel_rfl) (fun _ _ _ h => h) (Or.inl ⟨by rfl, ?_⟩) (by assumption) ?_
    rotate_left 1
    · intro w hSw; (try dsimp only at hSw); go_simp; try (with_reducible rfl)
    try simp only [Act.put, List.setIfInBounds_toArray, List.set_cons_zero, List.set_cons_succ]
    refine wpAnyH_take (i := 5) (v := ?_) rfl (by kernel_rfl) (by kernel_rfl) (by kernel_rfl) (fun _ _ _ h => h) (Or.inl ⟨by rfl, ?_⟩) (by assumption) ?_
    rotate_left 1
    · intro w hSw; (try dsimp only at hSw); go_simp; try (with_reducible rfl)
    try simp only [Act.put, List.setIfInBounds_toArray, List.set_cons_zero, List.set_cons_succ]
    refine wpAnyH_take (i := 6) (v := ?_) rfl (by kernel_rfl) (by kernel_rfl) (by kernel_rfl) (fun _ _ _ h => h) (Or.inl ⟨by rfl, ?_⟩) (by assumption) ?_
    rotate_left 1
    · intro w hSw; (try dsimp only at hSw); go_simp; try (with_reducible rfl)
    try simp only [Act.put, List.setIfInBounds_toArray, List.set_cons_zero, List.set_cons_succ]
    refine wpAnyH_take (i := 7) (v := ?_) rfl (by kernel_rfl) (by kernel_rfl) (by kernel_rfl) (fun _ _ _ h => h) (Or.inl ⟨by rfl, ?_⟩) (by assumption) ?_
    rotate_left 1
    · intro w hSw; (try dsimp only at hSw); go_simp; try (with_reducible rfl)
    try simp only [Act.put, List.setIfInBounds_toArray, List.set_cons_zero, List.set_cons_succ]
    refine wpAnyH_take (i := 8) (v := ?_) rfl (by kernel_rfl) (by kernel_rfl) (by kernel_rfl) (fun _ _ _ h => h) (Or.inl ⟨by rfl, ?_⟩) (by assumption) ?_
    rotate_left 1
    · intro w hSw; (try dsimp only at hSw); go_simp; try (with_reducible rfl)
    try simp only [Act.put, List.setIfInBounds_toArray, List.set_cons_zero, List.set_cons_succ]
    refine wpAnyH_take (i := 9) (v := ?_) rfl (by kernel_rfl) (by kernel_rfl) (by kernel_rfl) (fun _ _ _ h => h) (Or.inl ⟨by rfl, ?_⟩) (by assumption) ?_
    rotate_left 1
    · intro w hSw; (try dsimp only at hSw); go_simp; try (with_reducible rfl)
    try simp only [Act.put, List.setIfInBounds_toArray, List.set_cons_zero, List.set_cons_succ]
    refine wpAnyH_take (i := 10) (v := ?_) rfl (by kernel_rfl) (by kernel_rfl) (by kernel_rfl) (fun _ _ _ h => h) (Or.inl ⟨by rfl, ?_⟩) (by assumption) ?_
    rotate_left 1
    · intro w hSw; (try dsimp only at hSw); go_simp; try (with_reducible rfl)
    try simp only [Act.put, List.setIfInBounds_toArray, List.set_cons_zero, List.set_cons_succ]
    refine wpAnyH_ready (rs := [11]) (by kernel_rfl) (by simp) ?_
    refine AllReadyH.cons rfl (fun K hK => ?_) AllReadyH.nil
    go_simp
    refine hK.out _ _ HH.out.rd.c0 (fun hHeld => ?_)
    clear hK K
    try simp only [Act.put, List.setIfInBounds_toArray, List.set_cons_zero, List.set_cons_succ]
    refine wpAnyH_ready (rs := [12]) (by kernel_rfl) (by simp) ?_
    refine AllReadyH.cons rfl (fun K hK => ?_) AllReadyH.nil
    go_simp
    refine (HRd.out _ ((Below.refl _ w).drew)).mono ?_; rintro en w1 ⟨rfl, hb1⟩
    replace HH := Lib.hid (HH.out.later hb1)
    clear hb1
    try go_wp2_with fail
    refine hK.out _ _ HH.out.rd.c0 (fun hHeld => ?_)
    clear hK K
    try simp only [Act.put, List.setIfInBounds_toArray, List.set_cons_zero, List.set_cons_succ]
    clear c0 c1 c2 c3 cq fq fz1 fz2 fz3
    obtain ⟨c0, c1, c2, c3, fz⟩ := HH.out.rd
    simp only [if_true, if_false, Bool.false_eq_true] at c1 c2 c3
    have fz1 := fz 1
    have fz2 := fz 2
    have fz3 := fz 3
    have cq := HH.out.old
    have fq := HH.out.ce.fz o
    clear fz
    refine wpAnyH_take (i := 13) (v := ?_) rfl (by kernel_rfl) (by kernel_rfl) (by kernel_rfl) (fun _ _ _ h => h) (Or.inl ⟨by rfl, ?_⟩) (by assumption) ?_
    rotate_left 1
    · intro w hSw; (try dsimp only at hSw); go_simp; try (with_reducible rfl)
    try simp only [Act.put, List.setIfInBounds_toArray, List.set_cons_zero, List.set_cons_succ]
    refine wpAnyH_take (i := 14) (v := ?_) rfl (by kernel_rfl) (by kernel_rfl) (by kernel_rfl) (fun _ _ _ h => h) (Or.inl ⟨by rfl, ?_⟩) (by assumption) ?_
    rotate_left 1
    · intro w hSw; (try dsimp only at hSw); go_simp; try (with_reducible rfl)
    try simp only [Act.put, List.setIfInBounds_toArray, List.set_cons_zero, List.set_cons_succ]
    refine wpAnyH_take (i := 15) (v := ?_) rfl (by kernel_rfl) (by kernel_rfl) (by kernel_rfl) (fun _ _ _ h => h) (Or.inl ⟨by rfl, ?_⟩) (by assumption) ?_
    rotate_left 1
    · intro w hSw; (try dsimp only at hSw); go_simp; try (with_reducible rfl)
    try simp only [Act.put, List.setIfInBounds_toArray, List.set_cons_zero, List.set_cons_succ]
    refine wpAnyH_take (i := 16) (v := ?_) rfl (by kernel_rfl) (by kernel_rfl) (by kernel_rfl) (fun _ _ _ h => h) (Or.inl ⟨by rfl, ?_⟩) (by assumption) ?_
    rotate_left 1
    · intro w hSw; (try dsimp only at hSw); go_simp; try (with_reducible rfl)
    try simp only [Act.put, List.setIfInBounds_toArray, List.set_cons_zero, List.set_cons_succ]
    refine wpAnyH_take (i := 17) (v := ?_) rfl (by kernel_rfl) (by kernel_rfl) (by kernel_rfl) (fun _ _ _ h => h) (Or.inl ⟨by rfl, ?_⟩) (by assumption) ?_
    rotate_left 1
    · intro w hSw; (try dsimp only at hSw); go_simp; try (with_reducible rfl)
    try simp only [Act.put, List.setIfInBounds_toArray, List.set_cons_zero, List.set_cons_succ]
    refine wpAnyH_ready (rs := [18]) (by kernel_rfl) (by simp) ?_
    refine AllReadyH.cons rfl (fun K hK => ?_) AllReadyH.nil
    go_simp
    replace HH := Lib.hid HH.out.sq
    refine hK.out _ _ HH.out.rd.c0 (fun hHeld => ?_)
    clear hK K
    try simp only [Act.put, List.setIfInBounds_toArray, List.set_cons_zero, List.set_cons_succ]
    clear c0 c1 c2 c3 cq fq fz1 fz2 fz3
    obtain ⟨c0, c1, c2, c3, fz⟩ := HH.out.rd
    simp only [if_true, if_false, Bool.false_eq_true] at c1 c2 c3
    have fz1 := fz 1
    have fz2 := fz 2
    have fz3 := fz 3
    have cq := HH.out.old
    have fq := HH.out.ce.fz o
    clear fz
    refine wpAnyH_take (i := 19) (v := ?_) rfl (by kernel_rfl) (by kernel_rfl) (by kernel_rfl) (fun _ _ _ h => h) (Or.inl ⟨by rfl, ?_⟩) (by assumption) ?_
    rotate_left 1
    · intro w hSw; (try dsimp only at hSw); go_simp; try (with_reducible rfl)
    try simp only [Act.put, List.setIfInBounds_toArray, List.set_cons_zero, List.set_cons_succ]
    refine wpAnyH_take (i := 20) (v := ?_) rfl (by kernel_rfl) (by kernel_rfl) (by kernel_rfl) (fun _ _ _ h => h) (Or.inl ⟨by rfl, ?_⟩) (by assumption) ?_
    rotate_left 1
    · intro w hSw; (try dsimp only at hSw); go_simp; try (with_reducible rfl)
    try simp only [Act.put, List.setIfInBounds_toArray, List.set_cons_zero, List.set_cons_succ]
    refine wpAnyH_ready (rs := [21]) (by kernel_rfl) (by simp) ?_
    refine AllReadyH.cons rfl (fun K hK => ?_) AllReadyH.nil
    go_simp
    replace HH := Lib.hid HH.out.sa
    refine hK.out _ _ HH.out.rd.c0 (fun hHeld => ?_)
    clear hK K
    try simp only [Act.put, List.setIfInBounds_toArray, List.set_cons_zero, List.set_cons_succ]
    clear c0 c1 c2 c3 cq fq fz1 fz2 fz3
    obtain ⟨c0, c1, c2, c3, fz⟩ := HH.out.rd
    simp only [if_true, if_false, Bool.false_eq_true] at c1 c2 c3
    have fz1 := fz 1
    have fz2 := fz 2
    have fz3 := fz 3
    have cq := HH.out.old
    have fq := HH.out.ce.fz o
    clear fz
    refine wpAnyH_take (i := 22) (v := ?_) rfl (by kernel_rfl) (by kernel_rfl) (by kernel_rfl) (fun _ _ _ h => h) (Or.inl ⟨by rfl, ?_⟩) (by assumption) ?_
    rotate_left 1
    · intro w hSw; (try dsimp only at hSw); go_simp; try (with_reducible rfl)
    try simp only [Act.put, List.setIfInBounds_toArray, List.set_cons_zero, List.set_cons_succ]
    refine wpAnyH_take (i := 23) (v := ?_) rfl (by kernel_rfl) (by kernel_rfl) (by kernel_rfl) (fun _ _ _ h => h) (Or.inl ⟨by rfl, ?_⟩) (by assumption) ?_
    rotate_left 1
    · intro w hSw; (try dsimp only at hSw); go_simp; try (with_reducible rfl)
    try simp only [Act.put, List.setIfInBounds_toArray, List.set_cons_zero, List.set_cons_succ]
    refine wpAnyH_ready (rs := [24]) (by kernel_rfl) (by simp) ?_
    refine AllReadyH.cons rfl (fun K hK => ?_) AllReadyH.nil
    go_simp
    replace HH := Lib.hid HH.out.sf
    refine hK.out _ _ HH.out.rd.c0 (fun hHeld => ?_)
    clear hK K
    try simp only [Act.put, List.setIfInBounds_toArray, List.set_cons_zero, List.set_cons_succ]
    clear c0 c1 c2 c3 cq fq fz1 fz2 fz3
    obtain ⟨c0, c1, c2, c3, fz⟩ := HH.out.rd
    simp only [if_true, if_false, Bool.false_eq_true] at c1 c2 c3
    have fz1 := fz 1
    have fz2 := fz 2
    have fz3 := fz 3
    have cq := HH.out.old
    have fq := HH.out.ce.fz o
    clear fz
    refine wpAnyH_done (by kernel_rfl) ?_ _
    clear hHeld
    go_wp2_with fail
    go_ret
    exact half_done HH.out


  · have tE : (e == 0) = false := by simpa using h0
    have e1 : stN b ⟨a, e, p⟩ = ⟨a, e, p⟩ := by unfold stN; rw [if_pos h0]
    have e2 : (.string (bs (vlN b ⟨a, e, p⟩ old))) = l[o] := by rw [hold]; unfold vlN; rw [if_pos h0]
    rw [e1, e2, List.set_getElem_self]
    have HR := Lib.hid hR
    have HC := Lib.hid hC
    have c2 := hR.c2
    clear hR hC e1 e2 hS hold
    go_enter Tryz.func89, Tryz.ntmps89
    go_wp2_with fail
    go_ret
    exact ⟨rfl, HR.out, HC.out, Aside.refl _ _⟩

set_option maxHeartbeats 8000000 in
theorem two_next {w : World} {r q o lo hi : Nat} {vb : Value} {s : RS} {l : List Value} {b : List UInt8} (hR : Rdr w r vb s) (hC : Cel w q l) (ho : o < l.length) (hne : r ≠ q) {old : Int} (hold : l[o] = .int .i64 old) (hS : Sl w lo hi vb (iz b)) (hhi : hi ≤ w.heap.size) (hbl : b.length ≤ 1000000) :
    Calls Tryz.prog 91 #[.pointer (some ⟨r, 0, none⟩), .pointer (some ⟨q, o, none⟩), .func (.func 43) #[] #[]] w (NextPost w r q o vb (st2 b s) (l.set o (.int .i64 (vl2 b s old)))) := by
  obtain ⟨a, e, p⟩ := s
  by_cases h0 : e = 0
  · subst h0
    have e1 : st2 b ⟨a, 0, p⟩ = ⟨getF 2 b.length a (a + 2), getE 2 b.length a, getA 2 b.length a⟩ := by unfold st2; rw [if_neg (by simp)]
    have e2 : vl2 b ⟨a, 0, p⟩ old = getF 2 b.length a (nAt2 (iz b) a.toNat) := by unfold vl2; rw [if_neg (by simp)]
    rw [e1, e2]
    have hrd := fun wx (h : Below w.heap.size w wx) => get16_any (w := wx) (hS.below h hhi) (iz_byte b) (by rw [iz_len]; exact hbl) (Nat.le_trans hhi h.size) a
    rw [iz_len] at hrd
    unfold GetPost at hrd
    obtain ⟨n, hn⟩ : ∃ n, getF 2 b.length a (nAt2 (iz b) a.toNat) = n := ⟨_, rfl⟩
    obtain ⟨i, hi2⟩ : ∃ i, getF 2 b.length a (a + 2) = i := ⟨_, rfl⟩
    obtain ⟨f, hf⟩ : ∃ f, getE 2 b.length a = f := ⟨_, rfl⟩
    obtain ⟨g, hg⟩ : ∃ g, getA 2 b.length a = g := ⟨_, rfl⟩
    rw [hn, hi2, hf, hg] at hrd
    rw [hn, hi2, hf, hg]
    clear hn hi2 hf hg e1 e2
    have HRd := Lib.hid hrd
    clear hrd
    have HH := Lib.hid (half_start (t := ⟨i, f, g⟩) (v := .int .i64 n) hR hC ho hne hold)
    clear hR hC hold hS
    obtain ⟨c0, c1, c2, c3, fz⟩ := HH.out.rd
    simp only [if_true, if_false, Bool.false_eq_true] at c1 c2 c3
    have c2' : w.cell? ⟨r, 2, none⟩ = some (.int .i64 0) := c2
    have fz1 := fz 1
    have fz2 := fz 2
    have fz3 := fz 3
    have cq := HH.out.old
    have fq := HH.out.ce.fz o
    clear fz
    go_enter Tryz.func91, Tryz.ntmps91
    go_wp2_with fail
    refine wp_region_held_drew (S := (fun wx => wx.cell? ⟨r, 0, none⟩ = some vb)) (by kernel_rfl) HH.out.rd.c0 (fun hHeld => ?_)
    refine wpAnyH_take (i := 0) (v := ?_) rfl (by kernel_rfl) (by kernel_rfl) (by kernel_rfl) (fun _ _ _ h => h) (Or.inl ⟨by rfl, ?_⟩) (by assumption) ?_
    rotate_left 1
    · intro w hSw; (try dsimp only at hSw); go_simp; try (with_reducible rfl)
    try simp only [Act.put, List.setIfInBounds_toArray, List.set_cons_zero, List.set_cons_succ]
    refine wpAnyH_take (i := 1) (v := ?_) rfl (by kernel_rfl) (by kernel_rfl) (by kernel_rfl) (fun _ _ _ h => h) (Or.inl ⟨by rfl, ?_⟩) (by assumption) ?_
    rotate_left 1
    · intro w hSw; (try dsimp only at hSw); go_simp; try (with_reducible rfl)
    try simp only [Act.put, List.setIfInBounds_toArray, List.set_cons_zero, List.set_cons_succ]
    refine wpAnyH_take (i := 2) (v := ?_) rfl (by kernel_rfl) (by kernel_rfl) (by kernel_rfl) (fun _ _ _ h => h) (Or.inl ⟨by rfl, ?_⟩) (by assumption) ?_
    rotate_left 1
    · intro w hSw; (try dsimp only at hSw); go_simp; try (with_reducible rfl)
    try simp only [Act.put, List.setIfInBounds_toArray, List.set_cons_zero, List.set_cons_succ]
    refine wpAnyH_take (i := 3) (v := ?_) rfl (by kernel_rfl) (by kernel_rfl) (by kernel_rfl) (fun _ _ _ h => h) (Or.inl ⟨by rfl, ?_⟩) (by assumption) ?_
    rotate_left 1
    · intro w hSw; (try dsimp only at hSw); go_simp; try (with_reducible rfl)
    try simp only [Act.put, List.setIfInBounds_toArray, List.set_cons_zero, List.set_cons_succ]
    refine wpAnyH_take (i := 4) (v := ?_) rfl (by kernel_rfl) (by kernel_rfl) (by kernel_rfl) (fun _ _ _ h => h) (Or.inl ⟨by rfl, ?_⟩) (by assumption) ?_
    rotate_left 1
    · intro w hSw; (try dsimp only at hSw); go_simp; try (with_reducible rfl)
    try simp only [Act.put, List.setIfInBounds_toArray, List.set_cons_zero, List.set_cons_succ]
    refine wpAnyH_take (i := 5) (v := ?_) rfl (by kernel_rfl) (by kernel_rfl) (by kernel_rfl) (fun _ _ _ h => h) (Or.inl ⟨by rfl, ?_⟩) (by assumption) ?_
    rotate_left 1
    · intro w hSw; (try dsimp only at hSw); go_simp; try (with_reducible rfl)
    try simp only [Act.put, List.setIfInBounds_toArray, List.set_cons_zero, List.set_cons_succ]
    refine wpAnyH_take (i := 6) (v := ?_) rfl (by kernel_rfl) (by kernel_rfl) (by kernel_rfl) (fun _ _ _ h => h) (Or.inl ⟨by rfl, ?_⟩) (by assumption) ?_
    rotate_left 1
    · intro w hSw; (try dsimp only at hSw); go_simp; try (with_reducible rfl)
    try simp only [Act.put, List.setIfInBounds_toArray, List.set_cons_zero, List.set_cons_succ]
    refine wpAnyH_take (i := 7) (v := ?_) rfl (by kernel_rfl) (by kernel_rfl) (by kernel_rfl) (fun _ _ _ h => h) (Or.inl ⟨by rfl, ?_⟩) (by assumption) ?_
    rotate_left 1
    · intro w hSw; (try dsimp only at hSw); go_simp; try (with_reducible rfl)
    try simp only [Act.put, List.setIfInBounds_toArray, List.set_cons_zero, List.set_cons_succ]
    refine wpAnyH_take (i := 8) (v := ?_) rfl (by kernel_rfl) (by kernel_rfl) (by kernel_rfl) (fun _ _ _ h => h) (Or.inl ⟨by rfl, ?_⟩) (by assumption) ?_
    rotate_left 1
    · intro w hSw; (try dsimp only at hSw); go_simp; try (with_reducible rfl)
    try simp only [Act.put, List.setIfInBounds_toArray, List.set_cons_zero, List.set_cons_succ]
    refine wpAnyH_take (i := 9) (v := ?_) rfl (by kernel_rfl) (by kernel_rfl) (by kernel_rfl) (fun _ _ _ h => h) (Or.inl ⟨by rfl, ?_⟩) (by assumption) ?_
    rotate_left 1
    · intro w hSw; (try dsimp only at hSw); go_simp; try (with_reducible rfl)
    try simp only [Act.put, List.setIfInBounds_toArray, List.set_cons_zero, List.set_cons_succ]
    refine wpAnyH_take (i := 10) (v := ?_) rfl (by kernel_rfl) (by kernel_rfl) (by kernel_rfl) (fun _ _ _ h => h) (Or.inl ⟨by rfl, ?_⟩) (by assumption) ?_
    rotate_left 1
    · intro w hSw; (try dsimp only at hSw); go_simp; try (with_reducible rfl)
    try simp only [Act.put, List.setIfInBounds_toArray, List.set_cons_zero, List.set_cons_succ]
    refine wpAnyH_ready (rs := [11]) (by kernel_rfl) (by simp) ?_
    refine AllReadyH.cons rfl (fun K hK => ?_) AllReadyH.nil
    go_simp
    refine hK.out _ _ HH.out.rd.c0 (fun hHeld => ?_)
    clear hK K
    try simp only [Act.put, List.setIfInBounds_toArray, List.set_cons_zero, List.set_cons_succ]
    refine wpAnyH_ready (rs := [12]) (by kernel_rfl) (by simp) ?_
    refine AllReadyH.cons rfl (fun K hK => ?_) AllReadyH.nil
    go_simp
    refine (HRd.out _ ((Below.refl _ w).drew)).mono ?_; rintro en w1 ⟨rfl, hb1⟩
    replace HH := Lib.hid (HH.out.later hb1)
    clear hb1
    try go_wp2_with fail
    refine hK.out _ _ HH.out.rd.c0 (fun hHeld => ?_)
    clear hK K
    try simp only [Act.put, List.setIfInBounds_toArray, List.set_cons_zero, List.set_cons_succ]
    clear c0 c1 c2 c3 cq fq fz1 fz2 fz3
    obtain ⟨c0, c1, c2, c3, fz⟩ := HH.out.rd
    simp only [if_true, if_false, Bool.false_eq_true] at c1 c2 c3
    have fz1 := fz 1
    have fz2 := fz 2
    have fz3 := fz 3
    have cq := HH.out.old
    have fq := HH.out.ce.fz o
    clear fz
    refine wpAnyH_take (i := 13) (v := ?_) rfl (by kernel_rfl) (by kernel_rfl) (by kernel_rfl) (fun _ _ _ h => h) (Or.inl ⟨by rfl, ?_⟩) (by assumption) ?_
    rotate_left 1
    · intro w hSw; (try dsimp only at hSw); go_simp; try (with_reducible rfl)
    try simp only [Act.put, List.setIfInBounds_toArray, List.set_cons_zero, List.set_cons_succ]
    refine wpAnyH_take (i := 14) (v := ?_) rfl (by kernel_rfl) (by kernel_rfl) (by kernel_rfl) (fun _ _ _ h => h) (Or.inl ⟨by rfl, ?_⟩) (by assumption) ?_
    rotate_left 1
    · intro w hSw; (try dsimp only at hSw); go_simp; try (with_reducible rfl)
    try simp only [Act.put, List.setIfInBounds_toArray, List.set_cons_zero, List.set_cons_succ]
    refine wpAnyH_take (i := 15) (v := ?_) rfl (by kernel_rfl) (by kernel_rfl) (by kernel_rfl) (fun _ _ _ h => h) (Or.inl ⟨by rfl, ?_⟩) (by assumption) ?_
    rotate_left 1
    · intro w hSw; (try dsimp only at hSw); go_simp; try (with_reducible rfl)
    try simp only [Act.put, List.setIfInBounds_toArray, List.set_cons_zero, List.set_cons_succ]
    refine wpAnyH_take (i := 16) (v := ?_) rfl (by kernel_rfl) (by kernel_rfl) (by kernel_rfl) (fun _ _ _ h => h) (Or.inl ⟨by rfl, ?_⟩) (by assumption) ?_
    rotate_left 1
    · intro w hSw; (try dsimp only at hSw); go_simp; try (with_reducible rfl)
    try simp only [Act.put, List.setIfInBounds_toArray, List.set_cons_zero, List.set_cons_succ]
    refine wpAnyH_take (i := 17) (v := ?_) rfl (by kernel_rfl) (by kernel_rfl) (by kernel_rfl) (fun _ _ _ h => h) (Or.inl ⟨by rfl, ?_⟩) (by assumption) ?_
    rotate_left 1
    · intro w hSw; (try dsimp only at hSw); go_simp; try (with_reducible rfl)
    try simp only [Act.put, List.setIfInBounds_toArray, List.set_cons_zero, List.set_cons_succ]
    refine wpAnyH_ready (rs := [18]) (by kernel_rfl) (by simp) ?_
    refine AllReadyH.cons rfl (fun K hK => ?_) AllReadyH.nil
    go_simp
    replace HH := Lib.hid HH.out.sq
    refine hK.out _ _ HH.out.rd.c0 (fun hHeld => ?_)
    clear hK K
    try simp only [Act.put, List.setIfInBounds_toArray, List.set_cons_zero, List.set_cons_succ]
    clear c0 c1 c2 c3 cq fq fz1 fz2 fz3
    obtain ⟨c0, c1, c2, c3, fz⟩ := HH.out.rd
    simp only [if_true, if_false, Bool.false_eq_true] at c1 c2 c3
    have fz1 := fz 1
    have fz2 := fz 2
    have fz3 := fz 3
    have cq := HH.out.old
    have fq := HH.out.ce.fz o
    clear fz
    refine wpAnyH_take (i := 19) (v := ?_) rfl (by kernel_rfl) (by kernel_rfl) (by kernel_rfl) (fun _ _ _ h => h) (Or.inl ⟨by rfl, ?_⟩) (by assumption) ?_
    rotate_left 1
    · intro w hSw; (try dsimp only at hSw); go_simp; try (with_reducible rfl)
    try simp only [Act.put, List.setIfInBounds_toArray, List.set_cons_zero, List.set_cons_succ]
    refine wpAnyH_take (i := 20) (v := ?_) rfl (by kernel_rfl) (by kernel_rfl) (by kernel_rfl) (fun _ _ _ h => h) (Or.inl ⟨by rfl, ?_⟩) (by assumption) ?_
    rotate_left 1
    · intro w hSw; (try dsimp only at hSw); go_simp; try (with_reducible rfl)
    try simp only [Act.put, List.setIfInBounds_toArray, List.set_cons_zero, List.set_cons_succ]
    refine wpAnyH_ready (rs := [21]) (by kernel_rfl) (by simp) ?_
    refine AllReadyH.cons rfl (fun K hK => ?_) AllReadyH.nil
    go_simp
    replace HH := Lib.hid HH.out.sa
    refine hK.out _ _ HH.out.rd.c0 (fun hHeld => ?_)
    clear hK K
    try simp only [Act.put, List.setIfInBounds_toArray, List.set_cons_zero, List.set_cons_succ]
    clear c0 c1 c2 c3 cq fq fz1 fz2 fz3
    obtain ⟨c0, c1, c2, c3, fz⟩ := HH.out.rd
    simp only [if_true, if_false, Bool.false_eq_true] at c1 c2 c3
    have fz1 := fz 1
    have fz2 := fz 2
    have fz3 := fz 3
    have cq := HH.out.old
    have fq := HH.out.ce.fz o
    clear fz
    refine wpAnyH_take (i := 22) (v := ?_) rfl (by kernel_rfl) (by kernel_rfl) (by kernel_rfl) (fun _ _ _ h => h) (Or.inl ⟨by rfl, ?_⟩) (by assumption) ?_
    rotate_left 1
    · intro w hSw; (try dsimp only at hSw); go_simp; try (with_reducible rfl)
    try simp only [Act.put, List.setIfInBounds_toArray, List.set_cons_zero, List.set_cons_succ]
    refine wpAnyH_take (i := 23) (v := ?_) rfl (by kernel_rfl) (by kernel_rfl) (by kernel_rfl) (fun _ _ _ h => h) (Or.inl ⟨by rfl, ?_⟩) (by assumption) ?_
    rotate_left 1
    · intro w hSw; (try dsimp only at hSw); go_simp; try (with_reducible rfl)
    try simp only [Act.put, List.setIfInBounds_toArray, List.set_cons_zero, List.set_cons_succ]
    refine wpAnyH_ready (rs := [24]) (by kernel_rfl) (by simp) ?_
    refine AllReadyH.cons rfl (fun K hK => ?_) AllReadyH.nil
    go_simp
    replace HH := Lib.hid HH.out.sf
    refine hK.out _ _ HH.out.rd.c0 (fun hHeld => ?_)
    clear hK K
    try simp only [Act.put, List.setIfInBounds_toArray, List.set_cons_zero, List.set_cons_succ]
    clear c0 c1 c2 c3 cq fq fz1 fz2 fz3
    obtain ⟨c0, c1, c2, c3, fz⟩ := HH.out.rd
    simp only [if_true, if_false, Bool.false_eq_true] at c1 c2 c3
    have fz1 := fz 1
    have fz2 := fz 2
    have fz3 := fz 3
    have cq := HH.out.old
    have fq := HH.out.ce.fz o
    clear fz
    refine wpAnyH_done (by kernel_rfl) ?_ _
    clear hHeld
    go_wp2_with fail
    go_ret
    exact half_done HH.out


  · have tE : (e == 0) = false := by simpa using h0
    have e1 : st2 b ⟨a, e, p⟩ = ⟨a, e, p⟩ := by unfold st2; rw [if_pos h0]
    have e2 : (.int .i64 (vl2 b ⟨a, e, p⟩ old)) = l[o] := by rw [hold]; unfold vl2; rw [if_pos h0]
    rw [e1, e2, List.set_getElem_self]
    have HR := Lib.hid hR
    have HC := Lib.hid hC
    have c2 := hR.c2
    clear hR hC e1 e2 hS hold
    go_enter Tryz.func91, Tryz.ntmps91
    go_wp2_with fail
    go_ret
    exact ⟨rfl, HR.out, HC.out, Aside.refl _ _⟩

set_option maxHeartbeats 8000000 in
theorem four_next {w : World} {r q o lo hi : Nat} {vb : Value} {s : RS} {l : List Value} {b : List UInt8} (hR : Rdr w r vb s) (hC : Cel w q l) (ho : o < l.length) (hne : r ≠ q) {old : Int} (hold : l[o] = .int .i64 old) (hS : Sl w lo hi vb (iz b)) (hhi : hi ≤ w.heap.size) (hbl : b.length ≤ 1000000) :
    Calls Tryz.prog 91 #[.pointer (some ⟨r, 0, none⟩), .pointer (some ⟨q, o, none⟩), .func (.func 114) #[] #[]] w (NextPost w r q o vb (st4 b s) (l.set o (.int .i64 (vl4 b s old)))) := by
  obtain ⟨a, e, p⟩ := s
  by_cases h0 : e = 0
  · subst h0
    have e1 : st4 b ⟨a, 0, p⟩ = ⟨getF 4 b.length a (a + 4), getE 4 b.length a, getA 4 b.length a⟩ := by unfold st4; rw [if_neg (by simp)]
    have e2 : vl4 b ⟨a, 0, p⟩ old = getF 4 b.length a (nAt4 (iz b) a.toNat) := by unfold vl4; rw [if_neg (by simp)]
    rw [e1, e2]
    have hrd := fun wx (h : Below w.heap.size w wx) => get32_any (w := wx) (hS.below h hhi) (iz_byte b) (by rw [iz_len]; exact hbl) (Nat.le_trans hhi h.size) a
    rw [iz_len] at hrd
    unfold GetPost at hrd
    obtain ⟨n, hn⟩ : ∃ n, getF 4 b.length a (nAt4 (iz b) a.toNat) = n := ⟨_, rfl⟩
    obtain ⟨i, hi2⟩ : ∃ i, getF 4 b.length a (a + 4) = i := ⟨_, rfl⟩
    obtain ⟨f, hf⟩ : ∃ f, getE 4 b.length a = f := ⟨_, rfl⟩
    obtain ⟨g, hg⟩ : ∃ g, getA 4 b.length a = g := ⟨_, rfl⟩
    rw [hn, hi2, hf, hg] at hrd
    rw [hn, hi2, hf, hg]
    clear hn hi2 hf hg e1 e2
    have HRd := Lib.hid hrd
    clear hrd
    have HH := Lib.hid (half_start (t := ⟨i, f, g⟩) (v := .int .i64 n) hR hC ho hne hold)
    clear hR hC hold hS
    obtain ⟨c0, c1, c2, c3, fz⟩ := HH.out.rd
    simp only [if_true, if_false, Bool.false_eq_true] at c1 c2 c3
    have c2' : w.cell? ⟨r, 2, none⟩ = some (.int .i64 0) := c2
    have fz1 := fz 1
    have fz2 := fz 2
    have fz3 := fz 3
    have cq := HH.out.old
    have fq := HH.out.ce.fz o
    clear fz
    go_enter Tryz.func91, Tryz.ntmps91
    go_wp2_with fail
    refine wp_region_held_drew (S := (fun wx => wx.cell? ⟨r, 0, none⟩ = some vb)) (by kernel_rfl) HH.out.rd.c0 (fun hHeld => ?_)
    refine wpAnyH_take (i := 0) (v := ?_) rfl (by kernel_rfl) (by kernel_rfl) (by kernel_rfl) (fun _ _ _ h => h) (Or.inl ⟨by rfl, ?_⟩) (by assumption) ?_
    rotate_left 1
    · intro w hSw; (try dsimp only at hSw); go_simp; try (with_reducible rfl)
    try simp only [Act.put, List.setIfInBounds_toArray, List.set_cons_zero, List.set_cons_succ]
    refine wpAnyH_take (i := 1) (v := ?_) rfl (by kernel_rfl) (by kernel_rfl) (by kernel_rfl) (fun _ _ _ h => h) (Or.inl ⟨by rfl, ?_⟩) (by assumption) ?_
    rotate_left 1
    · intro w hSw; (try dsimp only at hSw); go_simp; try (with_reducible rfl)
    try simp only [Act.put, List.setIfInBounds_toArray, List.set_cons_zero, List.set_cons_succ]
    refine wpAnyH_take (i := 2) (v := ?_) rfl (by kernel_rfl) (by kernel_rfl) (by kernel_rfl) (fun _ _ _ h => h) (Or.inl ⟨by rfl, ?_⟩) (by assumption) ?_
    rotate_left 1
    · intro w hSw; (try dsimp only at hSw); go_simp; try (with_reducible rfl)
    try simp only [Act.put, List.setIfInBounds_toArray, List.set_cons_zero, List.set_cons_succ]
    refine wpAnyH_take (i := 3) (v := ?_) rfl (by kernel_rfl) (by kernel_rfl) (by kernel_rfl) (fun _ _ _ h => h) (Or.inl ⟨by rfl, ?_⟩) (by assumption) ?_
    rotate_left 1
    · intro w hSw; (try dsimp only at hSw); go_simp; try (with_reducible rfl)
    try simp only [Act.put, List.setIfInBounds_toArray, List.set_cons_zero, List.set_cons_succ]
    refine wpAnyH_take (i := 4) (v := ?_) rfl (by kernel_rfl) (by kernel_rfl) (by kernel_rfl) (fun _ _ _ h => h) (Or.inl ⟨by rfl, ?_⟩) (by assumption) ?_
    rotate_left 1
    · intro w hSw; (try dsimp only at hSw); go_simp; try (with_reducible rfl)
    try simp only [Act.put, List.setIfInBounds_toArray, List.set_cons_zero, List.set_cons_succ]
    refine wpAnyH_take (i := 5) (v := ?_) rfl (by kernel_rfl) (by kernel_rfl) (by kernel_rfl) (fun _ _ _ h => h) (Or.inl ⟨by rfl, ?_⟩) (by assumption) ?_
    rotate_left 1
    · intro w hSw; (try dsimp only at hSw); go_simp; try (with_reducible rfl)
    try simp only [Act.put, List.setIfInBounds_toArray, List.set_cons_zero, List.set_cons_succ]
    refine wpAnyH_take (i := 6) (v := ?_) rfl (by kernel_rfl) (by kernel_rfl) (by kernel_rfl) (fun _ _ _ h => h) (Or.inl ⟨by rfl, ?_⟩) (by assumption) ?_
    rotate_left 1
    · intro w hSw; (try dsimp only at hSw); go_simp; try (with_reducible rfl)
    try simp only [Act.put, List.setIfInBounds_toArray, List.set_cons_zero, List.set_cons_succ]
    refine wpAnyH_take (i := 7) (v := ?_) rfl (by kernel_rfl) (by kernel_rfl) (by kernel_rfl) (fun _ _ _ h => h) (Or.inl ⟨by rfl, ?_⟩) (by assumption) ?_
    rotate_left 1
    · intro w hSw; (try dsimp only at hSw); go_simp; try (with_reducible rfl)
    try simp only [Act.put, List.setIfInBounds_toArray, List.set_cons_zero, List.set_cons_succ]
    refine wpAnyH_take (i := 8) (v := ?_) rfl (by kernel_rfl) (by kernel_rfl) (by kernel_rfl) (fun _ _ _ h => h) (Or.inl ⟨by rfl, ?_⟩) (by assumption) ?_
    rotate_left 1
    · intro w hSw; (try dsimp only at hSw); go_simp; try (with_reducible rfl)
    try simp only [Act.put, List.setIfInBounds_toArray, List.set_cons_zero, List.set_cons_succ]
    refine wpAnyH_take (i := 9) (v := ?_) rfl (by kernel_rfl) (by kernel_rfl) (by kernel_rfl) (fun _ _ _ h => h) (Or.inl ⟨by rfl, ?_⟩) (by assumption) ?_
    rotate_left 1
    · intro w hSw; (try dsimp only at hSw); go_simp; try (with_reducible rfl)
    try simp only [Act.put, List.setIfInBounds_toArray, List.set_cons_zero, List.set_cons_succ]
    refine wpAnyH_take (i := 10) (v := ?_) rfl (by kernel_rfl) (by kernel_rfl) (by kernel_rfl) (fun _ _ _ h => h) (Or.inl ⟨by rfl, ?_⟩) (by assumption) ?_
    rotate_left 1
    · intro w hSw; (try dsimp only at hSw); go_simp; try (with_reducible rfl)
    try simp only [Act.put, List.setIfInBounds_toArray, List.set_cons_zero, List.set_cons_succ]
    refine wpAnyH_ready (rs := [11]) (by kernel_rfl) (by simp) ?_
    refine AllReadyH.cons rfl (fun K hK => ?_) AllReadyH.nil
    go_simp
    refine hK.out _ _ HH.out.rd.c0 (fun hHeld => ?_)
    clear hK K
    try simp only [Act.put, List.setIfInBounds_toArray, List.set_cons_zero, List.set_cons_succ]
    refine wpAnyH_ready (rs := [12]) (by kernel_rfl) (by simp) ?_
    refine AllReadyH.cons rfl (fun K hK => ?_) AllReadyH.nil
    go_simp
    refine (HRd.out _ ((Below.refl _ w).drew)).mono ?_; rintro en w1 ⟨rfl, hb1⟩
    replace HH := Lib.hid (HH.out.later hb1)
    clear hb1
    try go_wp2_with fail
    refine hK.out _ _ HH.out.rd.c0 (fun hHeld => ?_)
    clear hK K
    try simp only [Act.put, List.setIfInBounds_toArray, List.set_cons_zero, List.set_cons_succ]
    clear c0 c1 c2 c3 cq fq fz1 fz2 fz3
    obtain ⟨c0, c1, c2, c3, fz⟩ := HH.out.rd
    simp only [if_true, if_false, Bool.false_eq_true] at c1 c2 c3
    have fz1 := fz 1
    have fz2 := fz 2
    have fz3 := fz 3
    have cq := HH.out.old
    have fq := HH.out.ce.fz o
    clear fz
    refine wpAnyH_take (i := 13) (v := ?_) rfl (by kernel_rfl) (by kernel_rfl) (by kernel_rfl) (fun _ _ _ h => h) (Or.inl ⟨by rfl, ?_⟩) (by assumption) ?_
    rotate_left 1
    · intro w hSw; (try dsimp only at hSw); go_simp; try (with_reducible rfl)
    try simp only [Act.put, List.setIfInBounds_toArray, List.set_cons_zero, List.set_cons_succ]
    refine wpAnyH_take (i := 14) (v := ?_) rfl (by kernel_rfl) (by kernel_rfl) (by kernel_rfl) (fun _ _ _ h => h) (Or.inl ⟨by rfl, ?_⟩) (by assumption) ?_
    rotate_left 1
    · intro w hSw; (try dsimp only at hSw); go_simp; try (with_reducible rfl)
    try simp only [Act.put, List.setIfInBounds_toArray, List.set_cons_zero, List.set_cons_succ]
    refine wpAnyH_take (i := 15) (v := ?_) rfl (by kernel_rfl) (by kernel_rfl) (by kernel_rfl) (fun _ _ _ h => h) (Or.inl ⟨by rfl, ?_⟩) (by assumption) ?_
    rotate_left 1
    · intro w hSw; (try dsimp only at hSw); go_simp; try (with_reducible rfl)
    try simp only [Act.put, List.setIfInBounds_toArray, List.set_cons_zero, List.set_cons_succ]
    refine wpAnyH_take (i := 16) (v := ?_) rfl (by kernel_rfl) (by kernel_rfl) (by kernel_rfl) (fun _ _ _ h => h) (Or.inl ⟨by rfl, ?_⟩) (by assumption) ?_
    rotate_left 1
    · intro w hSw; (try dsimp only at hSw); go_simp; try (with_reducible rfl)
    try simp only [Act.put, List.setIfInBounds_toArray, List.set_cons_zero, List.set_cons_succ]
    refine wpAnyH_take (i := 17) (v := ?_) rfl (by kernel_rfl) (by kernel_rfl) (by kernel_rfl) (fun _ _ _ h => h) (Or.inl ⟨by rfl, ?_⟩) (by assumption) ?_
    rotate_left 1
    · intro w hSw; (try dsimp only at hSw); go_simp; try (with_reducible rfl)
    try simp only [Act.put, List.setIfInBounds_toArray, List.set_cons_zero, List.set_cons_succ]
    refine wpAnyH_ready (rs := [18]) (by kernel_rfl) (by simp) ?_
    refine AllReadyH.cons rfl (fun K hK => ?_) AllReadyH.nil
    go_simp
    replace HH := Lib.hid HH.out.sq
    refine hK.out _ _ HH.out.rd.c0 (fun hHeld => ?_)
    clear hK K
    try simp only [Act.put, List.setIfInBounds_toArray, List.set_cons_zero, List.set_cons_succ]
    clear c0 c1 c2 c3 cq fq fz1 fz2 fz3
    obtain ⟨c0, c1, c2, c3, fz⟩ := HH.out.rd
    simp only [if_true, if_false, Bool.false_eq_true] at c1 c2 c3
    have fz1 := fz 1
    have fz2 := fz 2
    have fz3 := fz 3
    have cq := HH.out.old
    have fq := HH.out.ce.fz o
    clear fz
    refine wpAnyH_take (i := 19) (v := ?_) rfl (by kernel_rfl) (by kernel_rfl) (by kernel_rfl) (fun _ _ _ h => h) (Or.inl ⟨by rfl, ?_⟩) (by assumption) ?_
    rotate_left 1
    · intro w hSw; (try dsimp only at hSw); go_simp; try (with_reducible rfl)
    try simp only [Act.put, List.setIfInBounds_toArray, List.set_cons_zero, List.set_cons_succ]
    refine wpAnyH_take (i := 20) (v := ?_) rfl (by kernel_rfl) (by kernel_rfl) (by kernel_rfl) (fun _ _ _ h => h) (Or.inl ⟨by rfl, ?_⟩) (by assumption) ?_
    rotate_left 1
    · intro w hSw; (try dsimp only at hSw); go_simp; try (with_reducible rfl)
    try simp only [Act.put, List.setIfInBounds_toArray, List.set_cons_zero, List.set_cons_succ]
    refine wpAnyH_ready (rs := [21]) (by kernel_rfl) (by simp) ?_
    refine AllReadyH.cons rfl (fun K hK => ?_) AllReadyH.nil
    go_simp
    replace HH := Lib.hid HH.out.sa
    refine hK.out _ _ HH.out.rd.c0 (fun hHeld => ?_)
    clear hK K
    try simp only [Act.put, List.setIfInBounds_toArray, List.set_cons_zero, List.set_cons_succ]
    clear c0 c1 c2 c3 cq fq fz1 fz2 fz3
    obtain ⟨c0, c1, c2, c3, fz⟩ := HH.out.rd
    simp only [if_true, if_false, Bool.false_eq_true] at c1 c2 c3
    have fz1 := fz 1
    have fz2 := fz 2
    have fz3 := fz 3
    have cq := HH.out.old
    have fq := HH.out.ce.fz o
    clear fz
    refine wpAnyH_take (i := 22) (v := ?_) rfl (by kernel_rfl) (by kernel_rfl) (by kernel_rfl) (fun _ _ _ h => h) (Or.inl ⟨by rfl, ?_⟩) (by assumption) ?_
    rotate_left 1
    · intro w hSw; (try dsimp only at hSw); go_simp; try (with_reducible rfl)
    try simp only [Act.put, List.setIfInBounds_toArray, List.set_cons_zero, List.set_cons_succ]
    refine wpAnyH_take (i := 23) (v := ?_) rfl (by kernel_rfl) (by kernel_rfl) (by kernel_rfl) (fun _ _ _ h => h) (Or.inl ⟨by rfl, ?_⟩) (by assumption) ?_
    rotate_left 1
    · intro w hSw; (try dsimp only at hSw); go_simp; try (with_reducible rfl)
    try simp only [Act.put, List.setIfInBounds_toArray, List.set_cons_zero, List.set_cons_succ]
    refine wpAnyH_ready (rs := [24]) (by kernel_rfl) (by simp) ?_
    refine AllReadyH.cons rfl (fun K hK => ?_) AllReadyH.nil
    go_simp
    replace HH := Lib.hid HH.out.sf
    refine hK.out _ _ HH.out.rd.c0 (fun hHeld => ?_)
    clear hK K
    try simp only [Act.put, List.setIfInBounds_toArray, List.set_cons_zero, List.set_cons_succ]
    clear c0 c1 c2 c3 cq fq fz1 fz2 fz3
    obtain ⟨c0, c1, c2, c3, fz⟩ := HH.out.rd
    simp only [if_true, if_false, Bool.false_eq_true] at c1 c2 c3
    have fz1 := fz 1
    have fz2 := fz 2
    have fz3 := fz 3
    have cq := HH.out.old
    have fq := HH.out.ce.fz o
    clear fz
    refine wpAnyH_done (by kernel_rfl) ?_ _
    clear hHeld
    go_wp2_with fail
    go_ret
    exact half_done HH.out


  · have tE : (e == 0) = false := by simpa using h0
    have e1 : st4 b ⟨a, e, p⟩ = ⟨a, e, p⟩ := by unfold st4; rw [if_pos h0]
    have e2 : (.int .i64 (vl4 b ⟨a, e, p⟩ old)) = l[o] := by rw [hold]; unfold vl4; rw [if_pos h0]
    rw [e1, e2, List.set_getElem_self]
    have HR := Lib.hid hR
    have HC := Lib.hid hC
    have c2 := hR.c2
    clear hR hC e1 e2 hS hold
    go_enter Tryz.func91, Tryz.ntmps91
    go_wp2_with fail
    go_ret
    exact ⟨rfl, HR.out, HC.out, Aside.refl _ _⟩

end Go.Proofs.YtpdaekgldgoalaaGreat

/-
  SameBytes.
-/
namespace Go.Proofs.YtpdaekgldgoalaaGreat
open Go.RowKit
set_option linter.unusedVariables false
set_option maxRecDepth 100000

/-- A slice of bytes as a string. -/
theorem conv_sl {w : World} {lo hi : Nat} {v : Value} {l : List Int} (h : Sl w lo hi v l) : (convert 43 9 v).run Tryz.prog w = .ok (.string (strOfNums l)) w := by
  obtain ⟨a, c, rfl, hc, hn, hp⟩ := h
  by_cases h0 : 0 < l.length
  · obtain ⟨b, off, rfl, _, _, hx⟩ := hp h0
    exact run_convert_bytes_arg w 43 5 Tryz.underlying43 Tryz.underlying5 b off l.length c l rfl hx 9 Tryz.underlying9
  · have hl : l = [] := List.eq_nil_of_length_eq_zero (by omega)
    subst hl
    rcases a with _ | ad
    · rw [run_convert_bytes_nil w 43 5 Tryz.underlying43 Tryz.underlying5 _ c 9 Tryz.underlying9]; rfl
    · rw [run_convert_bytes_string w 43 9 5 _ _ c Tryz.underlying43 Tryz.underlying5 Tryz.underlying9, run_bytesToString w ad _ c [] (by simpa using run_loadCells_list (P := Tryz.prog) w ad [] (by simp))]
      rfl

end Go.Proofs.YtpdaekgldgoalaaGreat

/-
  The document's Read.
-/
namespace Go.Proofs.YtpdaekgldgoalaaGreat
open Go.RowKit Go.Shelf
set_option linter.unusedVariables false
set_option maxRecDepth 100000

theorem str_iz (m : List UInt8) : strOfNums (iz m) = bs m := by
  unfold strOfNums bs iz
  rw [List.map_map]
  congr 2
  conv => rhs; rw [← List.map_id m]
  refine List.map_congr_left fun x _ => ?_
  simp

theorem lex_lt {L p i T : Nat} (hT : T < p) (hi : i ≤ L) : T * (L + 1) + (L - T) < p * (L + 1) + (L - i) := by
  have h := Nat.mul_le_mul_right (L + 1) (show T + 1 ≤ p from hT)
  rw [Nat.add_mul] at h
  generalize T * (L + 1) = x at *
  generalize p * (L + 1) = y at *
  omega

end Go.Proofs.YtpdaekgldgoalaaGreat

/-
  What is read is a name, or there is a fault; plainly.
-/
namespace Go.Proofs.YtpdaekgldgoalaaGreat
open Go.RowKit Go.Shelf
set_option linter.unusedVariables false
set_option maxRecDepth 100000

/-- Reading, way by way. -/
theorem rd_ind (b : List UInt8) (a : Nat) (M : Nat → Nat → Nat → List UInt8 → Got → Prop)
    (fault : ∀ part i next n (e : Int) k, e ≠ 0 → (k ≤ b.length ∨ k = a) → M part i next n ([], 0, e, k))
    (zero : ∀ part i next n (h : i < b.length), b[i].toNat = 0 → M part i next n (n ++ [0], if next = 0 then i + 1 else next, 0, 0))
    (label : ∀ part i next n R (h : i < b.length), b[i].toNat ≠ 0 → b[i].toNat < 64 → i + (1 + b[i].toNat) ≤ b.length → n.length + (1 + b[i].toNat) ≤ 254 →
      M part (i + (1 + b[i].toNat)) next (n ++ (b.drop i).take (1 + b[i].toNat)) R → M part i next n R)
    (lead : ∀ part i next n R (h : i + 1 < b.length), 192 ≤ (b[i]'(by omega)).toNat → ptr (b[i]'(by omega)) b[i + 1] < part →
      M (ptr (b[i]'(by omega)) b[i + 1]) (ptr (b[i]'(by omega)) b[i + 1]) (if next = 0 then i + 2 else next) n R → M part i next n R)
    (part i next : Nat) (n : List UInt8) : M part i next n (rd b a part i next n) := by
  obtain ⟨g, hg⟩ : ∃ g, part * (b.length + 1) + (b.length - i) = g := ⟨_, rfl⟩
  induction g using Nat.strongRecOn generalizing part i next n with
  | _ g ih =>
    by_cases h : i < b.length
    · by_cases h0 : b[i].toNat = 0
      · rw [rd_zero h h0]; exact zero _ _ _ _ h h0
      by_cases h1 : b[i].toNat < 64
      · by_cases h2 : b.length < i + (1 + b[i].toNat)
        · rw [rd_short h h0 h1 h2]; exact fault _ _ _ _ _ _ (by decide) (.inl (Nat.le_refl _))
        by_cases h3 : 254 < n.length + (1 + b[i].toNat)
        · rw [rd_long h h0 h1 h2 h3]; exact fault _ _ _ _ _ _ (by decide) (.inr rfl)
        rw [rd_label h h0 h1 h2 h3]
        exact label _ _ _ _ _ h h0 h1 (by omega) (by omega) (ih _ (by rw [← hg]; omega) _ _ _ _ rfl)
      by_cases h2 : b[i].toNat < 192
      · rw [rd_mid h (by omega) h2]; exact fault _ _ _ _ _ _ (by decide) (.inl (by omega))
      by_cases h3 : i + 1 < b.length
      · by_cases h4 : part ≤ ptr b[i] b[i + 1]
        · rw [rd_back h (by omega) h3 h4]; exact fault _ _ _ _ _ _ (by decide) (.inl (by omega))
        rw [rd_go h (by omega) h3 h4]
        exact lead _ _ _ _ _ h3 (by omega) (by omega) (ih _ (by rw [← hg]; exact lex_lt (by omega) (by omega)) _ _ _ _ rfl)
      · rw [rd_half h (by omega) (by omega)]; exact fault _ _ _ _ _ _ (by decide) (.inl (Nat.le_refl _))
    · rw [rd_end (by omega)]; exact fault _ _ _ _ _ _ (by decide) (.inl (Nat.le_refl _))

/-- A label and its length, cut out of bytes. -/
theorem cut_label {b : List UInt8} {i : Nat} (h : i < b.length) (h2 : i + (1 + b[i].toNat) ≤ b.length) :
    (b.drop i).take (1 + b[i].toNat) = wire [(b.drop (i + 1)).take b[i].toNat] ∧ ((b.drop (i + 1)).take b[i].toNat).length = b[i].toNat := by
  have hl : ((b.drop (i + 1)).take b[i].toNat).length = b[i].toNat := by rw [List.length_take, List.length_drop]; omega
  refine ⟨?_, hl⟩
  rw [List.drop_eq_getElem_cons h, Nat.add_comm 1, List.take_succ_cons, wire, wire, hl]
  simp

/-- What came of reading: a name that may be, its first labels those that were read; or a fault within the bytes. -/
def Fine (b : List UInt8) (ls : List (List UInt8)) (R : Got) : Prop :=
  (R.2.2.1 = 0 ∧ R.2.2.2 = 0 ∧ ∃ ls', R.1 = wire (ls ++ ls') ++ [0] ∧ Shorts (ls ++ ls')) ∨ (R.2.2.1 ≠ 0 ∧ R.1 = [] ∧ R.2.1 = 0 ∧ R.2.2.2 ≤ b.length)

theorem rd_fine (b : List UInt8) (a : Nat) (ha : a ≤ b.length) (part i next : Nat) (n : List UInt8) (ls : List (List UInt8)) (hn : n = wire ls) (hs : Shorts ls) : Fine b ls (rd b a part i next n) := by
  refine rd_ind b a (fun _ _ _ n R => ∀ ls, n = wire ls → Shorts ls → Fine b ls R) ?_ ?_ ?_ ?_ part i next n ls hn hs
  · intro part i next n e k he hk ls _ _
    exact .inr ⟨he, rfl, rfl, by show k ≤ b.length; omega⟩
  · intro part i next n h h0 ls hn hs
    exact .inl ⟨rfl, rfl, [], by rw [List.append_nil]; exact congrArg (· ++ [0]) hn, by rw [List.append_nil]; exact hs⟩
  · intro part i next n R h h0 h1 h2 h3 ih ls hn hs
    obtain ⟨e1, e2⟩ := cut_label h h2
    rcases ih (ls ++ [(b.drop (i + 1)).take b[i].toNat]) (by rw [wire_app, e1, hn]) ⟨fun x hx => by
        rcases List.mem_append.mp hx with hx | hx
        · exact hs.1 x hx
        · rw [List.mem_singleton.mp hx]; omega, by rw [wire_snoc, e2, ← hn]; omega⟩ with ⟨r1, r2, ls', r3, r4⟩ | r
    · exact .inl ⟨r1, r2, (b.drop (i + 1)).take b[i].toNat :: ls', by rw [r3]; simp, by simpa using r4⟩
    · exact .inr r
  · intro part i next n R h h0 h1 ih ls hn hs
    exact ih ls hn hs

theorem rd_kept (b : List UInt8) (a part i next : Nat) (n : List UInt8) (h0 : next ≠ 0) (he : (rd b a part i next n).2.2.1 = 0) : (rd b a part i next n).2.1 = next := by
  refine rd_ind b a (fun _ _ next _ R => next ≠ 0 → R.2.2.1 = 0 → R.2.1 = next) ?_ ?_ ?_ ?_ part i next n h0 he
  · intro part i next n e k he hk h0 h; exact absurd h he
  · intro part i next n h h0 hn _; show (if next = 0 then i + 1 else next) = next; rw [if_neg hn]
  · intro part i next n R h h0 h1 h2 h3 ih hn he; exact ih hn he
  · intro part i next n R h h0 h1 ih hn he
    have := ih (by rw [if_neg hn]; exact hn) he
    rw [if_neg hn] at this
    exact this

/-- Where a name ends whose first part is not left yet. -/
theorem rd_next (b : List UInt8) (a part i : Nat) (n : List UInt8) (hn : n.length ≤ 254) (he : (rd b a part i 0 n).2.2.1 = 0) :
    i < (rd b a part i 0 n).2.1 ∧ (rd b a part i 0 n).2.1 ≤ b.length ∧ (rd b a part i 0 n).2.1 + n.length ≤ i + 256 := by
  have := rd_ind b a (fun part i next n R => next = 0 → n.length ≤ 254 → R = rd b a part i next n → R.2.2.1 = 0 → i < R.2.1 ∧ R.2.1 ≤ b.length ∧ R.2.1 + n.length ≤ i + 256) ?_ ?_ ?_ ?_ part i 0 n rfl hn rfl he
  · exact this
  · intro part i next n e k he hk _ _ _ h; exact absurd h he
  · intro part i next n h h0 hn hl _ _
    subst hn
    show i < i + 1 ∧ i + 1 ≤ b.length ∧ i + 1 + n.length ≤ i + 256
    omega
  · intro part i next n R h h0 h1 h2 h3 ih hn hl hR he
    have hlen : ((b.drop i).take (1 + b[i].toNat)).length = 1 + b[i].toNat := by rw [List.length_take, List.length_drop]; omega
    have := ih hn (by rw [List.length_append, hlen]; omega) (by rw [hR, rd_label h h0 h1 (by omega) (by omega)]) he
    rw [List.length_append, hlen] at this
    omega
  · intro part i next n R h h0 h1 ih hn hl hR he
    subst hn
    rw [rd_go (by omega) h0 h (by omega), if_pos rfl] at hR
    have := rd_kept b a _ _ (i + 2) n (by omega) (by rw [← hR]; exact he)
    rw [← hR] at this
    omega

end Go.Proofs.YtpdaekgldgoalaaGreat

/-
  octet.Put16, Put32.
-/
namespace Go.Proofs.YtpdaekgldgoalaaGreat
open Go.RowKit
set_option linter.unusedVariables false
set_option maxRecDepth 100000

/-- The error that Put tells, and the bytes. -/
def putE (m n : Int) : Int := if 0 ≤ n ∧ n ≤ m then 0 else 5

def putL2 (n : Int) : List Int := if 0 ≤ n ∧ n ≤ 65535 then [n / 256, n % 256] else []

def putL4 (n : Int) : List Int := if 0 ≤ n ∧ n ≤ 4294967295 then [n / 256 / 256 / 256, n / 256 / 256 % 256, n / 256 % 256, n % 256] else []

def PutPost (w : World) (E : Int) (L : List Int) (e : Ending) (w' : World) : Prop :=
  ∃ v g, e = .returned (.tuple #[v, .int .i64 E]) ∧ Own w' g v L ∧ w.heap.size ≤ g ∧ g < w'.heap.size ∧ Below w.heap.size w w'

set_option maxHeartbeats 400000 in
theorem put2_any (n : Int) (w : World) : Calls Tryz.prog 47 #[.int .i64 n] w (PutPost w (putE 65535 n) (putL2 n)) := by
  have hm := make2
  by_cases h : 0 ≤ n ∧ n ≤ 65535
  · have e1 : putE 65535 n = 0 := by unfold putE; rw [if_pos h]
    have e2 : putL2 n = [n / 256, n % 256] := by unfold putL2; rw [if_pos h]
    rw [e1, e2]
    clear e1 e2
    obtain ⟨h0, h1⟩ := h
    go_enter Tryz.func47, Tryz.ntmps47
    go_wp2
    refine wp_loop_rounds 3 ?_
    iterate 3 (rw [rounds_succ]; go_wp2)
    go_ret2
    exact ⟨_, w.heap.size + 1, rfl, .inr ⟨rfl, two_alloc _ _ _⟩, by omega, by simp, ((Below.refl _ _).alloc (Nat.le_refl _) _).alloc (by simp) _⟩
  · have e1 : putE 65535 n = 5 := by unfold putE; rw [if_neg h]
    have e2 : putL2 n = [] := by unfold putL2; rw [if_neg h]
    rw [e1, e2]
    clear e1 e2
    have h : n < 0 ∨ 65535 < n := by omega
    go_enter Tryz.func47, Tryz.ntmps47
    go_wp2
    refine wp_loop_rounds 3 ?_
    iterate 3 (rw [rounds_succ]; go_wp2)
    go_ret2
    exact ⟨_, w.heap.size, rfl, .inl ⟨rfl, rfl⟩, by omega, by simp; omega, ((Below.refl _ _).alloc (Nat.le_refl _) _).alloc (by simp) _⟩

set_option maxHeartbeats 400000 in
theorem put4_any (n : Int) (w : World) : Calls Tryz.prog 124 #[.int .i64 n] w (PutPost w (putE 4294967295 n) (putL4 n)) := by
  have hm := make4
  by_cases h : 0 ≤ n ∧ n ≤ 4294967295
  · have e1 : putE 4294967295 n = 0 := by unfold putE; rw [if_pos h]
    have e2 : putL4 n = [n / 256 / 256 / 256, n / 256 / 256 % 256, n / 256 % 256, n % 256] := by unfold putL4; rw [if_pos h]
    rw [e1, e2]
    clear e1 e2
    obtain ⟨h0, h1⟩ := h
    go_enter Tryz.func124, Tryz.ntmps124
    go_wp2
    refine wp_loop_rounds 5 ?_
    iterate 5 (rw [rounds_succ]; go_wp2)
    go_ret2
    exact ⟨_, w.heap.size + 1, rfl, .inr ⟨rfl, two_alloc _ _ _⟩, by omega, by simp, ((Below.refl _ _).alloc (Nat.le_refl _) _).alloc (by simp) _⟩
  · have e1 : putE 4294967295 n = 5 := by unfold putE; rw [if_neg h]
    have e2 : putL4 n = [] := by unfold putL4; rw [if_neg h]
    rw [e1, e2]
    clear e1 e2
    have h : n < 0 ∨ 4294967295 < n := by omega
    go_enter Tryz.func124, Tryz.ntmps124
    go_wp2
    refine wp_loop_rounds 5 ?_
    iterate 5 (rw [rounds_succ]; go_wp2)
    go_ret2
    exact ⟨_, w.heap.size, rfl, .inl ⟨rfl, rfl⟩, by omega, by simp; omega, ((Below.refl _ _).alloc (Nat.le_refl _) _).alloc (by simp) _⟩

set_option maxHeartbeats 400000 in
theorem put16_any (n : Int) (w : World) : Calls Tryz.prog 42 #[.int .i64 n] w (PutPost w (putE 65535 n) (putL2 n)) := by
  go_enter Tryz.func42, Tryz.ntmps42
  go_wp2_with (go_at_call 47; refine (put2_any n _).mono ?_; rintro e w1 ⟨v, g, rfl, h1, h2, h3, h4⟩; have H1 := Lib.hid h1; have H2 := Lib.hid h2; have H3 := Lib.hid h3; have H4 := Lib.hid h4; clear h1 h2 h3 h4)
  go_ret2
  exact ⟨v, g, rfl, H1.out, H2.out, H3.out, H4.out⟩

set_option maxHeartbeats 400000 in
theorem put32_any (n : Int) (w : World) : Calls Tryz.prog 118 #[.int .i64 n] w (PutPost w (putE 4294967295 n) (putL4 n)) := by
  go_enter Tryz.func118, Tryz.ntmps118
  go_wp2_with (go_at_call 124; refine (put4_any n _).mono ?_; rintro e w1 ⟨v, g, rfl, h1, h2, h3, h4⟩; have H1 := Lib.hid h1; have H2 := Lib.hid h2; have H3 := Lib.hid h3; have H4 := Lib.hid h4; clear h1 h2 h3 h4)
  go_ret2
  exact ⟨v, g, rfl, H1.out, H2.out, H3.out, H4.out⟩

end Go.Proofs.YtpdaekgldgoalaaGreat

/-
  Rows of bytes of the call's own, made by append or out of a text: nothing of them is frozen, what lies behind their length is zeros.
-/
namespace Go.Proofs.YtpdaekgldgoalaaGreat
open Go.RowKit Go.Shelf
set_option linter.unusedVariables false
set_option maxRecDepth 100000

/-- The bytes l, then zeros up to the capacity. -/
def rowB (l : List UInt8) (cap : Nat) : List Value := ub l ++ List.replicate (cap - l.length) (.int .u8 0)

theorem ub_len (l : List UInt8) : (ub l).length = l.length := by simp [ub]
theorem ub_iz (l : List UInt8) : ub l = (iz l).map (Value.int .u8) := by unfold ub iz; rw [List.map_map]; rfl
theorem ub_app (a b : List UInt8) : ub (a ++ b) = ub a ++ ub b := List.map_append
theorem rowB_len {l : List UInt8} {cap : Nat} (h : l.length ≤ cap) : (rowB l cap).length = cap := by unfold rowB; rw [List.length_append, ub_len, List.length_replicate]; omega
theorem rowB_get {l : List UInt8} {cap j : Nat} (h : j < l.length) : (rowB l cap)[j]? = some (.int .u8 ((l.getD j 0).toNat : Nat)) := by
  unfold rowB
  rw [List.getElem?_append_left (by rw [ub_len]; exact h), ub, List.getElem?_map, List.getElem?_eq_getElem h, List.getD, List.getElem?_eq_getElem h]
  rfl

/-- v is nil, or such a row, in a block from B on. -/
def OwnB (w : World) (B : Nat) (v : Value) (l : List UInt8) : Prop :=
  (v = .slice none 0 0 ∧ l = []) ∨ ∃ g cap, ∃ fz : Nat × Nat, v = .slice (some ⟨g, 0, none⟩) l.length cap ∧ B ≤ g ∧ l.length ≤ cap ∧ cap ≤ maxLen ∧ (fz.2 = 0 ∨ cap ≤ fz.1) ∧ w.heap[g]? = some (.cells (rowB l cap).toArray 5 fz)

section
variable {w w' : World} {B B' : Nat} {v : Value} {l : List UInt8} {G : Nat → Prop}
theorem OwnB.nil (w : World) (B : Nat) : OwnB w B (.slice .none 0 0) [] := .inl ⟨rfl, rfl⟩
theorem OwnB.lt (h : OwnB w B v l) : ∀ k, v.ownBlock = some k → B ≤ k ∧ k < w.heap.size := by
  intro k hk
  rcases h with ⟨rfl, _⟩ | ⟨g, cap, fz, rfl, hB, _, _, _, hg⟩
  · simp [Value.ownBlock] at hk
  · simp [Value.ownBlock] at hk
    subst hk
    exact ⟨hB, (Array.getElem?_eq_some_iff.1 hg).1⟩
theorem OwnB.aside (h : OwnB w B v l) (ha : Aside G w w') (hG : ∀ b, v.ownBlock = some b → ¬ G b) : OwnB w' B v l := by
  have hlt := h.lt
  rcases h with h2 | ⟨g, cap, fz, hv, hg, h1, h2, h3, hh⟩
  · exact .inl h2
  · exact .inr ⟨g, cap, fz, hv, hg, h1, h2, h3, (ha.block g (by subst hv; exact (hlt g rfl).2) (hG g (by rw [hv]; rfl))).trans hh⟩
theorem OwnB.mono (h : OwnB w B v l) (hB : B' ≤ B) : OwnB w B' v l := by
  rcases h with h2 | ⟨g, cap, fz, hv, hg, r⟩
  · exact .inl h2
  · exact .inr ⟨g, cap, fz, hv, Nat.le_trans hB hg, r⟩
theorem OwnB.below (h : OwnB w B v l) (hb : Below w.heap.size w w') : OwnB w' B v l := h.aside (G := fun _ => False) (Aside.of_all hb) fun _ _ h => h
theorem OwnB.shape (h : OwnB w B v l) : ∃ a c, v = .slice a l.length c := by
  rcases h with ⟨rfl, rfl⟩ | ⟨g, cap, fz, rfl, _⟩
  · exact ⟨none, 0, rfl⟩
  · exact ⟨_, cap, rfl⟩
theorem OwnB.cells (h : OwnB w B v l) {g : Nat} (hg : v.ownBlock = some g) : ∀ j, j < l.length → w.cell? ⟨g, j, none⟩ = some (.int .u8 ((l.getD j 0).toNat : Nat)) := by
  intro j hj
  rcases h with ⟨rfl, _⟩ | ⟨g', cap, fz, rfl, _, _, _, _, hh⟩
  · simp [Value.ownBlock] at hg
  · simp [Value.ownBlock] at hg
    subst hg
    rw [World.cell?, hh]
    simpa using rowB_get (cap := cap) hj
theorem OwnB.sl (h : OwnB w B v l) : Sl w B w.heap.size v (iz l) := by
  have hlt := h.lt
  have hc := fun g hg => h.cells (g := g) hg
  rcases h with ⟨rfl, rfl⟩ | ⟨g, cap, fz, rfl, hB, hl, _, _, hh⟩
  · exact ⟨none, 0, rfl, by simp [iz], fun _ => rfl, fun h => by simp [iz] at h⟩
  · refine ⟨some ⟨g, 0, none⟩, cap, by rw [iz_len], by rw [iz_len]; exact hl, fun h => by simp at h, fun _ => ⟨g, 0, rfl, hB, (hlt g rfl).2, fun j hj => ?_⟩⟩
    rw [iz_len] at hj
    rw [Nat.zero_add, hc g rfl j hj, iz_get l j hj, List.getD, List.getElem?_eq_getElem hj]
    rfl
theorem OwnB.of_own {g : Nat} (h : Own w g v (iz l)) (hl : l.length ≤ 1000000) : OwnB w g v l := by
  rcases h with ⟨h1, h2⟩ | ⟨h1, h2⟩
  · exact .inl ⟨h1, by have := congrArg List.length h2; rw [iz_len] at this; exact List.eq_nil_of_length_eq_zero this⟩
  · rw [iz_len] at h1
    refine .inr ⟨g, l.length, (0, 0), h1, Nat.le_refl _, Nat.le_refl _, by unfold maxLen; omega, .inl rfl, ?_⟩
    rw [h2, rowB, Nat.sub_self, List.replicate_zero, List.append_nil, ub_iz]
end

/-- A text as bytes. -/
theorem conv_B (w : World) (s : List UInt8) (hs : s.length ≤ 1000000) : ∃ cap W, (convert 9 43 (.string (bs s))).run Tryz.prog w = .ok (.slice (some ⟨w.heap.size, 0, none⟩) s.length cap) W ∧ OwnB W w.heap.size (.slice (some ⟨w.heap.size, 0, none⟩) s.length cap) s ∧ Below w.heap.size w W ∧ w.heap.size < W.heap.size := by
  have h := run_bytes_of_string (P := Tryz.prog) w 9 43 5 (bs s) Tryz.underlying9 Tryz.underlying43 Tryz.underlying5
  rw [bs_size] at h
  have hge := grownCap_ge w s.length 0 5
  have hlist : (bytesRow (bs s) (grownCap w s.length 0 5)) = (rowB s (grownCap w s.length 0 5)).toArray := by
    unfold bytesRow rowB ub
    rw [bs_size]
    simp [bs]
  have hsz : (rowB s (grownCap w s.length 0 5)).toArray.size = grownCap w s.length 0 5 := by simp only [List.size_toArray, rowB_len hge]
  rw [hlist, hsz] at h
  exact ⟨_, _, h, .inr ⟨w.heap.size, grownCap w s.length 0 5, (grownCap w s.length 0 5, grownCap w s.length 0 5 + 1), rfl, Nat.le_refl _, hge, grownCap_le_maxLen w s.length 0 5 (by unfold maxLen; omega), .inr (Nat.le_refl _), heap_alloc_new w.drew _⟩, (Below.refl _ w).drew.alloc (Nat.le_refl _) _, by simp⟩

/-- Cells written into a row that is marked behind its end. -/
theorem store_marked (P : Program) (g t : Nat) (fz : Nat × Nat) : ∀ (vs : List Value) (o i : Nat) (cur : Array Value) (w : World), w.heap[g]? = some (.cells cur t fz) → (fz.2 = 0 ∨ cur.size ≤ fz.1) → o + i + vs.length ≤ cur.size → (∀ x ∈ vs, x.oneCell' = true) →
    (storeCells ⟨g, o, none⟩ vs i).run P w = .ok () (w.setRow g (cur.toList.take (o + i) ++ vs ++ cur.toList.drop (o + i + vs.length)).toArray) := by
  intro vs
  induction vs with
  | nil =>
    intro o i cur w hg _ _ _
    have : cur.toList.take (o + i) ++ [] ++ cur.toList.drop (o + i + ([] : List Value).length) = cur.toList := by simp
    rw [this, Array.toArray_toList, setRow_self w g cur t fz hg]
    rfl
  | cons x r ih =>
    intro o i cur w hg hz hl h1
    rw [List.length_cons] at hl
    have hlt : o + i < cur.size := by omega
    have hx : w.cell? ⟨g, o + i, none⟩ = some cur[o + i] := by simp [World.cell?, hg, hlt]
    have hf : w.frozen? ⟨g, o + i, none⟩ = false := by
      have : ¬ (fz.1 ≤ o + i ∧ o + i < fz.2) := by omega
      simp only [World.frozen?, hg]
      simpa using this
    have hstep : (store ((⟨g, o, none⟩ : Addr).add i) x).run P w = .ok () (w.setRow g (cur.setIfInBounds (o + i) x)) := by
      rw [WideShapes.add_plain, run_store P w _ x _ (h1 x List.mem_cons_self), hx]
      simp [hf, setCell_eq_setRow w g (o + i) cur t fz x hg]
    have hrest := ih o (i + 1) (cur.setIfInBounds (o + i) x) _ (setRow_heap w g cur _ t fz hg) (by simpa using hz) (by simp; omega) (fun y hy => h1 y (List.mem_cons_of_mem _ hy))
    have hlist : (cur.setIfInBounds (o + i) x).toList.take (o + (i + 1)) ++ r ++ (cur.setIfInBounds (o + i) x).toList.drop (o + (i + 1) + r.length) = cur.toList.take (o + i) ++ (x :: r) ++ cur.toList.drop (o + i + (r.length + 1)) := by
      rw [Array.toList_setIfInBounds]
      have hl2 : o + i < cur.toList.length := by simpa using hlt
      rw [show o + (i + 1) = o + i + 1 by omega, List.take_set, List.drop_set_of_lt (by omega), List.take_add_one, List.getElem?_eq_getElem hl2]
      rw [List.set_append_right _ _ (by rw [List.length_take]; omega)]
      have hl3 : cur.toList.length = cur.size := Array.length_toList
      have e1 : o + i - (cur.toList.take (o + i)).length = 0 := by rw [List.length_take]; omega
      rw [e1, Option.toList_some, List.set_cons_zero, List.append_assoc, List.append_assoc, List.append_assoc, List.singleton_append]
      congr 4
      omega
    simp only [storeCells, Sem.run_bind, hstep, Result.andThen_ok, hrest, setRow_setRow, hlist, List.length_cons]

/-- append of bytes, as it runs. -/
theorem run_appB {w : World} (B : Nat) (v xv : Value) (l l' : List UInt8) {lo hi : Nat} (hown : OwnB w B v l) (hx : Sl w lo hi xv (iz l')) (h0 : 0 < l'.length) (hb : l.length + l'.length ≤ 1000000) (hB : B ≤ w.heap.size) :
    ∃ v' w', (Builtin.append_ #[43, 43] 43 #[v, xv]).run Tryz.prog w = .ok v' w' ∧ OwnB w' B v' (l ++ l') ∧ w.grownBy w' v.ownBlock ∧ (v'.ownBlock = v.ownBlock ∨ v'.ownBlock = some w.heap.size) := by
  obtain ⟨i0, hi, hz0, hz1, hz2⟩ := info_parts Tryz.info5
  obtain ⟨ad, c, rfl, hc, hn, hp⟩ := hx
  rw [iz_len] at hc hp
  rw [iz_len]
  obtain ⟨g', off, rfl, _, _, hcell⟩ := hp h0
  have hnews : ∀ j u, (ub l')[j]? = some u → w.cell? ((⟨g', off, none⟩ : Addr).add j) = some u := by
    intro j u hu
    have hj : j < l'.length := by have := (List.getElem?_eq_some_iff.mp hu).1; rwa [ub_len] at this
    rw [WideShapes.add_plain, hcell j hj, iz_get l' j hj]
    rw [ub, List.getElem?_map, List.getElem?_eq_getElem hj] at hu
    exact hu
  have hm : (ub l').length = l'.length := ub_len _
  have fin : ∀ (need cap : Nat), l.length + l'.length ≤ cap → cap ≤ maxLen → ∀ W, W.heap[w.heap.size]? = some (.cells (ub l ++ ub l' ++ List.replicate (cap - (l.length + l'.length)) (Value.int .u8 0)).toArray 5 (0, 0)) →
      OwnB W B (.slice (some ⟨w.heap.size, 0, none⟩) (l.length + l'.length) cap) (l ++ l') := fun need cap h1 h2 W hW => by
    refine .inr ⟨w.heap.size, cap, (0, 0), by rw [List.length_append], hB, by rw [List.length_append]; exact h1, h2, .inl rfl, ?_⟩
    rw [hW, rowB, ub_app, List.length_append]
  rcases hown with ⟨rfl, rfl⟩ | ⟨g, cap, fz, rfl, hbg, hlc, hcm, hfz, hg⟩
  · have hr := run_append_nil (P := Tryz.prog) w 43 43 5 i0 (.int .u8 0) Tryz.underlying43 hi hz0 ⟨g', off, none⟩ l'.length c (ub l') (by rw [hz1, hm]; omega) hnews (by omega) (by simp at hb; omega) (by rw [hz2]; simp at hb; omega)
    have hge := grownCap_ge w l'.length 0 5
    have h := fin 0 (grownCap w l'.length 0 5) (by simpa using hge) (grownCap_le_maxLen w l'.length 0 5 (by simp at hb; unfold maxLen; omega)) (w.drew.alloc (.cells (ub l' ++ List.replicate (grownCap w l'.length 0 5 - l'.length) (Value.int .u8 0)).toArray 5)) (by
      refine (heap_alloc_new w.drew _).trans ?_
      simp [ub])
    simp only [List.length_nil, Nat.zero_add] at h
    refine ⟨_, _, hr, ?_, ⟨rfl, rfl, rfl, by simp, fun k hk _ => Below.heap_alloc w.drew _ _ hk⟩, .inr rfl⟩
    rw [zeroCells_one _ rfl]
    simp only [List.append_toArray]
    exact h
  · by_cases hroom : l.length + l'.length ≤ cap
    · have hf := run_firstCells_some (P := Tryz.prog) w i0.size l'.length ⟨g', off, none⟩ l'.length c (ub l') (by rw [hz1, hm]; omega) hnews
      have hst := store_marked Tryz.prog g 5 fz (ub l') (l.length * i0.size) 0 _ w hg (by simpa [rowB_len hlc] using hfz) (by simp [rowB_len hlc, hz1, hm]; omega) (ub_one _)
      have hlist : (rowB l cap).toArray.toList.take (l.length * i0.size + 0) ++ ub l' ++ (rowB l cap).toArray.toList.drop (l.length * i0.size + 0 + (ub l').length) = rowB (l ++ l') cap := by
        rw [hz1, hm]
        unfold rowB
        simp only [Nat.mul_one, Nat.add_zero]
        rw [List.take_left' (ub_len l), ub_app, List.length_append, List.append_assoc, List.append_assoc, List.drop_append, List.drop_eq_nil_of_le (by rw [ub_len]; omega), List.nil_append, List.drop_replicate, ub_len]
        congr 3
        omega
      rw [hlist] at hst
      refine ⟨.slice (some ⟨g, 0, none⟩) (l.length + l'.length) cap, w.setRow g (rowB (l ++ l') cap).toArray, ?_, .inr ⟨g, cap, fz, by rw [List.length_append], hbg, by rw [List.length_append]; exact hroom, hcm, hfz, setRow_heap w g _ _ 5 fz hg⟩, ⟨rfl, rfl, rfl, by simp, fun k _ hk => setRow_other w g k _ (fun e => hk (by simp [Value.ownBlock, e]))⟩, .inl rfl⟩
      simp [Builtin.append_, run_underlying Tryz.underlying43, sizeOf, typeInfo, hi, Builtin.lenOf, hroom, hf, Addr.add_lit, hst]
    · have holds : ∀ j u, (ub l)[j]? = some u → w.cell? ((⟨g, 0, none⟩ : Addr).add j) = some u := fun j u hu => by
        have hj : j < l.length := by have := (List.getElem?_eq_some_iff.mp hu).1; rwa [ub_len] at this
        rw [WideShapes.add_plain, Nat.zero_add, World.cell?, hg]
        simp [rowB, List.getElem?_append_left (show j < (ub l).length by rw [ub_len]; exact hj), hu]
      have hr := run_append_grow (P := Tryz.prog) w 43 43 5 i0 (.int .u8 0) Tryz.underlying43 hi hz0 ⟨g, 0, none⟩ l.length cap (ub l) (by rw [hz1, ub_len]; omega) holds ⟨g', off, none⟩ l'.length c (ub l') (by rw [hz1, hm]; omega) hnews (by omega) (by omega) (growslice_fits (by omega) (by rw [hz2]; omega))
      have hge := grownCap_ge w (l.length + l'.length) cap 5
      have h := fin 0 (grownCap w (l.length + l'.length) cap 5) hge (grownCap_le_maxLen w (l.length + l'.length) cap 5 (by unfold maxLen; omega)) (w.drew.alloc (.cells (ub l ++ ub l' ++ List.replicate (grownCap w (l.length + l'.length) cap 5 - (l.length + l'.length)) (Value.int .u8 0)).toArray 5)) (heap_alloc_new w.drew _)
      refine ⟨_, _, hr, ?_, ⟨rfl, rfl, rfl, by simp, fun k hk _ => Below.heap_alloc w.drew _ _ hk⟩, .inr rfl⟩
      rw [zeroCells_one _ rfl]
      simp only [List.append_toArray]
      exact h

/-- Block g is c bytes, none of them frozen. -/
def Bytes (w : World) (g c : Nat) : Prop := ∃ (l : List Int) (fz : Nat × Nat), l.length = c ∧ (fz.2 = 0 ∨ c ≤ fz.1) ∧ w.heap[g]? = some (.cells (l.map (Value.int .u8)).toArray 5 fz)

end Go.Proofs.YtpdaekgldgoalaaGreat
