/-
  Records: whether one may be, its lower form, which are the same.
-/
import Derived.Test.YtaikpgcmcmkdcaaQC
import Derived.Test.YtaikpgcmcmkdcaaVd
import Derived.Deep.RegionHeld3
import Derived.Test.YtaikpgcmcmkdcaaKd
import Derived.Test.YtaikpgcmcmkdcaaBGet
import Derived.Test.YtaikpgcmcmkdcaaTg
namespace Go.Proofs.Ytaikpgcmcmkdcaa
open Go.RowKit Go.Shelf
set_option linter.unusedVariables false
set_option linter.unusedSimpArgs false
set_option maxRecDepth 100000

/-- A record: its name, its type, its class, its TTL, its data. -/
structure Rc where
  n : List UInt8
  t : Int
  c : Int
  l : Int
  d : List UInt8

/-- What says whether a question may be. -/
def askE (n : List UInt8) (t c : Int) : Int := if chk n ≠ 0 then chk n else if t < 0 ∨ 65535 < t ∨ c < 0 ∨ 65535 < c then 5 else 0

/-- What says whether a record may be. -/
def chkC (x : Rc) : Int := if askE x.n x.t x.c ≠ 0 then askE x.n x.t x.c else if x.l < 0 ∨ 2147483647 < x.l then 5 else (spl x.t x.d).code

/-- What is compared of a record. -/
def lowC (x : Rc) : List UInt8 × Int × Int × List UInt8 := (low x.n, x.t, x.c, lowD x.t x.d)

def sameC (a b : Rc) : Bool := decide (chkC a = 0) && decide (chkC b = 0) && decide (lowC a = lowC b)

theorem bound_yes (n : Int) (h : 0 ≤ n ∧ n ≤ 65535) (w : World) : Calls Try.prog 52 #[.int .i64 n] w fun e w' => e = .returned (.bool true) ∧ w = w' := by
  obtain ⟨h1, h2⟩ := h
  go_enter Try.func52, Try.ntmps52
  go_wp2
  go_ret
  exact ⟨rfl, rfl⟩

theorem bound_no (n : Int) (h : n < 0 ∨ 65535 < n) (w : World) : Calls Try.prog 52 #[.int .i64 n] w fun e w' => e = .returned (.bool false) ∧ w = w' := by
  by_cases h0 : n < 0
  · have t1 : decide (0 ≤ n) = false := by simpa using h0
    go_enter Try.func52, Try.ntmps52
    go_wp2
    go_ret
    exact ⟨rfl, rfl⟩
  · have t1 : decide (0 ≤ n) = true := by simpa using h0
    have t2 : decide (n ≤ 65535) = false := by simp; omega
    go_enter Try.func52, Try.ntmps52
    go_wp2
    go_ret
    exact ⟨rfl, rfl⟩

theorem ask_any (n : List UInt8) (hn : n.length ≤ 1000000) (t c : Int) (w : World) : Calls Try.prog 27 #[.string (bs n), .int .i64 t, .int .i64 c] w (Tells w (.int .i64 (askE n t c))) := by
  have HC := Lib.hid (check_any n (by omega) w)
  by_cases h0 : chk n = 0
  · by_cases ht : 0 ≤ t ∧ t ≤ 65535
    · by_cases hc : 0 ≤ c ∧ c ≤ 65535
      · have e : askE n t c = 0 := by unfold askE; rw [if_neg (by simpa using h0), if_neg (by omega)]
        have B1 := Lib.hid (bound_yes t ht)
        have B2 := Lib.hid (bound_yes c hc)
        rw [e]
        rw [h0] at HC
        clear e h0 ht hc
        go_enter Try.func27, Try.ntmps27
        go_wp2_with fail
        refine HC.out.mono ?_; rintro e w1 ⟨rfl, hb⟩
        have HB := Lib.hid hb
        clear hb
        go_wp2_with fail
        refine (B1.out _).mono ?_; rintro e w2 ⟨rfl, rfl⟩
        go_wp2_with fail
        refine (B2.out _).mono ?_; rintro e w2 ⟨rfl, rfl⟩
        go_wp2_with fail
        go_ret
        exact ⟨rfl, HB.out⟩
      · have e : askE n t c = 5 := by unfold askE; rw [if_neg (by simpa using h0), if_pos (by omega)]
        have B1 := Lib.hid (bound_yes t ht)
        have B2 := Lib.hid (bound_no c (by omega))
        rw [e]
        rw [h0] at HC
        clear e h0 ht hc
        go_enter Try.func27, Try.ntmps27
        go_wp2_with fail
        refine HC.out.mono ?_; rintro e w1 ⟨rfl, hb⟩
        have HB := Lib.hid hb
        clear hb
        go_wp2_with fail
        refine (B1.out _).mono ?_; rintro e w2 ⟨rfl, rfl⟩
        go_wp2_with fail
        refine (B2.out _).mono ?_; rintro e w2 ⟨rfl, rfl⟩
        go_wp2_with fail
        go_ret
        exact ⟨rfl, HB.out⟩
    · have e : askE n t c = 5 := by unfold askE; rw [if_neg (by simpa using h0), if_pos (by omega)]
      have B1 := Lib.hid (bound_no t (by omega))
      rw [e]
      rw [h0] at HC
      clear e h0 ht
      go_enter Try.func27, Try.ntmps27
      go_wp2_with fail
      refine HC.out.mono ?_; rintro e w1 ⟨rfl, hb⟩
      have HB := Lib.hid hb
      clear hb
      go_wp2_with fail
      refine (B1.out _).mono ?_; rintro e w2 ⟨rfl, rfl⟩
      go_wp2_with fail
      go_ret
      exact ⟨rfl, HB.out⟩
  · have e : askE n t c = chk n := by unfold askE; rw [if_pos (by simpa using h0)]
    rw [e]
    obtain ⟨c0, hc0⟩ : ∃ c0, chk n = c0 := ⟨_, rfl⟩
    rw [hc0] at HC h0 ⊢
    have tc : (c0 != 0) = true := by simpa using h0
    clear e h0 hc0
    go_enter Try.func27, Try.ntmps27
    go_wp2_with fail
    refine HC.out.mono ?_; rintro e w1 ⟨rfl, hb⟩
    have HB := Lib.hid hb
    clear hb
    go_wp2_with fail
    go_ret
    exact ⟨rfl, HB.out⟩

set_option maxHeartbeats 1000000 in
theorem checkC_any (n : List UInt8) (t c l : Int) (d : List UInt8) (hn : n.length ≤ 1000000) (hd : d.length ≤ 1000000) (w : World) :
    Calls Try.prog 10 #[.agg #[.string (bs n), .int .i64 t, .int .i64 c, .int .i64 l, .string (bs d)]] w (Tells w (.int .i64 (chkC ⟨n, t, c, l, d⟩))) := by
  have HA := Lib.hid (fun wx => ask_any n hn t c wx)
  have HR := Lib.hid (fun wx => rcheckD_any t d hd wx)
  have HB := Lib.hid ((Below.refl w.heap.size w).alloc (Nat.le_refl _) (.cells #[.string (bs n), .int .i64 t, .int .i64 c, .int .i64 l, .string (bs d)] 23))
  have c0 : (w.alloc (.cells #[.string (bs n), .int .i64 t, .int .i64 c, .int .i64 l, .string (bs d)] 23)).cell? ⟨w.heap.size, 1, none⟩ = some (.int .i64 t) := by simp [go_sem]
  have c3 : (w.alloc (.cells #[.string (bs n), .int .i64 t, .int .i64 c, .int .i64 l, .string (bs d)] 23)).cell? ⟨w.heap.size, 3, none⟩ = some (.int .i64 l) := by simp [go_sem]
  have c4 : (w.alloc (.cells #[.string (bs n), .int .i64 t, .int .i64 c, .int .i64 l, .string (bs d)] 23)).cell? ⟨w.heap.size, 4, none⟩ = some (.string (bs d)) := by simp [go_sem]
  have HQ := Lib.hid (And.intro c0 (And.intro c3 c4))
  clear c0 c3 c4
  have hlt : w.heap.size < (w.alloc (.cells #[.string (bs n), .int .i64 t, .int .i64 c, .int .i64 l, .string (bs d)] 23)).heap.size := by simp
  have HL := Lib.hid hlt
  clear hlt
  obtain ⟨E, hE⟩ : ∃ E, askE n t c = E := ⟨_, rfl⟩
  have e0 : chkC ⟨n, t, c, l, d⟩ = if E ≠ 0 then E else if l < 0 ∨ 2147483647 < l then 5 else (spl t d).code := by unfold chkC; simp only [hE]
  rw [e0]
  rw [hE] at HA
  clear e0 hE
  by_cases h0 : E = 0
  · subst h0
    rw [if_neg (by simp)]
    by_cases hl : l < 0 ∨ 2147483647 < l
    · rw [if_pos hl]
      have tl : decide (l < 0) = true ∨ (decide (l < 0) = false ∧ decide ((2147483647 : Int) < l) = true) := by
        by_cases h : l < 0
        · exact .inl (by simpa using h)
        · exact .inr ⟨by simpa using h, by simp; omega⟩
      clear hl
      rcases tl with tl | ⟨tl, tl2⟩
      all_goals
        go_enter Try.func10, Try.ntmps10
        go_wp2_with fail
        refine (HA.out _).mono ?_; rintro e w1 ⟨rfl, hb⟩
        have c3 := cell_later hb HQ.out.2.1
        have HB1 := Lib.hid (bel_call HB.out hb)
        clear hb
        go_wp2_with fail
        go_ret
        exact ⟨rfl, HB1.out⟩
    · rw [if_neg hl]
      have tl : decide (l < 0) = false := by simp; omega
      have tl2 : decide ((2147483647 : Int) < l) = false := by simp; omega
      clear hl
      obtain ⟨C, hC⟩ : ∃ C, (spl t d).code = C := ⟨_, rfl⟩
      rw [hC] at HR ⊢
      clear hC
      go_enter Try.func10, Try.ntmps10
      go_wp2_with fail
      refine (HA.out _).mono ?_; rintro e w1 ⟨rfl, hb⟩
      have c3 := cell_later hb HQ.out.2.1
      have c4 := cell_later hb HQ.out.2.2
      have c1 := cell_later hb HQ.out.1
      have HB1 := Lib.hid (bel_call HB.out hb)
      clear hb
      go_wp2_with fail
      refine (HR.out _).mono ?_; rintro e w2 ⟨rfl, hb⟩
      have HB2 := Lib.hid (bel_call HB1.out hb)
      clear hb
      go_wp2_with fail
      go_ret
      exact ⟨rfl, HB2.out⟩
  · rw [if_pos (by simpa using h0)]
    have tE : (E != 0) = true := by simpa using h0
    clear h0
    go_enter Try.func10, Try.ntmps10
    go_wp2_with fail
    refine (HA.out _).mono ?_; rintro e w1 ⟨rfl, hb⟩
    have HB1 := Lib.hid (bel_call HB.out hb)
    clear hb
    go_wp2_with fail
    go_ret
    exact ⟨rfl, HB1.out⟩
end Go.Proofs.Ytaikpgcmcmkdcaa

/-
  The reader that goes along a message: a name, a number.
-/
namespace Go.Proofs.Ytaikpgcmcmkdcaa
open Go.RowKit Go.Shelf
set_option linter.unusedVariables false
set_option linter.unusedSimpArgs false
set_option maxRecDepth 100000

/-- Where the next part begins, the first fault, its place. -/
structure RS where
  a : Int
  e : Int
  p : Int

/-- The reader's own cells. -/
structure Rdr (w : World) (r : Nat) (vb : Value) (s : RS) : Prop where
  c0 : w.cell? ⟨r, 0, none⟩ = some vb
  c1 : w.cell? ⟨r, 1, none⟩ = some (.int .i64 s.a)
  c2 : w.cell? ⟨r, 2, none⟩ = some (.int .i64 s.e)
  c3 : w.cell? ⟨r, 3, none⟩ = some (.int .i64 s.p)
  fz : ∀ j, w.frozen? ⟨r, j, none⟩ = false

/-- Cells of a block, none of them frozen. -/
structure Cel (w : World) (q : Nat) (l : List Value) : Prop where
  c : ∀ j (h : j < l.length), w.cell? ⟨q, j, none⟩ = some l[j]
  fz : ∀ j, w.frozen? ⟨q, j, none⟩ = false

def NextPost (w : World) (r q o : Nat) (vb : Value) (s : RS) (l : List Value) (x : Ending) (w' : World) : Prop :=
  x = .returned (.pointer (some ⟨r, 0, none⟩)) ∧ Rdr w' r vb s ∧ Cel w' q l ∧ Aside (fun b => b = r ∨ b = q) w w'

section
variable {w w' : World} {r q : Nat} {vb : Value} {s : RS} {l : List Value}
theorem Rdr.lt (h : Rdr w r vb s) : r < w.heap.size := World.block_lt_of_cell? w ⟨r, 0, none⟩ h.c0
theorem Rdr.aside {G : Nat → Prop} (h : Rdr w r vb s) (ha : Aside G w w') (hg : ¬ G r) : Rdr w' r vb s :=
  ⟨ha.cell_lt h.c0 hg, ha.cell_lt h.c1 hg, ha.cell_lt h.c2 hg, ha.cell_lt h.c3 hg, fun j => (ha.frozen (p := ⟨r, j, none⟩) h.lt hg).trans (h.fz j)⟩
theorem Rdr.below (h : Rdr w r vb s) (hb : Below w.heap.size w w') : Rdr w' r vb s := h.aside (G := fun _ => False) (Aside.of_all hb) (fun h => h)
theorem Cel.lt (h : Cel w q l) (h0 : 0 < l.length) : q < w.heap.size := World.block_lt_of_cell? w ⟨q, 0, none⟩ (h.c 0 h0)
theorem Cel.aside {G : Nat → Prop} (h : Cel w q l) (h0 : 0 < l.length) (ha : Aside G w w') (hg : ¬ G q) : Cel w' q l :=
  ⟨fun j hj => ha.cell_lt (h.c j hj) hg, fun j => (ha.frozen (p := ⟨q, j, none⟩) (h.lt h0) hg).trans (h.fz j)⟩
theorem Cel.below (h : Cel w q l) (h0 : 0 < l.length) (hb : Below w.heap.size w w') : Cel w' q l := h.aside (G := fun _ => False) h0 (Aside.of_all hb) (fun h => h)
theorem Cel.set (h : Cel w q l) {o : Nat} (ho : o < l.length) (v : Value) : Cel (w.setCell ⟨q, o, none⟩ v) q (l.set o v) := by
  refine ⟨fun j hj => ?_, fun j => by rw [World.frozen?_setCell]; exact h.fz j⟩
  rw [List.length_set] at hj
  by_cases hjo : o = j
  · subst hjo
    rw [List.getElem_set_self]
    exact World.cell?_setCell_same _ _ _ (h.c o ho)
  · rw [List.getElem_set_ne hjo, World.cell?_setCell_other _ _ _ _ (fun e => hjo (congrArg Addr.off e))]
    exact h.c j hj
theorem Cel.other (h : Cel w q l) {a : Addr} (ha : a.block ≠ q) (v : Value) : Cel (w.setCell a v) q l :=
  ⟨fun j hj => by rw [World.cell?_setCell_other _ _ _ _ (fun e => ha (congrArg Addr.block e))]; exact h.c j hj, fun j => by rw [World.frozen?_setCell]; exact h.fz j⟩
end

/-- A name is read. -/
def stN (b : List UInt8) (s : RS) : RS := if s.e ≠ 0 then s else ⟨(rda b s.a).2.1, (rda b s.a).2.2.1, (rda b s.a).2.2.2⟩
def vlN (b : List UInt8) (s : RS) (old : List UInt8) : List UInt8 := if s.e ≠ 0 then old else (rda b s.a).1

/-- A number of two bytes, of four. -/
def st2 (b : List UInt8) (s : RS) : RS := if s.e ≠ 0 then s else ⟨getF 2 b.length s.a (s.a + 2), getE 2 b.length s.a, getA 2 b.length s.a⟩
def vl2 (b : List UInt8) (s : RS) (old : Int) : Int := if s.e ≠ 0 then old else getF 2 b.length s.a (nAt2 (iz b) s.a.toNat)
def st4 (b : List UInt8) (s : RS) : RS := if s.e ≠ 0 then s else ⟨getF 4 b.length s.a (s.a + 4), getE 4 b.length s.a, getA 4 b.length s.a⟩
def vl4 (b : List UInt8) (s : RS) (old : Int) : Int := if s.e ≠ 0 then old else getF 4 b.length s.a (nAt4 (iz b) s.a.toNat)

/-- What came of one part is being stored: the cell, where the next part begins, the fault; in any order. -/
structure Half (w w2 : World) (r q o : Nat) (vb v old : Value) (l : List Value) (s t : RS) (f g h : Bool) : Prop where
  rd : Rdr w2 r vb ⟨if g = true then t.a else s.a, if h = true then t.e else s.e, if h = true then t.p else s.p⟩
  ce : Cel w2 q (if f = true then l.set o v else l)
  ho : o < l.length
  hne : r ≠ q
  has : Aside (fun b => b = r ∨ b = q) w w2
  old : w2.cell? ⟨q, o, none⟩ = some (if f = true then v else old)

section
variable {w w2 w3 : World} {r q o : Nat} {vb v old : Value} {l : List Value} {s t : RS} {f g h : Bool}
theorem Half.pos (H : Half w w2 r q o vb v old l s t f g h) : 0 < (if f = true then l.set o v else l).length := by
  have := H.ho
  split
  · rw [List.length_set]; omega
  · omega
theorem Half.later (H : Half w w2 r q o vb v old l s t f g h) (hb : Below w2.heap.size w2 w3) : Half w w3 r q o vb v old l s t f g h := by
  exact ⟨H.rd.below hb, H.ce.below H.pos hb, H.ho, H.hne, H.has.trans (Aside.of_all hb), cell_later hb H.old⟩
theorem Half.sq (H : Half w w2 r q o vb v old l s t false g h) : Half w (w2.setCell ⟨q, o, none⟩ v) r q o vb v old l s t true g h := by
  have hne := H.hne
  have hR := H.rd
  have hc : Cel w2 q l := H.ce
  refine ⟨⟨(World.cell?_setCell_other _ _ _ _ (fun e => hne (congrArg Addr.block e).symm)).trans hR.c0, (World.cell?_setCell_other _ _ _ _ (fun e => hne (congrArg Addr.block e).symm)).trans hR.c1, (World.cell?_setCell_other _ _ _ _ (fun e => hne (congrArg Addr.block e).symm)).trans hR.c2, (World.cell?_setCell_other _ _ _ _ (fun e => hne (congrArg Addr.block e).symm)).trans hR.c3, fun j => by rw [World.frozen?_setCell]; exact hR.fz j⟩, ?_, H.ho, hne, H.has.trans (Aside.setCell w2 (p := ⟨q, o, none⟩) v (.inr rfl)), ?_⟩
  · rw [if_pos rfl]; exact hc.set H.ho v
  · rw [if_pos rfl]; exact World.cell?_setCell_same _ _ _ H.old
theorem Half.rset (H : Half w w2 r q o vb v old l s t f g h) (j : Nat) (u : Value) : Cel (w2.setCell ⟨r, j, none⟩ u) q (if f = true then l.set o v else l) ∧ Aside (fun b => b = r ∨ b = q) w (w2.setCell ⟨r, j, none⟩ u) ∧ (w2.setCell ⟨r, j, none⟩ u).cell? ⟨q, o, none⟩ = some (if f = true then v else old) := by
  have hne := H.hne
  exact ⟨H.ce.other (a := ⟨r, j, none⟩) hne u, H.has.trans (Aside.setCell w2 (p := ⟨r, j, none⟩) u (.inl rfl)), (World.cell?_setCell_other _ _ _ _ (fun e => hne (congrArg Addr.block e))).trans H.old⟩
theorem Half.sa (H : Half w w2 r q o vb v old l s t f false h) : Half w (w2.setCell ⟨r, 1, none⟩ (.int .i64 t.a)) r q o vb v old l s t f true h := by
  obtain ⟨h1, h2, h3⟩ := H.rset 1 (.int .i64 t.a)
  have hR := H.rd
  exact ⟨⟨(World.cell?_setCell_other _ _ _ _ (by simp)).trans hR.c0, by rw [if_pos rfl]; exact World.cell?_setCell_same _ _ _ hR.c1, (World.cell?_setCell_other _ _ _ _ (by simp)).trans hR.c2, (World.cell?_setCell_other _ _ _ _ (by simp)).trans hR.c3, fun j => by rw [World.frozen?_setCell]; exact hR.fz j⟩, h1, H.ho, H.hne, h2, h3⟩
theorem Half.sf (H : Half w w2 r q o vb v old l s t f g false) : Half w ((w2.setCell ⟨r, 2, none⟩ (.int .i64 t.e)).setCell ⟨r, 3, none⟩ (.int .i64 t.p)) r q o vb v old l s t f g true := by
  obtain ⟨h1, h2, h3⟩ := H.rset 2 (.int .i64 t.e)
  have hR := H.rd
  have hne := H.hne
  refine ⟨⟨?_, ?_, ?_, ?_, fun j => by rw [World.frozen?_setCell, World.frozen?_setCell]; exact hR.fz j⟩, h1.other (a := ⟨r, 3, none⟩) hne _, H.ho, hne, h2.trans (Aside.setCell _ (p := ⟨r, 3, none⟩) _ (.inl rfl)), (World.cell?_setCell_other _ _ _ _ (fun e => hne (congrArg Addr.block e))).trans h3⟩
  · exact (World.cell?_setCell_other _ _ _ _ (by simp)).trans ((World.cell?_setCell_other _ _ _ _ (by simp)).trans hR.c0)
  · exact (World.cell?_setCell_other _ _ _ _ (by simp)).trans ((World.cell?_setCell_other _ _ _ _ (by simp)).trans hR.c1)
  · exact (World.cell?_setCell_other _ _ _ _ (by simp)).trans (by rw [if_pos rfl]; exact World.cell?_setCell_same _ _ _ hR.c2)
  · rw [if_pos rfl]; exact World.cell?_setCell_same _ _ _ ((World.cell?_setCell_other _ _ _ _ (by simp)).trans hR.c3)
end

theorem half_done {w w2 : World} {r q o : Nat} {vb v old : Value} {l : List Value} {s t : RS} (H : Half w w2 r q o vb v old l s t true true true) : NextPost w r q o vb t (l.set o v) (.returned (.pointer (some ⟨r, 0, none⟩))) w2 := by
  exact ⟨rfl, H.rd, H.ce, H.has⟩

theorem half_start {w : World} {r q o : Nat} {vb v old : Value} {l : List Value} {s t : RS} (hR : Rdr w r vb s) (hC : Cel w q l) (ho : o < l.length) (hne : r ≠ q) (hold : l[o]'ho = old) : Half w w.drew r q o vb v old l s t false false false :=
  (show Half w w r q o vb v old l s t false false false from ⟨hR, hC, ho, hne, Aside.refl _ _, by rw [if_neg (by simp)]; rw [← hold]; exact hC.c o ho⟩).later (Below.refl _ _).drew

set_option maxHeartbeats 8000000 in
theorem name_next {w : World} {r q o lo hi : Nat} {vb : Value} {s : RS} {l : List Value} {b : List UInt8} (hR : Rdr w r vb s) (hC : Cel w q l) (ho : o < l.length) (hne : r ≠ q) {old : List UInt8} (hold : l[o] = .string (bs old)) (hS : Sl w lo hi vb (iz b)) (hhi : hi ≤ w.heap.size) (hbl : b.length ≤ 1000000) :
    Calls Try.prog 69 #[.pointer (some ⟨r, 0, none⟩), .pointer (some ⟨q, o, none⟩), .func (.func 70) #[] #[]] w (NextPost w r q o vb (stN b s) (l.set o (.string (bs (vlN b s old))))) := by
  obtain ⟨a, e, p⟩ := s
  by_cases h0 : e = 0
  · subst h0
    have e1 : stN b ⟨a, 0, p⟩ = ⟨(rda b a).2.1, (rda b a).2.2.1, (rda b a).2.2.2⟩ := by unfold stN; rw [if_neg (by simp)]
    have e2 : vlN b ⟨a, 0, p⟩ old = (rda b a).1 := by unfold vlN; rw [if_neg (by simp)]
    rw [e1, e2]
    have hrd := fun wx (h : Below w.heap.size w wx) => read_any (w := wx) (hS.below h hhi) (Nat.le_trans hhi h.size) hbl a
    obtain ⟨R, hRd⟩ : ∃ R, rda b a = R := ⟨_, rfl⟩
    rw [hRd] at hrd ⊢
    clear hRd e1 e2
    obtain ⟨n, i, f, g⟩ := R
    unfold gotV at hrd
    simp only at hrd ⊢
    have HRd := Lib.hid hrd
    clear hrd
    have HH := Lib.hid (half_start (t := ⟨(i : Int), f, (g : Int)⟩) (v := .string (bs n)) hR hC ho hne hold)
    clear hR hC hold hS
    obtain ⟨c0, c1, c2, c3, fz⟩ := HH.out.rd
    simp only [if_true, if_false, Bool.false_eq_true] at c1 c2 c3
    have c2' : w.cell? ⟨r, 2, none⟩ = some (.int .i64 0) := c2
    have fz1 := fz 1
    have fz2 := fz 2
    have fz3 := fz 3
    have cq := HH.out.old
    have fq := HH.out.ce.fz o
    clear fz
    go_enter Try.func69, Try.ntmps69
    go_wp2_with fail
    refine wp_region_held_drew (S := (fun wx => wx.cell? ⟨r, 0, none⟩ = some vb)) (by kernel_rfl) HH.out.rd.c0 (fun hHeld => ?_)
    refine wpAnyH_take (i := 0) (v := ?_) rfl (by kernel_rfl) (by kernel_rfl) (by kernel_rfl) (fun _ _ _ h => h) (Or.inl ⟨by rfl, ?_⟩) (by assumption) ?_
    rotate_left 1
    · intro w hSw; (try dsimp only at hSw); go_simp; try (with_reducible rfl)
    try simp only [Act.put, List.setIfInBounds_toArray, List.set_cons_zero, List.set_cons_succ]
    refine wpAnyH_take (i := 1) (v := ?_) rfl (by kernel_rfl) (by kernel_rfl) (by kernel_rfl) (fun _ _ _ h => h) (Or.inl ⟨by rfl, ?_⟩) (by assumption) ?_
    rotate_left 1
    · intro w hSw; (try dsimp only at hSw); go_simp; try (with_reducible rfl)
    try simp only [Act.put, List.setIfInBounds_toArray, List.set_cons_zero, List.set_cons_succ]
    refine wpAnyH_take (i := 2) (v := ?_) rfl (by kernel_rfl) (by kernel_rfl) (by kernel_rfl) (fun _ _ _ h => h) (Or.inl ⟨by rfl, ?_⟩) (by assumption) ?_
    rotate_left 1
    · intro w hSw; (try dsimp only at hSw); go_simp; try (with_reducible rfl)
    try simp only [Act.put, List.setIfInBounds_toArray, List.set_cons_zero, List.set_cons_succ]
    refine wpAnyH_take (i := 3) (v := ?_) rfl (by kernel_rfl) (by kernel_rfl) (by kernel_rfl) (fun _ _ _ h => h) (Or.inl ⟨by rfl, ?_⟩) (by assumption) ?_
    rotate_left 1
    · intro w hSw; (try dsimp only at hSw); go_simp; try (with_reducible rfl)
    try simp only [Act.put, List.setIfInBounds_toArray, List.set_cons_zero, List.set_cons_succ]
    refine wpAnyH_take (i := 4) (v := ?_) rfl (by kernel_rfl) (by kernel_rfl) (by kernel_rfl) (fun _ _ _ h => h) (Or.inl ⟨by rfl, ?_⟩) (by assumption) ?_
    rotate_left 1
    · intro w hSw; (try dsimp only at hSw); go_simp; try (with_reducible rfl)
    try simp only [Act.put, List.setIfInBounds_toArray, List.set_cons_zero, List.set_cons_succ]
    refine wpAnyH_take (i := 5) (v := ?_) rfl (by kernel_rfl) (by kernel_rfl) (by kernel_rfl) (fun _ _ _ h => h) (Or.inl ⟨by rfl, ?_⟩) (by assumption) ?_
    rotate_left 1
    · intro w hSw; (try dsimp only at hSw); go_simp; try (with_reducible rfl)
    try simp only [Act.put, List.setIfInBounds_toArray, List.set_cons_zero, List.set_cons_succ]
    refine wpAnyH_take (i := 6) (v := ?_) rfl (by kernel_rfl) (by kernel_rfl) (by kernel_rfl) (fun _ _ _ h => h) (Or.inl ⟨by rfl, ?_⟩) (by assumption) ?_
    rotate_left 1
    · intro w hSw; (try dsimp only at hSw); go_simp; try (with_reducible rfl)
    try simp only [Act.put, List.setIfInBounds_toArray, List.set_cons_zero, List.set_cons_succ]
    refine wpAnyH_take (i := 7) (v := ?_) rfl (by kernel_rfl) (by kernel_rfl) (by kernel_rfl) (fun _ _ _ h => h) (Or.inl ⟨by rfl, ?_⟩) (by assumption) ?_
    rotate_left 1
    · intro w hSw; (try dsimp only at hSw); go_simp; try (with_reducible rfl)
    try simp only [Act.put, List.setIfInBounds_toArray, List.set_cons_zero, List.set_cons_succ]
    refine wpAnyH_take (i := 8) (v := ?_) rfl (by kernel_rfl) (by kernel_rfl) (by kernel_rfl) (fun _ _ _ h => h) (Or.inl ⟨by rfl, ?_⟩) (by assumption) ?_
    rotate_left 1
    · intro w hSw; (try dsimp only at hSw); go_simp; try (with_reducible rfl)
    try simp only [Act.put, List.setIfInBounds_toArray, List.set_cons_zero, List.set_cons_succ]
    refine wpAnyH_take (i := 9) (v := ?_) rfl (by kernel_rfl) (by kernel_rfl) (by kernel_rfl) (fun _ _ _ h => h) (Or.inl ⟨by rfl, ?_⟩) (by assumption) ?_
    rotate_left 1
    · intro w hSw; (try dsimp only at hSw); go_simp; try (with_reducible rfl)
    try simp only [Act.put, List.setIfInBounds_toArray, List.set_cons_zero, List.set_cons_succ]
    refine wpAnyH_take (i := 10) (v := ?_) rfl (by kernel_rfl) (by kernel_rfl) (by kernel_rfl) (fun _ _ _ h => h) (Or.inl ⟨by rfl, ?_⟩) (by assumption) ?_
    rotate_left 1
    · intro w hSw; (try dsimp only at hSw); go_simp; try (with_reducible rfl)
    try simp only [Act.put, List.setIfInBounds_toArray, List.set_cons_zero, List.set_cons_succ]
    refine wpAnyH_ready (rs := [11]) (by kernel_rfl) (by simp) ?_
    refine AllReadyH.cons rfl (fun K hK => ?_) AllReadyH.nil
    go_simp
    refine hK.out _ _ HH.out.rd.c0 (fun hHeld => ?_)
    clear hK K
    try simp only [Act.put, List.setIfInBounds_toArray, List.set_cons_zero, List.set_cons_succ]
    refine wpAnyH_ready (rs := [12]) (by kernel_rfl) (by simp) ?_
    refine AllReadyH.cons rfl (fun K hK => ?_) AllReadyH.nil
    go_simp
    refine (HRd.out _ ((Below.refl _ w).drew)).mono ?_; rintro en w1 ⟨rfl, hb1⟩
    replace HH := Lib.hid (HH.out.later hb1)
    clear hb1
    try go_wp2_with fail
    refine hK.out _ _ HH.out.rd.c0 (fun hHeld => ?_)
    clear hK K
    try simp only [Act.put, List.setIfInBounds_toArray, List.set_cons_zero, List.set_cons_succ]
    clear c0 c1 c2 c3 cq fq fz1 fz2 fz3
    obtain ⟨c0, c1, c2, c3, fz⟩ := HH.out.rd
    simp only [if_true, if_false, Bool.false_eq_true] at c1 c2 c3
    have fz1 := fz 1
    have fz2 := fz 2
    have fz3 := fz 3
    have cq := HH.out.old
    have fq := HH.out.ce.fz o
    clear fz
    refine wpAnyH_take (i := 13) (v := ?_) rfl (by kernel_rfl) (by kernel_rfl) (by kernel_rfl) (fun _ _ _ h => h) (Or.inl ⟨by rfl, ?_⟩) (by assumption) ?_
    rotate_left 1
    · intro w hSw; (try dsimp only at hSw); go_simp; try (with_reducible rfl)
    try simp only [Act.put, List.setIfInBounds_toArray, List.set_cons_zero, List.set_cons_succ]
    refine wpAnyH_take (i := 14) (v := ?_) rfl (by kernel_rfl) (by kernel_rfl) (by kernel_rfl) (fun _ _ _ h => h) (Or.inl ⟨by rfl, ?_⟩) (by assumption) ?_
    rotate_left 1
    · intro w hSw; (try dsimp only at hSw); go_simp; try (with_reducible rfl)
    try simp only [Act.put, List.setIfInBounds_toArray, List.set_cons_zero, List.set_cons_succ]
    refine wpAnyH_take (i := 15) (v := ?_) rfl (by kernel_rfl) (by kernel_rfl) (by kernel_rfl) (fun _ _ _ h => h) (Or.inl ⟨by rfl, ?_⟩) (by assumption) ?_
    rotate_left 1
    · intro w hSw; (try dsimp only at hSw); go_simp; try (with_reducible rfl)
    try simp only [Act.put, List.setIfInBounds_toArray, List.set_cons_zero, List.set_cons_succ]
    refine wpAnyH_take (i := 16) (v := ?_) rfl (by kernel_rfl) (by kernel_rfl) (by kernel_rfl) (fun _ _ _ h => h) (Or.inl ⟨by rfl, ?_⟩) (by assumption) ?_
    rotate_left 1
    · intro w hSw; (try dsimp only at hSw); go_simp; try (with_reducible rfl)
    try simp only [Act.put, List.setIfInBounds_toArray, List.set_cons_zero, List.set_cons_succ]
    refine wpAnyH_take (i := 17) (v := ?_) rfl (by kernel_rfl) (by kernel_rfl) (by kernel_rfl) (fun _ _ _ h => h) (Or.inl ⟨by rfl, ?_⟩) (by assumption) ?_
    rotate_left 1
    · intro w hSw; (try dsimp only at hSw); go_simp; try (with_reducible rfl)
    try simp only [Act.put, List.setIfInBounds_toArray, List.set_cons_zero, List.set_cons_succ]
    refine wpAnyH_ready (rs := [18]) (by kernel_rfl) (by simp) ?_
    refine AllReadyH.cons rfl (fun K hK => ?_) AllReadyH.nil
    go_simp
    replace HH := Lib.hid HH.out.sq
    refine hK.out _ _ HH.out.rd.c0 (fun hHeld => ?_)
    clear hK K
    try simp only [Act.put, List.setIfInBounds_toArray, List.set_cons_zero, List.set_cons_succ]
    clear c0 c1 c2 c3 cq fq fz1 fz2 fz3
    obtain ⟨c0, c1, c2, c3, fz⟩ := HH.out.rd
    simp only [if_true, if_false, Bool.false_eq_true] at c1 c2 c3
    have fz1 := fz 1
    have fz2 := fz 2
    have fz3 := fz 3
    have cq := HH.out.old
    have fq := HH.out.ce.fz o
    clear fz
    refine wpAnyH_take (i := 19) (v := ?_) rfl (by kernel_rfl) (by kernel_rfl) (by kernel_rfl) (fun _ _ _ h => h) (Or.inl ⟨by rfl, ?_⟩) (by assumption) ?_
    rotate_left 1
    · intro w hSw; (try dsimp only at hSw); go_simp; try (with_reducible rfl)
    try simp only [Act.put, List.setIfInBounds_toArray, List.set_cons_zero, List.set_cons_succ]
    refine wpAnyH_take (i := 20) (v := ?_) rfl (by kernel_rfl) (by kernel_rfl) (by kernel_rfl) (fun _ _ _ h => h) (Or.inl ⟨by rfl, ?_⟩) (by assumption) ?_
    rotate_left 1
    · intro w hSw; (try dsimp only at hSw); go_simp; try (with_reducible rfl)
    try simp only [Act.put, List.setIfInBounds_toArray, List.set_cons_zero, List.set_cons_succ]
    refine wpAnyH_ready (rs := [21]) (by kernel_rfl) (by simp) ?_
    refine AllReadyH.cons rfl (fun K hK => ?_) AllReadyH.nil
    go_simp
    replace HH := Lib.hid HH.out.sa
    refine hK.out _ _ HH.out.rd.c0 (fun hHeld => ?_)
    clear hK K
    try simp only [Act.put, List.setIfInBounds_toArray, List.set_cons_zero, List.set_cons_succ]
    clear c0 c1 c2 c3 cq fq fz1 fz2 fz3
    obtain ⟨c0, c1, c2, c3, fz⟩ := HH.out.rd
    simp only [if_true, if_false, Bool.false_eq_true] at c1 c2 c3
    have fz1 := fz 1
    have fz2 := fz 2
    have fz3 := fz 3
    have cq := HH.out.old
    have fq := HH.out.ce.fz o
    clear fz
    refine wpAnyH_take (i := 22) (v := ?_) rfl (by kernel_rfl) (by kernel_rfl) (by kernel_rfl) (fun _ _ _ h => h) (Or.inl ⟨by rfl, ?_⟩) (by assumption) ?_
    rotate_left 1
    · intro w hSw; (try dsimp only at hSw); go_simp; try (with_reducible rfl)
    try simp only [Act.put, List.setIfInBounds_toArray, List.set_cons_zero, List.set_cons_succ]
    refine wpAnyH_take (i := 23) (v := ?_) rfl (by kernel_rfl) (by kernel_rfl) (by kernel_rfl) (fun _ _ _ h => h) (Or.inl ⟨by rfl, ?_⟩) (by assumption) ?_
    rotate_left 1
    · intro w hSw; (try dsimp only at hSw); go_simp; try (with_reducible rfl)
    try simp only [Act.put, List.setIfInBounds_toArray, List.set_cons_zero, List.set_cons_succ]
    refine wpAnyH_ready (rs := [24]) (by kernel_rfl) (by simp) ?_
    refine AllReadyH.cons rfl (fun K hK => ?_) AllReadyH.nil
    go_simp
    replace HH := Lib.hid HH.out.sf
    refine hK.out _ _ HH.out.rd.c0 (fun hHeld => ?_)
    clear hK K
    try simp only [Act.put, List.setIfInBounds_toArray, List.set_cons_zero, List.set_cons_succ]
    clear c0 c1 c2 c3 cq fq fz1 fz2 fz3
    obtain ⟨c0, c1, c2, c3, fz⟩ := HH.out.rd
    simp only [if_true, if_false, Bool.false_eq_true] at c1 c2 c3
    have fz1 := fz 1
    have fz2 := fz 2
    have fz3 := fz 3
    have cq := HH.out.old
    have fq := HH.out.ce.fz o
    clear fz
    refine wpAnyH_done (by kernel_rfl) ?_ _
    clear hHeld
    go_wp2_with fail
    go_ret
    exact half_done HH.out


  · have tE : (e == 0) = false := by simpa using h0
    have e1 : stN b ⟨a, e, p⟩ = ⟨a, e, p⟩ := by unfold stN; rw [if_pos h0]
    have e2 : (.string (bs (vlN b ⟨a, e, p⟩ old))) = l[o] := by rw [hold]; unfold vlN; rw [if_pos h0]
    rw [e1, e2, List.set_getElem_self]
    have HR := Lib.hid hR
    have HC := Lib.hid hC
    have c2 := hR.c2
    clear hR hC e1 e2 hS hold
    go_enter Try.func69, Try.ntmps69
    go_wp2_with fail
    go_ret
    exact ⟨rfl, HR.out, HC.out, Aside.refl _ _⟩

set_option maxHeartbeats 8000000 in
theorem two_next {w : World} {r q o lo hi : Nat} {vb : Value} {s : RS} {l : List Value} {b : List UInt8} (hR : Rdr w r vb s) (hC : Cel w q l) (ho : o < l.length) (hne : r ≠ q) {old : Int} (hold : l[o] = .int .i64 old) (hS : Sl w lo hi vb (iz b)) (hhi : hi ≤ w.heap.size) (hbl : b.length ≤ 1000000) :
    Calls Try.prog 71 #[.pointer (some ⟨r, 0, none⟩), .pointer (some ⟨q, o, none⟩), .func (.func 72) #[] #[]] w (NextPost w r q o vb (st2 b s) (l.set o (.int .i64 (vl2 b s old)))) := by
  obtain ⟨a, e, p⟩ := s
  by_cases h0 : e = 0
  · subst h0
    have e1 : st2 b ⟨a, 0, p⟩ = ⟨getF 2 b.length a (a + 2), getE 2 b.length a, getA 2 b.length a⟩ := by unfold st2; rw [if_neg (by simp)]
    have e2 : vl2 b ⟨a, 0, p⟩ old = getF 2 b.length a (nAt2 (iz b) a.toNat) := by unfold vl2; rw [if_neg (by simp)]
    rw [e1, e2]
    have hrd := fun wx (h : Below w.heap.size w wx) => get16_any (w := wx) (hS.below h hhi) (iz_byte b) (by rw [iz_len]; exact hbl) (Nat.le_trans hhi h.size) a
    rw [iz_len] at hrd
    unfold GetPost at hrd
    obtain ⟨n, hn⟩ : ∃ n, getF 2 b.length a (nAt2 (iz b) a.toNat) = n := ⟨_, rfl⟩
    obtain ⟨i, hi2⟩ : ∃ i, getF 2 b.length a (a + 2) = i := ⟨_, rfl⟩
    obtain ⟨f, hf⟩ : ∃ f, getE 2 b.length a = f := ⟨_, rfl⟩
    obtain ⟨g, hg⟩ : ∃ g, getA 2 b.length a = g := ⟨_, rfl⟩
    rw [hn, hi2, hf, hg] at hrd
    rw [hn, hi2, hf, hg]
    clear hn hi2 hf hg e1 e2
    have HRd := Lib.hid hrd
    clear hrd
    have HH := Lib.hid (half_start (t := ⟨i, f, g⟩) (v := .int .i64 n) hR hC ho hne hold)
    clear hR hC hold hS
    obtain ⟨c0, c1, c2, c3, fz⟩ := HH.out.rd
    simp only [if_true, if_false, Bool.false_eq_true] at c1 c2 c3
    have c2' : w.cell? ⟨r, 2, none⟩ = some (.int .i64 0) := c2
    have fz1 := fz 1
    have fz2 := fz 2
    have fz3 := fz 3
    have cq := HH.out.old
    have fq := HH.out.ce.fz o
    clear fz
    go_enter Try.func71, Try.ntmps71
    go_wp2_with fail
    refine wp_region_held_drew (S := (fun wx => wx.cell? ⟨r, 0, none⟩ = some vb)) (by kernel_rfl) HH.out.rd.c0 (fun hHeld => ?_)
    refine wpAnyH_take (i := 0) (v := ?_) rfl (by kernel_rfl) (by kernel_rfl) (by kernel_rfl) (fun _ _ _ h => h) (Or.inl ⟨by rfl, ?_⟩) (by assumption) ?_
    rotate_left 1
    · intro w hSw; (try dsimp only at hSw); go_simp; try (with_reducible rfl)
    try simp only [Act.put, List.setIfInBounds_toArray, List.set_cons_zero, List.set_cons_succ]
    refine wpAnyH_take (i := 1) (v := ?_) rfl (by kernel_rfl) (by kernel_rfl) (by kernel_rfl) (fun _ _ _ h => h) (Or.inl ⟨by rfl, ?_⟩) (by assumption) ?_
    rotate_left 1
    · intro w hSw; (try dsimp only at hSw); go_simp; try (with_reducible rfl)
    try simp only [Act.put, List.setIfInBounds_toArray, List.set_cons_zero, List.set_cons_succ]
    refine wpAnyH_take (i := 2) (v := ?_) rfl (by kernel_rfl) (by kernel_rfl) (by kernel_rfl) (fun _ _ _ h => h) (Or.inl ⟨by rfl, ?_⟩) (by assumption) ?_
    rotate_left 1
    · intro w hSw; (try dsimp only at hSw); go_simp; try (with_reducible rfl)
    try simp only [Act.put, List.setIfInBounds_toArray, List.set_cons_zero, List.set_cons_succ]
    refine wpAnyH_take (i := 3) (v := ?_) rfl (by kernel_rfl) (by kernel_rfl) (by kernel_rfl) (fun _ _ _ h => h) (Or.inl ⟨by rfl, ?_⟩) (by assumption) ?_
    rotate_left 1
    · intro w hSw; (try dsimp only at hSw); go_simp; try (with_reducible rfl)
    try simp only [Act.put, List.setIfInBounds_toArray, List.set_cons_zero, List.set_cons_succ]
    refine wpAnyH_take (i := 4) (v := ?_) rfl (by kernel_rfl) (by kernel_rfl) (by kernel_rfl) (fun _ _ _ h => h) (Or.inl ⟨by rfl, ?_⟩) (by assumption) ?_
    rotate_left 1
    · intro w hSw; (try dsimp only at hSw); go_simp; try (with_reducible rfl)
    try simp only [Act.put, List.setIfInBounds_toArray, List.set_cons_zero, List.set_cons_succ]
    refine wpAnyH_take (i := 5) (v := ?_) rfl (by kernel_rfl) (by kernel_rfl) (by kernel_rfl) (fun _ _ _ h => h) (Or.inl ⟨by rfl, ?_⟩) (by assumption) ?_
    rotate_left 1
    · intro w hSw; (try dsimp only at hSw); go_simp; try (with_reducible rfl)
    try simp only [Act.put, List.setIfInBounds_toArray, List.set_cons_zero, List.set_cons_succ]
    refine wpAnyH_take (i := 6) (v := ?_) rfl (by kernel_rfl) (by kernel_rfl) (by kernel_rfl) (fun _ _ _ h => h) (Or.inl ⟨by rfl, ?_⟩) (by assumption) ?_
    rotate_left 1
    · intro w hSw; (try dsimp only at hSw); go_simp; try (with_reducible rfl)
    try simp only [Act.put, List.setIfInBounds_toArray, List.set_cons_zero, List.set_cons_succ]
    refine wpAnyH_take (i := 7) (v := ?_) rfl (by kernel_rfl) (by kernel_rfl) (by kernel_rfl) (fun _ _ _ h => h) (Or.inl ⟨by rfl, ?_⟩) (by assumption) ?_
    rotate_left 1
    · intro w hSw; (try dsimp only at hSw); go_simp; try (with_reducible rfl)
    try simp only [Act.put, List.setIfInBounds_toArray, List.set_cons_zero, List.set_cons_succ]
    refine wpAnyH_take (i := 8) (v := ?_) rfl (by kernel_rfl) (by kernel_rfl) (by kernel_rfl) (fun _ _ _ h => h) (Or.inl ⟨by rfl, ?_⟩) (by assumption) ?_
    rotate_left 1
    · intro w hSw; (try dsimp only at hSw); go_simp; try (with_reducible rfl)
    try simp only [Act.put, List.setIfInBounds_toArray, List.set_cons_zero, List.set_cons_succ]
    refine wpAnyH_take (i := 9) (v := ?_) rfl (by kernel_rfl) (by kernel_rfl) (by kernel_rfl) (fun _ _ _ h => h) (Or.inl ⟨by rfl, ?_⟩) (by assumption) ?_
    rotate_left 1
    · intro w hSw; (try dsimp only at hSw); go_simp; try (with_reducible rfl)
    try simp only [Act.put, List.setIfInBounds_toArray, List.set_cons_zero, List.set_cons_succ]
    refine wpAnyH_take (i := 10) (v := ?_) rfl (by kernel_rfl) (by kernel_rfl) (by kernel_rfl) (fun _ _ _ h => h) (Or.inl ⟨by rfl, ?_⟩) (by assumption) ?_
    rotate_left 1
    · intro w hSw; (try dsimp only at hSw); go_simp; try (with_reducible rfl)
    try simp only [Act.put, List.setIfInBounds_toArray, List.set_cons_zero, List.set_cons_succ]
    refine wpAnyH_ready (rs := [11]) (by kernel_rfl) (by simp) ?_
    refine AllReadyH.cons rfl (fun K hK => ?_) AllReadyH.nil
    go_simp
    refine hK.out _ _ HH.out.rd.c0 (fun hHeld => ?_)
    clear hK K
    try simp only [Act.put, List.setIfInBounds_toArray, List.set_cons_zero, List.set_cons_succ]
    refine wpAnyH_ready (rs := [12]) (by kernel_rfl) (by simp) ?_
    refine AllReadyH.cons rfl (fun K hK => ?_) AllReadyH.nil
    go_simp
    refine (HRd.out _ ((Below.refl _ w).drew)).mono ?_; rintro en w1 ⟨rfl, hb1⟩
    replace HH := Lib.hid (HH.out.later hb1)
    clear hb1
    try go_wp2_with fail
    refine hK.out _ _ HH.out.rd.c0 (fun hHeld => ?_)
    clear hK K
    try simp only [Act.put, List.setIfInBounds_toArray, List.set_cons_zero, List.set_cons_succ]
    clear c0 c1 c2 c3 cq fq fz1 fz2 fz3
    obtain ⟨c0, c1, c2, c3, fz⟩ := HH.out.rd
    simp only [if_true, if_false, Bool.false_eq_true] at c1 c2 c3
    have fz1 := fz 1
    have fz2 := fz 2
    have fz3 := fz 3
    have cq := HH.out.old
    have fq := HH.out.ce.fz o
    clear fz
    refine wpAnyH_take (i := 13) (v := ?_) rfl (by kernel_rfl) (by kernel_rfl) (by kernel_rfl) (fun _ _ _ h => h) (Or.inl ⟨by rfl, ?_⟩) (by assumption) ?_
    rotate_left 1
    · intro w hSw; (try dsimp only at hSw); go_simp; try (with_reducible rfl)
    try simp only [Act.put, List.setIfInBounds_toArray, List.set_cons_zero, List.set_cons_succ]
    refine wpAnyH_take (i := 14) (v := ?_) rfl (by kernel_rfl) (by kernel_rfl) (by kernel_rfl) (fun _ _ _ h => h) (Or.inl ⟨by rfl, ?_⟩) (by assumption) ?_
    rotate_left 1
    · intro w hSw; (try dsimp only at hSw); go_simp; try (with_reducible rfl)
    try simp only [Act.put, List.setIfInBounds_toArray, List.set_cons_zero, List.set_cons_succ]
    refine wpAnyH_take (i := 15) (v := ?_) rfl (by kernel_rfl) (by kernel_rfl) (by kernel_rfl) (fun _ _ _ h => h) (Or.inl ⟨by rfl, ?_⟩) (by assumption) ?_
    rotate_left 1
    · intro w hSw; (try dsimp only at hSw); go_simp; try (with_reducible rfl)
    try simp only [Act.put, List.setIfInBounds_toArray, List.set_cons_zero, List.set_cons_succ]
    refine wpAnyH_take (i := 16) (v := ?_) rfl (by kernel_rfl) (by kernel_rfl) (by kernel_rfl) (fun _ _ _ h => h) (Or.inl ⟨by rfl, ?_⟩) (by assumption) ?_
    rotate_left 1
    · intro w hSw; (try dsimp only at hSw); go_simp; try (with_reducible rfl)
    try simp only [Act.put, List.setIfInBounds_toArray, List.set_cons_zero, List.set_cons_succ]
    refine wpAnyH_take (i := 17) (v := ?_) rfl (by kernel_rfl) (by kernel_rfl) (by kernel_rfl) (fun _ _ _ h => h) (Or.inl ⟨by rfl, ?_⟩) (by assumption) ?_
    rotate_left 1
    · intro w hSw; (try dsimp only at hSw); go_simp; try (with_reducible rfl)
    try simp only [Act.put, List.setIfInBounds_toArray, List.set_cons_zero, List.set_cons_succ]
    refine wpAnyH_ready (rs := [18]) (by kernel_rfl) (by simp) ?_
    refine AllReadyH.cons rfl (fun K hK => ?_) AllReadyH.nil
    go_simp
    replace HH := Lib.hid HH.out.sq
    refine hK.out _ _ HH.out.rd.c0 (fun hHeld => ?_)
    clear hK K
    try simp only [Act.put, List.setIfInBounds_toArray, List.set_cons_zero, List.set_cons_succ]
    clear c0 c1 c2 c3 cq fq fz1 fz2 fz3
    obtain ⟨c0, c1, c2, c3, fz⟩ := HH.out.rd
    simp only [if_true, if_false, Bool.false_eq_true] at c1 c2 c3
    have fz1 := fz 1
    have fz2 := fz 2
    have fz3 := fz 3
    have cq := HH.out.old
    have fq := HH.out.ce.fz o
    clear fz
    refine wpAnyH_take (i := 19) (v := ?_) rfl (by kernel_rfl) (by kernel_rfl) (by kernel_rfl) (fun _ _ _ h => h) (Or.inl ⟨by rfl, ?_⟩) (by assumption) ?_
    rotate_left 1
    · intro w hSw; (try dsimp only at hSw); go_simp; try (with_reducible rfl)
    try simp only [Act.put, List.setIfInBounds_toArray, List.set_cons_zero, List.set_cons_succ]
    refine wpAnyH_take (i := 20) (v := ?_) rfl (by kernel_rfl) (by kernel_rfl) (by kernel_rfl) (fun _ _ _ h => h) (Or.inl ⟨by rfl, ?_⟩) (by assumption) ?_
    rotate_left 1
    · intro w hSw; (try dsimp only at hSw); go_simp; try (with_reducible rfl)
    try simp only [Act.put, List.setIfInBounds_toArray, List.set_cons_zero, List.set_cons_succ]
    refine wpAnyH_ready (rs := [21]) (by kernel_rfl) (by simp) ?_
    refine AllReadyH.cons rfl (fun K hK => ?_) AllReadyH.nil
    go_simp
    replace HH := Lib.hid HH.out.sa
    refine hK.out _ _ HH.out.rd.c0 (fun hHeld => ?_)
    clear hK K
    try simp only [Act.put, List.setIfInBounds_toArray, List.set_cons_zero, List.set_cons_succ]
    clear c0 c1 c2 c3 cq fq fz1 fz2 fz3
    obtain ⟨c0, c1, c2, c3, fz⟩ := HH.out.rd
    simp only [if_true, if_false, Bool.false_eq_true] at c1 c2 c3
    have fz1 := fz 1
    have fz2 := fz 2
    have fz3 := fz 3
    have cq := HH.out.old
    have fq := HH.out.ce.fz o
    clear fz
    refine wpAnyH_take (i := 22) (v := ?_) rfl (by kernel_rfl) (by kernel_rfl) (by kernel_rfl) (fun _ _ _ h => h) (Or.inl ⟨by rfl, ?_⟩) (by assumption) ?_
    rotate_left 1
    · intro w hSw; (try dsimp only at hSw); go_simp; try (with_reducible rfl)
    try simp only [Act.put, List.setIfInBounds_toArray, List.set_cons_zero, List.set_cons_succ]
    refine wpAnyH_take (i := 23) (v := ?_) rfl (by kernel_rfl) (by kernel_rfl) (by kernel_rfl) (fun _ _ _ h => h) (Or.inl ⟨by rfl, ?_⟩) (by assumption) ?_
    rotate_left 1
    · intro w hSw; (try dsimp only at hSw); go_simp; try (with_reducible rfl)
    try simp only [Act.put, List.setIfInBounds_toArray, List.set_cons_zero, List.set_cons_succ]
    refine wpAnyH_ready (rs := [24]) (by kernel_rfl) (by simp) ?_
    refine AllReadyH.cons rfl (fun K hK => ?_) AllReadyH.nil
    go_simp
    replace HH := Lib.hid HH.out.sf
    refine hK.out _ _ HH.out.rd.c0 (fun hHeld => ?_)
    clear hK K
    try simp only [Act.put, List.setIfInBounds_toArray, List.set_cons_zero, List.set_cons_succ]
    clear c0 c1 c2 c3 cq fq fz1 fz2 fz3
    obtain ⟨c0, c1, c2, c3, fz⟩ := HH.out.rd
    simp only [if_true, if_false, Bool.false_eq_true] at c1 c2 c3
    have fz1 := fz 1
    have fz2 := fz 2
    have fz3 := fz 3
    have cq := HH.out.old
    have fq := HH.out.ce.fz o
    clear fz
    refine wpAnyH_done (by kernel_rfl) ?_ _
    clear hHeld
    go_wp2_with fail
    go_ret
    exact half_done HH.out


  · have tE : (e == 0) = false := by simpa using h0
    have e1 : st2 b ⟨a, e, p⟩ = ⟨a, e, p⟩ := by unfold st2; rw [if_pos h0]
    have e2 : (.int .i64 (vl2 b ⟨a, e, p⟩ old)) = l[o] := by rw [hold]; unfold vl2; rw [if_pos h0]
    rw [e1, e2, List.set_getElem_self]
    have HR := Lib.hid hR
    have HC := Lib.hid hC
    have c2 := hR.c2
    clear hR hC e1 e2 hS hold
    go_enter Try.func71, Try.ntmps71
    go_wp2_with fail
    go_ret
    exact ⟨rfl, HR.out, HC.out, Aside.refl _ _⟩

set_option maxHeartbeats 8000000 in
theorem four_next {w : World} {r q o lo hi : Nat} {vb : Value} {s : RS} {l : List Value} {b : List UInt8} (hR : Rdr w r vb s) (hC : Cel w q l) (ho : o < l.length) (hne : r ≠ q) {old : Int} (hold : l[o] = .int .i64 old) (hS : Sl w lo hi vb (iz b)) (hhi : hi ≤ w.heap.size) (hbl : b.length ≤ 1000000) :
    Calls Try.prog 71 #[.pointer (some ⟨r, 0, none⟩), .pointer (some ⟨q, o, none⟩), .func (.func 73) #[] #[]] w (NextPost w r q o vb (st4 b s) (l.set o (.int .i64 (vl4 b s old)))) := by
  obtain ⟨a, e, p⟩ := s
  by_cases h0 : e = 0
  · subst h0
    have e1 : st4 b ⟨a, 0, p⟩ = ⟨getF 4 b.length a (a + 4), getE 4 b.length a, getA 4 b.length a⟩ := by unfold st4; rw [if_neg (by simp)]
    have e2 : vl4 b ⟨a, 0, p⟩ old = getF 4 b.length a (nAt4 (iz b) a.toNat) := by unfold vl4; rw [if_neg (by simp)]
    rw [e1, e2]
    have hrd := fun wx (h : Below w.heap.size w wx) => get32_any (w := wx) (hS.below h hhi) (iz_byte b) (by rw [iz_len]; exact hbl) (Nat.le_trans hhi h.size) a
    rw [iz_len] at hrd
    unfold GetPost at hrd
    obtain ⟨n, hn⟩ : ∃ n, getF 4 b.length a (nAt4 (iz b) a.toNat) = n := ⟨_, rfl⟩
    obtain ⟨i, hi2⟩ : ∃ i, getF 4 b.length a (a + 4) = i := ⟨_, rfl⟩
    obtain ⟨f, hf⟩ : ∃ f, getE 4 b.length a = f := ⟨_, rfl⟩
    obtain ⟨g, hg⟩ : ∃ g, getA 4 b.length a = g := ⟨_, rfl⟩
    rw [hn, hi2, hf, hg] at hrd
    rw [hn, hi2, hf, hg]
    clear hn hi2 hf hg e1 e2
    have HRd := Lib.hid hrd
    clear hrd
    have HH := Lib.hid (half_start (t := ⟨i, f, g⟩) (v := .int .i64 n) hR hC ho hne hold)
    clear hR hC hold hS
    obtain ⟨c0, c1, c2, c3, fz⟩ := HH.out.rd
    simp only [if_true, if_false, Bool.false_eq_true] at c1 c2 c3
    have c2' : w.cell? ⟨r, 2, none⟩ = some (.int .i64 0) := c2
    have fz1 := fz 1
    have fz2 := fz 2
    have fz3 := fz 3
    have cq := HH.out.old
    have fq := HH.out.ce.fz o
    clear fz
    go_enter Try.func71, Try.ntmps71
    go_wp2_with fail
    refine wp_region_held_drew (S := (fun wx => wx.cell? ⟨r, 0, none⟩ = some vb)) (by kernel_rfl) HH.out.rd.c0 (fun hHeld => ?_)
    refine wpAnyH_take (i := 0) (v := ?_) rfl (by kernel_rfl) (by kernel_rfl) (by kernel_rfl) (fun _ _ _ h => h) (Or.inl ⟨by rfl, ?_⟩) (by assumption) ?_
    rotate_left 1
    · intro w hSw; (try dsimp only at hSw); go_simp; try (with_reducible rfl)
    try simp only [Act.put, List.setIfInBounds_toArray, List.set_cons_zero, List.set_cons_succ]
    refine wpAnyH_take (i := 1) (v := ?_) rfl (by kernel_rfl) (by kernel_rfl) (by kernel_rfl) (fun _ _ _ h => h) (Or.inl ⟨by rfl, ?_⟩) (by assumption) ?_
    rotate_left 1
    · intro w hSw; (try dsimp only at hSw); go_simp; try (with_reducible rfl)
    try simp only [Act.put, List.setIfInBounds_toArray, List.set_cons_zero, List.set_cons_succ]
    refine wpAnyH_take (i := 2) (v := ?_) rfl (by kernel_rfl) (by kernel_rfl) (by kernel_rfl) (fun _ _ _ h => h) (Or.inl ⟨by rfl, ?_⟩) (by assumption) ?_
    rotate_left 1
    · intro w hSw; (try dsimp only at hSw); go_simp; try (with_reducible rfl)
    try simp only [Act.put, List.setIfInBounds_toArray, List.set_cons_zero, List.set_cons_succ]
    refine wpAnyH_take (i := 3) (v := ?_) rfl (by kernel_rfl) (by kernel_rfl) (by kernel_rfl) (fun _ _ _ h => h) (Or.inl ⟨by rfl, ?_⟩) (by assumption) ?_
    rotate_left 1
    · intro w hSw; (try dsimp only at hSw); go_simp; try (with_reducible rfl)
    try simp only [Act.put, List.setIfInBounds_toArray, List.set_cons_zero, List.set_cons_succ]
    refine wpAnyH_take (i := 4) (v := ?_) rfl (by kernel_rfl) (by kernel_rfl) (by kernel_rfl) (fun _ _ _ h => h) (Or.inl ⟨by rfl, ?_⟩) (by assumption) ?_
    rotate_left 1
    · intro w hSw; (try dsimp only at hSw); go_simp; try (with_reducible rfl)
    try simp only [Act.put, List.setIfInBounds_toArray, List.set_cons_zero, List.set_cons_succ]
    refine wpAnyH_take (i := 5) (v := ?_) rfl (by kernel_rfl) (by kernel_rfl) (by kernel_rfl) (fun _ _ _ h => h) (Or.inl ⟨by rfl, ?_⟩) (by assumption) ?_
    rotate_left 1
    · intro w hSw; (try dsimp only at hSw); go_simp; try (with_reducible rfl)
    try simp only [Act.put, List.setIfInBounds_toArray, List.set_cons_zero, List.set_cons_succ]
    refine wpAnyH_take (i := 6) (v := ?_) rfl (by kernel_rfl) (by kernel_rfl) (by kernel_rfl) (fun _ _ _ h => h) (Or.inl ⟨by rfl, ?_⟩) (by assumption) ?_
    rotate_left 1
    · intro w hSw; (try dsimp only at hSw); go_simp; try (with_reducible rfl)
    try simp only [Act.put, List.setIfInBounds_toArray, List.set_cons_zero, List.set_cons_succ]
    refine wpAnyH_take (i := 7) (v := ?_) rfl (by kernel_rfl) (by kernel_rfl) (by kernel_rfl) (fun _ _ _ h => h) (Or.inl ⟨by rfl, ?_⟩) (by assumption) ?_
    rotate_left 1
    · intro w hSw; (try dsimp only at hSw); go_simp; try (with_reducible rfl)
    try simp only [Act.put, List.setIfInBounds_toArray, List.set_cons_zero, List.set_cons_succ]
    refine wpAnyH_take (i := 8) (v := ?_) rfl (by kernel_rfl) (by kernel_rfl) (by kernel_rfl) (fun _ _ _ h => h) (Or.inl ⟨by rfl, ?_⟩) (by assumption) ?_
    rotate_left 1
    · intro w hSw; (try dsimp only at hSw); go_simp; try (with_reducible rfl)
    try simp only [Act.put, List.setIfInBounds_toArray, List.set_cons_zero, List.set_cons_succ]
    refine wpAnyH_take (i := 9) (v := ?_) rfl (by kernel_rfl) (by kernel_rfl) (by kernel_rfl) (fun _ _ _ h => h) (Or.inl ⟨by rfl, ?_⟩) (by assumption) ?_
    rotate_left 1
    · intro w hSw; (try dsimp only at hSw); go_simp; try (with_reducible rfl)
    try simp only [Act.put, List.setIfInBounds_toArray, List.set_cons_zero, List.set_cons_succ]
    refine wpAnyH_take (i := 10) (v := ?_) rfl (by kernel_rfl) (by kernel_rfl) (by kernel_rfl) (fun _ _ _ h => h) (Or.inl ⟨by rfl, ?_⟩) (by assumption) ?_
    rotate_left 1
    · intro w hSw; (try dsimp only at hSw); go_simp; try (with_reducible rfl)
    try simp only [Act.put, List.setIfInBounds_toArray, List.set_cons_zero, List.set_cons_succ]
    refine wpAnyH_ready (rs := [11]) (by kernel_rfl) (by simp) ?_
    refine AllReadyH.cons rfl (fun K hK => ?_) AllReadyH.nil
    go_simp
    refine hK.out _ _ HH.out.rd.c0 (fun hHeld => ?_)
    clear hK K
    try simp only [Act.put, List.setIfInBounds_toArray, List.set_cons_zero, List.set_cons_succ]
    refine wpAnyH_ready (rs := [12]) (by kernel_rfl) (by simp) ?_
    refine AllReadyH.cons rfl (fun K hK => ?_) AllReadyH.nil
    go_simp
    refine (HRd.out _ ((Below.refl _ w).drew)).mono ?_; rintro en w1 ⟨rfl, hb1⟩
    replace HH := Lib.hid (HH.out.later hb1)
    clear hb1
    try go_wp2_with fail
    refine hK.out _ _ HH.out.rd.c0 (fun hHeld => ?_)
    clear hK K
    try simp only [Act.put, List.setIfInBounds_toArray, List.set_cons_zero, List.set_cons_succ]
    clear c0 c1 c2 c3 cq fq fz1 fz2 fz3
    obtain ⟨c0, c1, c2, c3, fz⟩ := HH.out.rd
    simp only [if_true, if_false, Bool.false_eq_true] at c1 c2 c3
    have fz1 := fz 1
    have fz2 := fz 2
    have fz3 := fz 3
    have cq := HH.out.old
    have fq := HH.out.ce.fz o
    clear fz
    refine wpAnyH_take (i := 13) (v := ?_) rfl (by kernel_rfl) (by kernel_rfl) (by kernel_rfl) (fun _ _ _ h => h) (Or.inl ⟨by rfl, ?_⟩) (by assumption) ?_
    rotate_left 1
    · intro w hSw; (try dsimp only at hSw); go_simp; try (with_reducible rfl)
    try simp only [Act.put, List.setIfInBounds_toArray, List.set_cons_zero, List.set_cons_succ]
    refine wpAnyH_take (i := 14) (v := ?_) rfl (by kernel_rfl) (by kernel_rfl) (by kernel_rfl) (fun _ _ _ h => h) (Or.inl ⟨by rfl, ?_⟩) (by assumption) ?_
    rotate_left 1
    · intro w hSw; (try dsimp only at hSw); go_simp; try (with_reducible rfl)
    try simp only [Act.put, List.setIfInBounds_toArray, List.set_cons_zero, List.set_cons_succ]
    refine wpAnyH_take (i := 15) (v := ?_) rfl (by kernel_rfl) (by kernel_rfl) (by kernel_rfl) (fun _ _ _ h => h) (Or.inl ⟨by rfl, ?_⟩) (by assumption) ?_
    rotate_left 1
    · intro w hSw; (try dsimp only at hSw); go_simp; try (with_reducible rfl)
    try simp only [Act.put, List.setIfInBounds_toArray, List.set_cons_zero, List.set_cons_succ]
    refine wpAnyH_take (i := 16) (v := ?_) rfl (by kernel_rfl) (by kernel_rfl) (by kernel_rfl) (fun _ _ _ h => h) (Or.inl ⟨by rfl, ?_⟩) (by assumption) ?_
    rotate_left 1
    · intro w hSw; (try dsimp only at hSw); go_simp; try (with_reducible rfl)
    try simp only [Act.put, List.setIfInBounds_toArray, List.set_cons_zero, List.set_cons_succ]
    refine wpAnyH_take (i := 17) (v := ?_) rfl (by kernel_rfl) (by kernel_rfl) (by kernel_rfl) (fun _ _ _ h => h) (Or.inl ⟨by rfl, ?_⟩) (by assumption) ?_
    rotate_left 1
    · intro w hSw; (try dsimp only at hSw); go_simp; try (with_reducible rfl)
    try simp only [Act.put, List.setIfInBounds_toArray, List.set_cons_zero, List.set_cons_succ]
    refine wpAnyH_ready (rs := [18]) (by kernel_rfl) (by simp) ?_
    refine AllReadyH.cons rfl (fun K hK => ?_) AllReadyH.nil
    go_simp
    replace HH := Lib.hid HH.out.sq
    refine hK.out _ _ HH.out.rd.c0 (fun hHeld => ?_)
    clear hK K
    try simp only [Act.put, List.setIfInBounds_toArray, List.set_cons_zero, List.set_cons_succ]
    clear c0 c1 c2 c3 cq fq fz1 fz2 fz3
    obtain ⟨c0, c1, c2, c3, fz⟩ := HH.out.rd
    simp only [if_true, if_false, Bool.false_eq_true] at c1 c2 c3
    have fz1 := fz 1
    have fz2 := fz 2
    have fz3 := fz 3
    have cq := HH.out.old
    have fq := HH.out.ce.fz o
    clear fz
    refine wpAnyH_take (i := 19) (v := ?_) rfl (by kernel_rfl) (by kernel_rfl) (by kernel_rfl) (fun _ _ _ h => h) (Or.inl ⟨by rfl, ?_⟩) (by assumption) ?_
    rotate_left 1
    · intro w hSw; (try dsimp only at hSw); go_simp; try (with_reducible rfl)
    try simp only [Act.put, List.setIfInBounds_toArray, List.set_cons_zero, List.set_cons_succ]
    refine wpAnyH_take (i := 20) (v := ?_) rfl (by kernel_rfl) (by kernel_rfl) (by kernel_rfl) (fun _ _ _ h => h) (Or.inl ⟨by rfl, ?_⟩) (by assumption) ?_
    rotate_left 1
    · intro w hSw; (try dsimp only at hSw); go_simp; try (with_reducible rfl)
    try simp only [Act.put, List.setIfInBounds_toArray, List.set_cons_zero, List.set_cons_succ]
    refine wpAnyH_ready (rs := [21]) (by kernel_rfl) (by simp) ?_
    refine AllReadyH.cons rfl (fun K hK => ?_) AllReadyH.nil
    go_simp
    replace HH := Lib.hid HH.out.sa
    refine hK.out _ _ HH.out.rd.c0 (fun hHeld => ?_)
    clear hK K
    try simp only [Act.put, List.setIfInBounds_toArray, List.set_cons_zero, List.set_cons_succ]
    clear c0 c1 c2 c3 cq fq fz1 fz2 fz3
    obtain ⟨c0, c1, c2, c3, fz⟩ := HH.out.rd
    simp only [if_true, if_false, Bool.false_eq_true] at c1 c2 c3
    have fz1 := fz 1
    have fz2 := fz 2
    have fz3 := fz 3
    have cq := HH.out.old
    have fq := HH.out.ce.fz o
    clear fz
    refine wpAnyH_take (i := 22) (v := ?_) rfl (by kernel_rfl) (by kernel_rfl) (by kernel_rfl) (fun _ _ _ h => h) (Or.inl ⟨by rfl, ?_⟩) (by assumption) ?_
    rotate_left 1
    · intro w hSw; (try dsimp only at hSw); go_simp; try (with_reducible rfl)
    try simp only [Act.put, List.setIfInBounds_toArray, List.set_cons_zero, List.set_cons_succ]
    refine wpAnyH_take (i := 23) (v := ?_) rfl (by kernel_rfl) (by kernel_rfl) (by kernel_rfl) (fun _ _ _ h => h) (Or.inl ⟨by rfl, ?_⟩) (by assumption) ?_
    rotate_left 1
    · intro w hSw; (try dsimp only at hSw); go_simp; try (with_reducible rfl)
    try simp only [Act.put, List.setIfInBounds_toArray, List.set_cons_zero, List.set_cons_succ]
    refine wpAnyH_ready (rs := [24]) (by kernel_rfl) (by simp) ?_
    refine AllReadyH.cons rfl (fun K hK => ?_) AllReadyH.nil
    go_simp
    replace HH := Lib.hid HH.out.sf
    refine hK.out _ _ HH.out.rd.c0 (fun hHeld => ?_)
    clear hK K
    try simp only [Act.put, List.setIfInBounds_toArray, List.set_cons_zero, List.set_cons_succ]
    clear c0 c1 c2 c3 cq fq fz1 fz2 fz3
    obtain ⟨c0, c1, c2, c3, fz⟩ := HH.out.rd
    simp only [if_true, if_false, Bool.false_eq_true] at c1 c2 c3
    have fz1 := fz 1
    have fz2 := fz 2
    have fz3 := fz 3
    have cq := HH.out.old
    have fq := HH.out.ce.fz o
    clear fz
    refine wpAnyH_done (by kernel_rfl) ?_ _
    clear hHeld
    go_wp2_with fail
    go_ret
    exact half_done HH.out


  · have tE : (e == 0) = false := by simpa using h0
    have e1 : st4 b ⟨a, e, p⟩ = ⟨a, e, p⟩ := by unfold st4; rw [if_pos h0]
    have e2 : (.int .i64 (vl4 b ⟨a, e, p⟩ old)) = l[o] := by rw [hold]; unfold vl4; rw [if_pos h0]
    rw [e1, e2, List.set_getElem_self]
    have HR := Lib.hid hR
    have HC := Lib.hid hC
    have c2 := hR.c2
    clear hR hC e1 e2 hS hold
    go_enter Try.func71, Try.ntmps71
    go_wp2_with fail
    go_ret
    exact ⟨rfl, HR.out, HC.out, Aside.refl _ _⟩

end Go.Proofs.Ytaikpgcmcmkdcaa

/-
  A record's lower form; which records are the same.
-/
namespace Go.Proofs.Ytaikpgcmcmkdcaa
open Go.RowKit Go.Shelf
set_option linter.unusedVariables false
set_option linter.unusedSimpArgs false
set_option maxRecDepth 100000

theorem Cel.five {w : World} {q : Nat} {a b c d e : Value} (h : Cel w q [a, b, c, d, e]) : w.cell? ⟨q, 0, none⟩ = some a ∧ w.cell? ⟨q, 1, none⟩ = some b ∧ w.cell? ⟨q, 2, none⟩ = some c ∧ w.cell? ⟨q, 3, none⟩ = some d ∧ w.cell? ⟨q, 4, none⟩ = some e :=
  ⟨h.c 0 (by simp), h.c 1 (by simp), h.c 2 (by simp), h.c 3 (by simp), h.c 4 (by simp)⟩

theorem cel_new (w : World) (a b c d e : Value) (T : TypeId) : Cel (w.alloc (.cells #[a, b, c, d, e] T)) w.heap.size [a, b, c, d, e] := ⟨fun j hj => by
    match j, hj with
    | 0, _ => simp [go_sem]
    | 1, _ => simp [go_sem]
    | 2, _ => simp [go_sem]
    | 3, _ => simp [go_sem]
    | 4, _ => simp [go_sem], fun j => by simp [go_sem]⟩

set_option maxHeartbeats 8000000 in
theorem lowerC_any (n : List UInt8) (t c l : Int) (d : List UInt8) (hn : n.length ≤ 1000000) (hd : d.length ≤ 1000000) (w : World) :
    Calls Try.prog 32 #[.agg #[.string (bs n), .int .i64 t, .int .i64 c, .int .i64 l, .string (bs d)]] w (Tells w (.agg #[.string (bs (low n)), .int .i64 t, .int .i64 c, .int .i64 0, .string (bs (lowD t d))])) := by
  have HLn := Lib.hid (fun wx => lower_any n hn wx)
  have HLd := Lib.hid (fun wx => lowerD_any t d hd wx)
  obtain ⟨N, hN⟩ : ∃ N, low n = N := ⟨_, rfl⟩
  obtain ⟨D, hD⟩ : ∃ D, lowD t d = D := ⟨_, rfl⟩
  rw [hN] at HLn ⊢
  rw [hD] at HLd ⊢
  obtain ⟨W0, hW0⟩ : ∃ W0, (w.alloc (.cells #[.string (bs n), .int .i64 t, .int .i64 c, .int .i64 l, .string (bs d)] 23)).alloc (.cells #[.string ⟨#[]⟩, .int .i64 0, .int .i64 0, .int .i64 0, .string ⟨#[]⟩] 23) = W0 := ⟨_, rfl⟩
  have hb1 : Below w.heap.size w (w.alloc (.cells #[.string (bs n), .int .i64 t, .int .i64 c, .int .i64 l, .string (bs d)] 23)) := (Below.refl _ _).alloc (Nat.le_refl _) _
  have HB := Lib.hid (show Below w.heap.size w W0 from hW0 ▸ bel_alloc hb1 _)
  have hx := (cel_new w (.string (bs n)) (.int .i64 t) (.int .i64 c) (.int .i64 l) (.string (bs d)) 23).below (by simp) ((Below.refl _ _).alloc (Nat.le_refl _) (.cells #[.string ⟨#[]⟩, .int .i64 0, .int .i64 0, .int .i64 0, .string ⟨#[]⟩] 23))
  have hy := cel_new (w.alloc (.cells #[.string (bs n), .int .i64 t, .int .i64 c, .int .i64 l, .string (bs d)] 23)) (.string ⟨#[]⟩) (.int .i64 0) (.int .i64 0) (.int .i64 0) (.string ⟨#[]⟩) 23
  rw [hW0] at hx hy
  rw [World.size_alloc] at hy
  obtain ⟨g, hg⟩ : ∃ g, w.heap.size = g := ⟨_, rfl⟩
  rw [hg] at hx hy
  have HX := Lib.hid (hx.below (by simp) (Below.refl _ W0).drew)
  have HY := Lib.hid (hy.below (by simp) (Below.refl _ W0).drew)
  have HBD := Lib.hid (bel_call HB.out (Below.refl _ W0).drew)
  clear hx hy hb1 hN hD HB
  go_enter Try.func32, Try.ntmps32
  go_wp2_with fail
  obtain ⟨c0, c1, c2, c3, c4⟩ := HX.out.five
  have f0 := HX.out.fz 0
  have f3 := HX.out.fz 3
  have f4 := HX.out.fz 4
  refine wp_region_held_drew (S := (fun wx => wx.cell? ⟨g, 1, none⟩ = some (.int .i64 t))) (by kernel_rfl) (HX.out.c 1 (by simp)) (fun hHeld => ?_)
  refine wpAnyH_take (i := 0) (oi := { dst := some 3, op := Op.fieldAddr 23 (Operand.tmp 1) 0, type := 0, pos := "rec.go:119", after := #[], guard := none }) (v := ?_) rfl (by kernel_rfl) (by kernel_rfl) (by kernel_rfl) (fun _ _ _ h => h) (Or.inl ⟨by rfl, ?_⟩) (by assumption) ?_
  rotate_left 1
  · intro w hSw; (try dsimp only at hSw); go_simp; try (with_reducible rfl)
  try simp only [Act.put, List.setIfInBounds_toArray, List.set_cons_zero, List.set_cons_succ]
  refine wpAnyH_take (i := 3) (oi := { dst := some 6, op := Op.fieldAddr 23 (Operand.tmp 1) 1, type := 0, pos := "rec.go:119", after := #[], guard := none }) (v := ?_) rfl (by kernel_rfl) (by kernel_rfl) (by kernel_rfl) (fun _ _ _ h => h) (Or.inl ⟨by rfl, ?_⟩) (by assumption) ?_
  rotate_left 1
  · intro w hSw; (try dsimp only at hSw); go_simp; try (with_reducible rfl)
  try simp only [Act.put, List.setIfInBounds_toArray, List.set_cons_zero, List.set_cons_succ]
  refine wpAnyH_take (i := 4) (oi := { dst := some 7, op := Op.load 3 (Operand.tmp 6), type := 3, pos := "rec.go:119", after := #[{ on := 3, ground := Ground.data }], guard := none }) (v := ?_) rfl (by kernel_rfl) (by kernel_rfl) (by kernel_rfl) (fun _ _ _ h => h) (Or.inl ⟨by rfl, ?_⟩) (by assumption) ?_
  rotate_left 1
  · intro w hSw; (try dsimp only at hSw); go_simp; try (with_reducible rfl)
  try simp only [Act.put, List.setIfInBounds_toArray, List.set_cons_zero, List.set_cons_succ]
  refine wpAnyH_take (i := 5) (oi := { dst := some 8, op := Op.fieldAddr 23 (Operand.tmp 1) 4, type := 0, pos := "rec.go:119", after := #[], guard := none }) (v := ?_) rfl (by kernel_rfl) (by kernel_rfl) (by kernel_rfl) (fun _ _ _ h => h) (Or.inl ⟨by rfl, ?_⟩) (by assumption) ?_
  rotate_left 1
  · intro w hSw; (try dsimp only at hSw); go_simp; try (with_reducible rfl)
  try simp only [Act.put, List.setIfInBounds_toArray, List.set_cons_zero, List.set_cons_succ]
  refine wpAnyH_ready (rs := [1, 6]) (by kernel_rfl) (by simp) ?_
  refine AllReadyH.cons (o := { dst := some 4, op := Op.load 9 (Operand.tmp 3), type := 9, pos := "rec.go:119", after := #[{ on := 0, ground := Ground.data }], guard := none }) rfl (fun K hK => ?_) (AllReadyH.cons (o := { dst := some 9, op := Op.load 9 (Operand.tmp 8), type := 9, pos := "rec.go:119", after := #[{ on := 5, ground := Ground.data }], guard := none }) rfl (fun K hK => ?_) (AllReadyH.nil))
  · go_simp
    refine hK.out _ _ (HX.out.c 1 (by simp)) (fun hHeld => ?_)
    clear hK K
    try simp only [Act.put, List.setIfInBounds_toArray, List.set_cons_zero, List.set_cons_succ]
    refine wpAnyH_ready (rs := [2, 6]) (by kernel_rfl) (by simp) ?_
    refine AllReadyH.cons (o := { dst := some 5, op := Op.call { callee := Callee.value (Operand.func 56), args := #[Operand.tmp 4], argTypes := #[9] }, type := 9, pos := "rec.go:119", after := #[{ on := 1, ground := Ground.data }], guard := none }) rfl (fun K hK => ?_) (AllReadyH.cons (o := { dst := some 9, op := Op.load 9 (Operand.tmp 8), type := 9, pos := "rec.go:119", after := #[{ on := 5, ground := Ground.data }], guard := none }) rfl (fun K hK => ?_) (AllReadyH.nil))
    · go_simp
      refine (HLn.out _).mono ?_; rintro e w1 ⟨rfl, hb⟩
      replace HX := Lib.hid (HX.out.below (by simp) hb)
      replace HY := Lib.hid (HY.out.below (by simp) hb)
      replace HBD := Lib.hid (bel_call HBD.out hb)
      clear hb
      clear c0 c1 c2 c3 c4 f0 f3 f4
      obtain ⟨c0, c1, c2, c3, c4⟩ := HX.out.five
      have f0 := HX.out.fz 0
      have f3 := HX.out.fz 3
      have f4 := HX.out.fz 4
      try go_wp2_with fail
      refine hK.out _ _ (HX.out.c 1 (by simp)) (fun hHeld => ?_)
      clear hK K
      try simp only [Act.put, List.setIfInBounds_toArray, List.set_cons_zero, List.set_cons_succ]
      refine wpAnyH_ready (rs := [6]) (by kernel_rfl) (by simp) ?_
      refine AllReadyH.cons (o := { dst := some 9, op := Op.load 9 (Operand.tmp 8), type := 9, pos := "rec.go:119", after := #[{ on := 5, ground := Ground.data }], guard := none }) rfl (fun K hK => ?_) (AllReadyH.nil)
      go_simp
      refine hK.out _ _ (HX.out.c 1 (by simp)) (fun hHeld => ?_)
      clear hK K
      try simp only [Act.put, List.setIfInBounds_toArray, List.set_cons_zero, List.set_cons_succ]
      refine wpAnyH_take (i := 8) (oi := { dst := some 11, op := Op.fieldAddr 23 (Operand.tmp 1) 0, type := 0, pos := "rec.go:119", after := #[{ on := 0, ground := Ground.phase }, { on := 1, ground := Ground.phase }, { on := 2, ground := Ground.phase }, { on := 3, ground := Ground.phase }, { on := 4, ground := Ground.phase }, { on := 5, ground := Ground.phase }, { on := 6, ground := Ground.phase }, { on := 7, ground := Ground.textOnly Departure.lateStoresUnsure }], guard := none }) (v := ?_) rfl (by kernel_rfl) (by kernel_rfl) (by kernel_rfl) (fun _ _ _ h => h) (Or.inl ⟨by rfl, ?_⟩) (by assumption) ?_
      rotate_left 1
      · intro w hSw; (try dsimp only at hSw); go_simp; try (with_reducible rfl)
      try simp only [Act.put, List.setIfInBounds_toArray, List.set_cons_zero, List.set_cons_succ]
      refine wpAnyH_ready (rs := [7]) (by kernel_rfl) (by simp) ?_
      refine AllReadyH.cons (o := { dst := some 10, op := Op.call { callee := Callee.value (Operand.func 57), args := #[Operand.tmp 7, Operand.tmp 9], argTypes := #[3, 9] }, type := 9, pos := "rec.go:119", after := #[{ on := 4, ground := Ground.data }, { on := 6, ground := Ground.data }, { on := 2, ground := Ground.chain }], guard := none }) rfl (fun K hK => ?_) (AllReadyH.nil)
      go_simp
      refine (HLd.out _).mono ?_; rintro e w1 ⟨rfl, hb⟩
      replace HX := Lib.hid (HX.out.below (by simp) hb)
      replace HY := Lib.hid (HY.out.below (by simp) hb)
      replace HBD := Lib.hid (bel_call HBD.out hb)
      clear hb
      clear c0 c1 c2 c3 c4 f0 f3 f4
      obtain ⟨c0, c1, c2, c3, c4⟩ := HX.out.five
      have f0 := HX.out.fz 0
      have f3 := HX.out.fz 3
      have f4 := HX.out.fz 4
      try go_wp2_with fail
      refine hK.out _ _ (HX.out.c 1 (by simp)) (fun hHeld => ?_)
      clear hK K
      try simp only [Act.put, List.setIfInBounds_toArray, List.set_cons_zero, List.set_cons_succ]
      refine wpAnyH_ready (rs := [9]) (by kernel_rfl) (by simp) ?_
      refine AllReadyH.cons (o := { dst := none, op := Op.store 9 (Operand.tmp 11) (Operand.tmp 5), type := 0, pos := "rec.go:119", after := #[{ on := 8, ground := Ground.data }, { on := 2, ground := Ground.data }, { on := 7, ground := Ground.chain }, { on := 0, ground := Ground.phase }, { on := 1, ground := Ground.phase }, { on := 2, ground := Ground.phase }, { on := 3, ground := Ground.phase }, { on := 4, ground := Ground.phase }, { on := 5, ground := Ground.phase }, { on := 6, ground := Ground.phase }, { on := 7, ground := Ground.textOnly Departure.lateStoresUnsure }], guard := none }) rfl (fun K hK => ?_) (AllReadyH.nil)
      go_simp
      replace HBD := Lib.hid (HBD.out.setCell (p := ⟨g, 0, none⟩) (by simp [hg]) (.string (bs N)))
      replace HY := Lib.hid (HY.out.other (a := ⟨g, 0, none⟩) (by simp) (.string (bs N)))
      have hx2 : Cel _ g [.string (bs N), .int .i64 t, .int .i64 c, .int .i64 l, .string (bs d)] := HX.out.set (o := 0) (by simp) (.string (bs N))
      replace HX := Lib.hid hx2
      clear hx2
      clear c0 c1 c2 c3 c4 f0 f3 f4
      obtain ⟨c0, c1, c2, c3, c4⟩ := HX.out.five
      have f0 := HX.out.fz 0
      have f3 := HX.out.fz 3
      have f4 := HX.out.fz 4
      refine hK.out _ _ (HX.out.c 1 (by simp)) (fun hHeld => ?_)
      clear hK K
      try simp only [Act.put, List.setIfInBounds_toArray, List.set_cons_zero, List.set_cons_succ]
      refine wpAnyH_take (i := 10) (oi := { dst := some 12, op := Op.fieldAddr 23 (Operand.tmp 1) 4, type := 0, pos := "rec.go:119", after := #[{ on := 0, ground := Ground.phase }, { on := 1, ground := Ground.phase }, { on := 2, ground := Ground.phase }, { on := 3, ground := Ground.phase }, { on := 4, ground := Ground.phase }, { on := 5, ground := Ground.phase }, { on := 6, ground := Ground.phase }, { on := 7, ground := Ground.phase }, { on := 8, ground := Ground.phase }, { on := 9, ground := Ground.phase }], guard := none }) (v := ?_) rfl (by kernel_rfl) (by kernel_rfl) (by kernel_rfl) (fun _ _ _ h => h) (Or.inl ⟨by rfl, ?_⟩) (by assumption) ?_
      rotate_left 1
      · intro w hSw; (try dsimp only at hSw); go_simp; try (with_reducible rfl)
      try simp only [Act.put, List.setIfInBounds_toArray, List.set_cons_zero, List.set_cons_succ]
      refine wpAnyH_ready (rs := [11]) (by kernel_rfl) (by simp) ?_
      refine AllReadyH.cons (o := { dst := none, op := Op.store 9 (Operand.tmp 12) (Operand.tmp 10), type := 0, pos := "rec.go:119", after := #[{ on := 10, ground := Ground.data }, { on := 7, ground := Ground.data }, { on := 9, ground := Ground.chain }, { on := 0, ground := Ground.phase }, { on := 1, ground := Ground.phase }, { on := 2, ground := Ground.phase }, { on := 3, ground := Ground.phase }, { on := 4, ground := Ground.phase }, { on := 5, ground := Ground.phase }, { on := 6, ground := Ground.phase }, { on := 7, ground := Ground.phase }, { on := 8, ground := Ground.phase }, { on := 9, ground := Ground.phase }], guard := none }) rfl (fun K hK => ?_) (AllReadyH.nil)
      go_simp
      replace HBD := Lib.hid (HBD.out.setCell (p := ⟨g, 4, none⟩) (by simp [hg]) (.string (bs D)))
      replace HY := Lib.hid (HY.out.other (a := ⟨g, 4, none⟩) (by simp) (.string (bs D)))
      have hx2 : Cel _ g [.string (bs N), .int .i64 t, .int .i64 c, .int .i64 l, .string (bs D)] := HX.out.set (o := 4) (by simp) (.string (bs D))
      replace HX := Lib.hid hx2
      clear hx2
      clear c0 c1 c2 c3 c4 f0 f3 f4
      obtain ⟨c0, c1, c2, c3, c4⟩ := HX.out.five
      have f0 := HX.out.fz 0
      have f3 := HX.out.fz 3
      have f4 := HX.out.fz 4
      refine hK.out _ _ (HX.out.c 1 (by simp)) (fun hHeld => ?_)
      clear hK K
      try simp only [Act.put, List.setIfInBounds_toArray, List.set_cons_zero, List.set_cons_succ]
      refine wpAnyH_take (i := 12) (oi := { dst := some 13, op := Op.fieldAddr 23 (Operand.tmp 1) 3, type := 0, pos := "rec.go:119", after := #[{ on := 0, ground := Ground.phase }, { on := 1, ground := Ground.phase }, { on := 2, ground := Ground.phase }, { on := 3, ground := Ground.phase }, { on := 4, ground := Ground.phase }, { on := 5, ground := Ground.phase }, { on := 6, ground := Ground.phase }, { on := 7, ground := Ground.phase }, { on := 8, ground := Ground.phase }, { on := 9, ground := Ground.phase }, { on := 10, ground := Ground.phase }, { on := 11, ground := Ground.phase }], guard := none }) (v := ?_) rfl (by kernel_rfl) (by kernel_rfl) (by kernel_rfl) (fun _ _ _ h => h) (Or.inl ⟨by rfl, ?_⟩) (by assumption) ?_
      rotate_left 1
      · intro w hSw; (try dsimp only at hSw); go_simp; try (with_reducible rfl)
      try simp only [Act.put, List.setIfInBounds_toArray, List.set_cons_zero, List.set_cons_succ]
      refine wpAnyH_ready (rs := [13]) (by kernel_rfl) (by simp) ?_
      refine AllReadyH.cons (o := { dst := none, op := Op.store 3 (Operand.tmp 13) (Operand.const (Value.int IntKind.i64 0)), type := 0, pos := "rec.go:119", after := #[{ on := 12, ground := Ground.data }, { on := 11, ground := Ground.chain }, { on := 0, ground := Ground.phase }, { on := 1, ground := Ground.phase }, { on := 2, ground := Ground.phase }, { on := 3, ground := Ground.phase }, { on := 4, ground := Ground.phase }, { on := 5, ground := Ground.phase }, { on := 6, ground := Ground.phase }, { on := 7, ground := Ground.phase }, { on := 8, ground := Ground.phase }, { on := 9, ground := Ground.phase }, { on := 10, ground := Ground.phase }, { on := 11, ground := Ground.phase }], guard := none }) rfl (fun K hK => ?_) (AllReadyH.nil)
      go_simp
      replace HBD := Lib.hid (HBD.out.setCell (p := ⟨g, 3, none⟩) (by simp [hg]) (.int .i64 0))
      replace HY := Lib.hid (HY.out.other (a := ⟨g, 3, none⟩) (by simp) (.int .i64 0))
      have hx2 : Cel _ g [.string (bs N), .int .i64 t, .int .i64 c, .int .i64 0, .string (bs D)] := HX.out.set (o := 3) (by simp) (.int .i64 0)
      replace HX := Lib.hid hx2
      clear hx2
      clear c0 c1 c2 c3 c4 f0 f3 f4
      obtain ⟨c0, c1, c2, c3, c4⟩ := HX.out.five
      have f0 := HX.out.fz 0
      have f3 := HX.out.fz 3
      have f4 := HX.out.fz 4
      refine hK.out _ _ (HX.out.c 1 (by simp)) (fun hHeld => ?_)
      clear hK K
      try simp only [Act.put, List.setIfInBounds_toArray, List.set_cons_zero, List.set_cons_succ]
      refine wpAnyH_done (by kernel_rfl) ?_ _
      clear hHeld
      obtain ⟨r0, r1, r2, r3, r4⟩ := HY.out.five
      have q0 := HY.out.fz 0
      have q1 := HY.out.fz 1
      have q2 := HY.out.fz 2
      have q3 := HY.out.fz 3
      have q4 := HY.out.fz 4
      have W2 := ((((HY.out.set (o := 0) (by simp) (.string (bs N))).set (o := 1) (by simp) (.int .i64 t)).set (o := 2) (by simp) (.int .i64 c)).set (o := 3) (by simp) (.int .i64 0)).set (o := 4) (by simp) (.string (bs D))
      obtain ⟨x0, x1, x2, x3, x4⟩ := Cel.five (a := .string (bs N)) (b := .int .i64 t) (c := .int .i64 c) (d := .int .i64 0) (e := .string (bs D)) W2
      have hle : w.heap.size ≤ g + 1 := by omega
      have HF := Lib.hid (((((HBD.out.setCell (p := ⟨g + 1, 0, none⟩) hle (.string (bs N))).setCell (p := ⟨g + 1, 1, none⟩) hle (.int .i64 t)).setCell (p := ⟨g + 1, 2, none⟩) hle (.int .i64 c)).setCell (p := ⟨g + 1, 3, none⟩) hle (.int .i64 0)).setCell (p := ⟨g + 1, 4, none⟩) hle (.string (bs D)))
      clear W2 hle
      go_wp2_with fail
      exact bodyPost_ret (by simp [results, Try.results32, go_sem, x0, x1, x2, x3, x4]) rfl ⟨rfl, HF.out⟩
    · go_simp
      refine hK.out _ _ (HX.out.c 1 (by simp)) (fun hHeld => ?_)
      clear hK K
      try simp only [Act.put, List.setIfInBounds_toArray, List.set_cons_zero, List.set_cons_succ]
      refine wpAnyH_ready (rs := [2]) (by kernel_rfl) (by simp) ?_
      refine AllReadyH.cons (o := { dst := some 5, op := Op.call { callee := Callee.value (Operand.func 56), args := #[Operand.tmp 4], argTypes := #[9] }, type := 9, pos := "rec.go:119", after := #[{ on := 1, ground := Ground.data }], guard := none }) rfl (fun K hK => ?_) (AllReadyH.nil)
      go_simp
      refine (HLn.out _).mono ?_; rintro e w1 ⟨rfl, hb⟩
      replace HX := Lib.hid (HX.out.below (by simp) hb)
      replace HY := Lib.hid (HY.out.below (by simp) hb)
      replace HBD := Lib.hid (bel_call HBD.out hb)
      clear hb
      clear c0 c1 c2 c3 c4 f0 f3 f4
      obtain ⟨c0, c1, c2, c3, c4⟩ := HX.out.five
      have f0 := HX.out.fz 0
      have f3 := HX.out.fz 3
      have f4 := HX.out.fz 4
      try go_wp2_with fail
      refine hK.out _ _ (HX.out.c 1 (by simp)) (fun hHeld => ?_)
      clear hK K
      try simp only [Act.put, List.setIfInBounds_toArray, List.set_cons_zero, List.set_cons_succ]
      refine wpAnyH_take (i := 8) (oi := { dst := some 11, op := Op.fieldAddr 23 (Operand.tmp 1) 0, type := 0, pos := "rec.go:119", after := #[{ on := 0, ground := Ground.phase }, { on := 1, ground := Ground.phase }, { on := 2, ground := Ground.phase }, { on := 3, ground := Ground.phase }, { on := 4, ground := Ground.phase }, { on := 5, ground := Ground.phase }, { on := 6, ground := Ground.phase }, { on := 7, ground := Ground.textOnly Departure.lateStoresUnsure }], guard := none }) (v := ?_) rfl (by kernel_rfl) (by kernel_rfl) (by kernel_rfl) (fun _ _ _ h => h) (Or.inl ⟨by rfl, ?_⟩) (by assumption) ?_
      rotate_left 1
      · intro w hSw; (try dsimp only at hSw); go_simp; try (with_reducible rfl)
      try simp only [Act.put, List.setIfInBounds_toArray, List.set_cons_zero, List.set_cons_succ]
      refine wpAnyH_ready (rs := [7]) (by kernel_rfl) (by simp) ?_
      refine AllReadyH.cons (o := { dst := some 10, op := Op.call { callee := Callee.value (Operand.func 57), args := #[Operand.tmp 7, Operand.tmp 9], argTypes := #[3, 9] }, type := 9, pos := "rec.go:119", after := #[{ on := 4, ground := Ground.data }, { on := 6, ground := Ground.data }, { on := 2, ground := Ground.chain }], guard := none }) rfl (fun K hK => ?_) (AllReadyH.nil)
      go_simp
      refine (HLd.out _).mono ?_; rintro e w1 ⟨rfl, hb⟩
      replace HX := Lib.hid (HX.out.below (by simp) hb)
      replace HY := Lib.hid (HY.out.below (by simp) hb)
      replace HBD := Lib.hid (bel_call HBD.out hb)
      clear hb
      clear c0 c1 c2 c3 c4 f0 f3 f4
      obtain ⟨c0, c1, c2, c3, c4⟩ := HX.out.five
      have f0 := HX.out.fz 0
      have f3 := HX.out.fz 3
      have f4 := HX.out.fz 4
      try go_wp2_with fail
      refine hK.out _ _ (HX.out.c 1 (by simp)) (fun hHeld => ?_)
      clear hK K
      try simp only [Act.put, List.setIfInBounds_toArray, List.set_cons_zero, List.set_cons_succ]
      refine wpAnyH_ready (rs := [9]) (by kernel_rfl) (by simp) ?_
      refine AllReadyH.cons (o := { dst := none, op := Op.store 9 (Operand.tmp 11) (Operand.tmp 5), type := 0, pos := "rec.go:119", after := #[{ on := 8, ground := Ground.data }, { on := 2, ground := Ground.data }, { on := 7, ground := Ground.chain }, { on := 0, ground := Ground.phase }, { on := 1, ground := Ground.phase }, { on := 2, ground := Ground.phase }, { on := 3, ground := Ground.phase }, { on := 4, ground := Ground.phase }, { on := 5, ground := Ground.phase }, { on := 6, ground := Ground.phase }, { on := 7, ground := Ground.textOnly Departure.lateStoresUnsure }], guard := none }) rfl (fun K hK => ?_) (AllReadyH.nil)
      go_simp
      replace HBD := Lib.hid (HBD.out.setCell (p := ⟨g, 0, none⟩) (by simp [hg]) (.string (bs N)))
      replace HY := Lib.hid (HY.out.other (a := ⟨g, 0, none⟩) (by simp) (.string (bs N)))
      have hx2 : Cel _ g [.string (bs N), .int .i64 t, .int .i64 c, .int .i64 l, .string (bs d)] := HX.out.set (o := 0) (by simp) (.string (bs N))
      replace HX := Lib.hid hx2
      clear hx2
      clear c0 c1 c2 c3 c4 f0 f3 f4
      obtain ⟨c0, c1, c2, c3, c4⟩ := HX.out.five
      have f0 := HX.out.fz 0
      have f3 := HX.out.fz 3
      have f4 := HX.out.fz 4
      refine hK.out _ _ (HX.out.c 1 (by simp)) (fun hHeld => ?_)
      clear hK K
      try simp only [Act.put, List.setIfInBounds_toArray, List.set_cons_zero, List.set_cons_succ]
      refine wpAnyH_take (i := 10) (oi := { dst := some 12, op := Op.fieldAddr 23 (Operand.tmp 1) 4, type := 0, pos := "rec.go:119", after := #[{ on := 0, ground := Ground.phase }, { on := 1, ground := Ground.phase }, { on := 2, ground := Ground.phase }, { on := 3, ground := Ground.phase }, { on := 4, ground := Ground.phase }, { on := 5, ground := Ground.phase }, { on := 6, ground := Ground.phase }, { on := 7, ground := Ground.phase }, { on := 8, ground := Ground.phase }, { on := 9, ground := Ground.phase }], guard := none }) (v := ?_) rfl (by kernel_rfl) (by kernel_rfl) (by kernel_rfl) (fun _ _ _ h => h) (Or.inl ⟨by rfl, ?_⟩) (by assumption) ?_
      rotate_left 1
      · intro w hSw; (try dsimp only at hSw); go_simp; try (with_reducible rfl)
      try simp only [Act.put, List.setIfInBounds_toArray, List.set_cons_zero, List.set_cons_succ]
      refine wpAnyH_ready (rs := [11]) (by kernel_rfl) (by simp) ?_
      refine AllReadyH.cons (o := { dst := none, op := Op.store 9 (Operand.tmp 12) (Operand.tmp 10), type := 0, pos := "rec.go:119", after := #[{ on := 10, ground := Ground.data }, { on := 7, ground := Ground.data }, { on := 9, ground := Ground.chain }, { on := 0, ground := Ground.phase }, { on := 1, ground := Ground.phase }, { on := 2, ground := Ground.phase }, { on := 3, ground := Ground.phase }, { on := 4, ground := Ground.phase }, { on := 5, ground := Ground.phase }, { on := 6, ground := Ground.phase }, { on := 7, ground := Ground.phase }, { on := 8, ground := Ground.phase }, { on := 9, ground := Ground.phase }], guard := none }) rfl (fun K hK => ?_) (AllReadyH.nil)
      go_simp
      replace HBD := Lib.hid (HBD.out.setCell (p := ⟨g, 4, none⟩) (by simp [hg]) (.string (bs D)))
      replace HY := Lib.hid (HY.out.other (a := ⟨g, 4, none⟩) (by simp) (.string (bs D)))
      have hx2 : Cel _ g [.string (bs N), .int .i64 t, .int .i64 c, .int .i64 l, .string (bs D)] := HX.out.set (o := 4) (by simp) (.string (bs D))
      replace HX := Lib.hid hx2
      clear hx2
      clear c0 c1 c2 c3 c4 f0 f3 f4
      obtain ⟨c0, c1, c2, c3, c4⟩ := HX.out.five
      have f0 := HX.out.fz 0
      have f3 := HX.out.fz 3
      have f4 := HX.out.fz 4
      refine hK.out _ _ (HX.out.c 1 (by simp)) (fun hHeld => ?_)
      clear hK K
      try simp only [Act.put, List.setIfInBounds_toArray, List.set_cons_zero, List.set_cons_succ]
      refine wpAnyH_take (i := 12) (oi := { dst := some 13, op := Op.fieldAddr 23 (Operand.tmp 1) 3, type := 0, pos := "rec.go:119", after := #[{ on := 0, ground := Ground.phase }, { on := 1, ground := Ground.phase }, { on := 2, ground := Ground.phase }, { on := 3, ground := Ground.phase }, { on := 4, ground := Ground.phase }, { on := 5, ground := Ground.phase }, { on := 6, ground := Ground.phase }, { on := 7, ground := Ground.phase }, { on := 8, ground := Ground.phase }, { on := 9, ground := Ground.phase }, { on := 10, ground := Ground.phase }, { on := 11, ground := Ground.phase }], guard := none }) (v := ?_) rfl (by kernel_rfl) (by kernel_rfl) (by kernel_rfl) (fun _ _ _ h => h) (Or.inl ⟨by rfl, ?_⟩) (by assumption) ?_
      rotate_left 1
      · intro w hSw; (try dsimp only at hSw); go_simp; try (with_reducible rfl)
      try simp only [Act.put, List.setIfInBounds_toArray, List.set_cons_zero, List.set_cons_succ]
      refine wpAnyH_ready (rs := [13]) (by kernel_rfl) (by simp) ?_
      refine AllReadyH.cons (o := { dst := none, op := Op.store 3 (Operand.tmp 13) (Operand.const (Value.int IntKind.i64 0)), type := 0, pos := "rec.go:119", after := #[{ on := 12, ground := Ground.data }, { on := 11, ground := Ground.chain }, { on := 0, ground := Ground.phase }, { on := 1, ground := Ground.phase }, { on := 2, ground := Ground.phase }, { on := 3, ground := Ground.phase }, { on := 4, ground := Ground.phase }, { on := 5, ground := Ground.phase }, { on := 6, ground := Ground.phase }, { on := 7, ground := Ground.phase }, { on := 8, ground := Ground.phase }, { on := 9, ground := Ground.phase }, { on := 10, ground := Ground.phase }, { on := 11, ground := Ground.phase }], guard := none }) rfl (fun K hK => ?_) (AllReadyH.nil)
      go_simp
      replace HBD := Lib.hid (HBD.out.setCell (p := ⟨g, 3, none⟩) (by simp [hg]) (.int .i64 0))
      replace HY := Lib.hid (HY.out.other (a := ⟨g, 3, none⟩) (by simp) (.int .i64 0))
      have hx2 : Cel _ g [.string (bs N), .int .i64 t, .int .i64 c, .int .i64 0, .string (bs D)] := HX.out.set (o := 3) (by simp) (.int .i64 0)
      replace HX := Lib.hid hx2
      clear hx2
      clear c0 c1 c2 c3 c4 f0 f3 f4
      obtain ⟨c0, c1, c2, c3, c4⟩ := HX.out.five
      have f0 := HX.out.fz 0
      have f3 := HX.out.fz 3
      have f4 := HX.out.fz 4
      refine hK.out _ _ (HX.out.c 1 (by simp)) (fun hHeld => ?_)
      clear hK K
      try simp only [Act.put, List.setIfInBounds_toArray, List.set_cons_zero, List.set_cons_succ]
      refine wpAnyH_done (by kernel_rfl) ?_ _
      clear hHeld
      obtain ⟨r0, r1, r2, r3, r4⟩ := HY.out.five
      have q0 := HY.out.fz 0
      have q1 := HY.out.fz 1
      have q2 := HY.out.fz 2
      have q3 := HY.out.fz 3
      have q4 := HY.out.fz 4
      have W2 := ((((HY.out.set (o := 0) (by simp) (.string (bs N))).set (o := 1) (by simp) (.int .i64 t)).set (o := 2) (by simp) (.int .i64 c)).set (o := 3) (by simp) (.int .i64 0)).set (o := 4) (by simp) (.string (bs D))
      obtain ⟨x0, x1, x2, x3, x4⟩ := Cel.five (a := .string (bs N)) (b := .int .i64 t) (c := .int .i64 c) (d := .int .i64 0) (e := .string (bs D)) W2
      have hle : w.heap.size ≤ g + 1 := by omega
      have HF := Lib.hid (((((HBD.out.setCell (p := ⟨g + 1, 0, none⟩) hle (.string (bs N))).setCell (p := ⟨g + 1, 1, none⟩) hle (.int .i64 t)).setCell (p := ⟨g + 1, 2, none⟩) hle (.int .i64 c)).setCell (p := ⟨g + 1, 3, none⟩) hle (.int .i64 0)).setCell (p := ⟨g + 1, 4, none⟩) hle (.string (bs D)))
      clear W2 hle
      go_wp2_with fail
      exact bodyPost_ret (by simp [results, Try.results32, go_sem, x0, x1, x2, x3, x4]) rfl ⟨rfl, HF.out⟩
  · go_simp
    refine hK.out _ _ (HX.out.c 1 (by simp)) (fun hHeld => ?_)
    clear hK K
    try simp only [Act.put, List.setIfInBounds_toArray, List.set_cons_zero, List.set_cons_succ]
    refine wpAnyH_ready (rs := [1]) (by kernel_rfl) (by simp) ?_
    refine AllReadyH.cons (o := { dst := some 4, op := Op.load 9 (Operand.tmp 3), type := 9, pos := "rec.go:119", after := #[{ on := 0, ground := Ground.data }], guard := none }) rfl (fun K hK => ?_) (AllReadyH.nil)
    go_simp
    refine hK.out _ _ (HX.out.c 1 (by simp)) (fun hHeld => ?_)
    clear hK K
    try simp only [Act.put, List.setIfInBounds_toArray, List.set_cons_zero, List.set_cons_succ]
    refine wpAnyH_ready (rs := [2]) (by kernel_rfl) (by simp) ?_
    refine AllReadyH.cons (o := { dst := some 5, op := Op.call { callee := Callee.value (Operand.func 56), args := #[Operand.tmp 4], argTypes := #[9] }, type := 9, pos := "rec.go:119", after := #[{ on := 1, ground := Ground.data }], guard := none }) rfl (fun K hK => ?_) (AllReadyH.nil)
    go_simp
    refine (HLn.out _).mono ?_; rintro e w1 ⟨rfl, hb⟩
    replace HX := Lib.hid (HX.out.below (by simp) hb)
    replace HY := Lib.hid (HY.out.below (by simp) hb)
    replace HBD := Lib.hid (bel_call HBD.out hb)
    clear hb
    clear c0 c1 c2 c3 c4 f0 f3 f4
    obtain ⟨c0, c1, c2, c3, c4⟩ := HX.out.five
    have f0 := HX.out.fz 0
    have f3 := HX.out.fz 3
    have f4 := HX.out.fz 4
    try go_wp2_with fail
    refine hK.out _ _ (HX.out.c 1 (by simp)) (fun hHeld => ?_)
    clear hK K
    try simp only [Act.put, List.setIfInBounds_toArray, List.set_cons_zero, List.set_cons_succ]
    refine wpAnyH_take (i := 8) (oi := { dst := some 11, op := Op.fieldAddr 23 (Operand.tmp 1) 0, type := 0, pos := "rec.go:119", after := #[{ on := 0, ground := Ground.phase }, { on := 1, ground := Ground.phase }, { on := 2, ground := Ground.phase }, { on := 3, ground := Ground.phase }, { on := 4, ground := Ground.phase }, { on := 5, ground := Ground.phase }, { on := 6, ground := Ground.phase }, { on := 7, ground := Ground.textOnly Departure.lateStoresUnsure }], guard := none }) (v := ?_) rfl (by kernel_rfl) (by kernel_rfl) (by kernel_rfl) (fun _ _ _ h => h) (Or.inl ⟨by rfl, ?_⟩) (by assumption) ?_
    rotate_left 1
    · intro w hSw; (try dsimp only at hSw); go_simp; try (with_reducible rfl)
    try simp only [Act.put, List.setIfInBounds_toArray, List.set_cons_zero, List.set_cons_succ]
    refine wpAnyH_ready (rs := [7]) (by kernel_rfl) (by simp) ?_
    refine AllReadyH.cons (o := { dst := some 10, op := Op.call { callee := Callee.value (Operand.func 57), args := #[Operand.tmp 7, Operand.tmp 9], argTypes := #[3, 9] }, type := 9, pos := "rec.go:119", after := #[{ on := 4, ground := Ground.data }, { on := 6, ground := Ground.data }, { on := 2, ground := Ground.chain }], guard := none }) rfl (fun K hK => ?_) (AllReadyH.nil)
    go_simp
    refine (HLd.out _).mono ?_; rintro e w1 ⟨rfl, hb⟩
    replace HX := Lib.hid (HX.out.below (by simp) hb)
    replace HY := Lib.hid (HY.out.below (by simp) hb)
    replace HBD := Lib.hid (bel_call HBD.out hb)
    clear hb
    clear c0 c1 c2 c3 c4 f0 f3 f4
    obtain ⟨c0, c1, c2, c3, c4⟩ := HX.out.five
    have f0 := HX.out.fz 0
    have f3 := HX.out.fz 3
    have f4 := HX.out.fz 4
    try go_wp2_with fail
    refine hK.out _ _ (HX.out.c 1 (by simp)) (fun hHeld => ?_)
    clear hK K
    try simp only [Act.put, List.setIfInBounds_toArray, List.set_cons_zero, List.set_cons_succ]
    refine wpAnyH_ready (rs := [9]) (by kernel_rfl) (by simp) ?_
    refine AllReadyH.cons (o := { dst := none, op := Op.store 9 (Operand.tmp 11) (Operand.tmp 5), type := 0, pos := "rec.go:119", after := #[{ on := 8, ground := Ground.data }, { on := 2, ground := Ground.data }, { on := 7, ground := Ground.chain }, { on := 0, ground := Ground.phase }, { on := 1, ground := Ground.phase }, { on := 2, ground := Ground.phase }, { on := 3, ground := Ground.phase }, { on := 4, ground := Ground.phase }, { on := 5, ground := Ground.phase }, { on := 6, ground := Ground.phase }, { on := 7, ground := Ground.textOnly Departure.lateStoresUnsure }], guard := none }) rfl (fun K hK => ?_) (AllReadyH.nil)
    go_simp
    replace HBD := Lib.hid (HBD.out.setCell (p := ⟨g, 0, none⟩) (by simp [hg]) (.string (bs N)))
    replace HY := Lib.hid (HY.out.other (a := ⟨g, 0, none⟩) (by simp) (.string (bs N)))
    have hx2 : Cel _ g [.string (bs N), .int .i64 t, .int .i64 c, .int .i64 l, .string (bs d)] := HX.out.set (o := 0) (by simp) (.string (bs N))
    replace HX := Lib.hid hx2
    clear hx2
    clear c0 c1 c2 c3 c4 f0 f3 f4
    obtain ⟨c0, c1, c2, c3, c4⟩ := HX.out.five
    have f0 := HX.out.fz 0
    have f3 := HX.out.fz 3
    have f4 := HX.out.fz 4
    refine hK.out _ _ (HX.out.c 1 (by simp)) (fun hHeld => ?_)
    clear hK K
    try simp only [Act.put, List.setIfInBounds_toArray, List.set_cons_zero, List.set_cons_succ]
    refine wpAnyH_take (i := 10) (oi := { dst := some 12, op := Op.fieldAddr 23 (Operand.tmp 1) 4, type := 0, pos := "rec.go:119", after := #[{ on := 0, ground := Ground.phase }, { on := 1, ground := Ground.phase }, { on := 2, ground := Ground.phase }, { on := 3, ground := Ground.phase }, { on := 4, ground := Ground.phase }, { on := 5, ground := Ground.phase }, { on := 6, ground := Ground.phase }, { on := 7, ground := Ground.phase }, { on := 8, ground := Ground.phase }, { on := 9, ground := Ground.phase }], guard := none }) (v := ?_) rfl (by kernel_rfl) (by kernel_rfl) (by kernel_rfl) (fun _ _ _ h => h) (Or.inl ⟨by rfl, ?_⟩) (by assumption) ?_
    rotate_left 1
    · intro w hSw; (try dsimp only at hSw); go_simp; try (with_reducible rfl)
    try simp only [Act.put, List.setIfInBounds_toArray, List.set_cons_zero, List.set_cons_succ]
    refine wpAnyH_ready (rs := [11]) (by kernel_rfl) (by simp) ?_
    refine AllReadyH.cons (o := { dst := none, op := Op.store 9 (Operand.tmp 12) (Operand.tmp 10), type := 0, pos := "rec.go:119", after := #[{ on := 10, ground := Ground.data }, { on := 7, ground := Ground.data }, { on := 9, ground := Ground.chain }, { on := 0, ground := Ground.phase }, { on := 1, ground := Ground.phase }, { on := 2, ground := Ground.phase }, { on := 3, ground := Ground.phase }, { on := 4, ground := Ground.phase }, { on := 5, ground := Ground.phase }, { on := 6, ground := Ground.phase }, { on := 7, ground := Ground.phase }, { on := 8, ground := Ground.phase }, { on := 9, ground := Ground.phase }], guard := none }) rfl (fun K hK => ?_) (AllReadyH.nil)
    go_simp
    replace HBD := Lib.hid (HBD.out.setCell (p := ⟨g, 4, none⟩) (by simp [hg]) (.string (bs D)))
    replace HY := Lib.hid (HY.out.other (a := ⟨g, 4, none⟩) (by simp) (.string (bs D)))
    have hx2 : Cel _ g [.string (bs N), .int .i64 t, .int .i64 c, .int .i64 l, .string (bs D)] := HX.out.set (o := 4) (by simp) (.string (bs D))
    replace HX := Lib.hid hx2
    clear hx2
    clear c0 c1 c2 c3 c4 f0 f3 f4
    obtain ⟨c0, c1, c2, c3, c4⟩ := HX.out.five
    have f0 := HX.out.fz 0
    have f3 := HX.out.fz 3
    have f4 := HX.out.fz 4
    refine hK.out _ _ (HX.out.c 1 (by simp)) (fun hHeld => ?_)
    clear hK K
    try simp only [Act.put, List.setIfInBounds_toArray, List.set_cons_zero, List.set_cons_succ]
    refine wpAnyH_take (i := 12) (oi := { dst := some 13, op := Op.fieldAddr 23 (Operand.tmp 1) 3, type := 0, pos := "rec.go:119", after := #[{ on := 0, ground := Ground.phase }, { on := 1, ground := Ground.phase }, { on := 2, ground := Ground.phase }, { on := 3, ground := Ground.phase }, { on := 4, ground := Ground.phase }, { on := 5, ground := Ground.phase }, { on := 6, ground := Ground.phase }, { on := 7, ground := Ground.phase }, { on := 8, ground := Ground.phase }, { on := 9, ground := Ground.phase }, { on := 10, ground := Ground.phase }, { on := 11, ground := Ground.phase }], guard := none }) (v := ?_) rfl (by kernel_rfl) (by kernel_rfl) (by kernel_rfl) (fun _ _ _ h => h) (Or.inl ⟨by rfl, ?_⟩) (by assumption) ?_
    rotate_left 1
    · intro w hSw; (try dsimp only at hSw); go_simp; try (with_reducible rfl)
    try simp only [Act.put, List.setIfInBounds_toArray, List.set_cons_zero, List.set_cons_succ]
    refine wpAnyH_ready (rs := [13]) (by kernel_rfl) (by simp) ?_
    refine AllReadyH.cons (o := { dst := none, op := Op.store 3 (Operand.tmp 13) (Operand.const (Value.int IntKind.i64 0)), type := 0, pos := "rec.go:119", after := #[{ on := 12, ground := Ground.data }, { on := 11, ground := Ground.chain }, { on := 0, ground := Ground.phase }, { on := 1, ground := Ground.phase }, { on := 2, ground := Ground.phase }, { on := 3, ground := Ground.phase }, { on := 4, ground := Ground.phase }, { on := 5, ground := Ground.phase }, { on := 6, ground := Ground.phase }, { on := 7, ground := Ground.phase }, { on := 8, ground := Ground.phase }, { on := 9, ground := Ground.phase }, { on := 10, ground := Ground.phase }, { on := 11, ground := Ground.phase }], guard := none }) rfl (fun K hK => ?_) (AllReadyH.nil)
    go_simp
    replace HBD := Lib.hid (HBD.out.setCell (p := ⟨g, 3, none⟩) (by simp [hg]) (.int .i64 0))
    replace HY := Lib.hid (HY.out.other (a := ⟨g, 3, none⟩) (by simp) (.int .i64 0))
    have hx2 : Cel _ g [.string (bs N), .int .i64 t, .int .i64 c, .int .i64 0, .string (bs D)] := HX.out.set (o := 3) (by simp) (.int .i64 0)
    replace HX := Lib.hid hx2
    clear hx2
    clear c0 c1 c2 c3 c4 f0 f3 f4
    obtain ⟨c0, c1, c2, c3, c4⟩ := HX.out.five
    have f0 := HX.out.fz 0
    have f3 := HX.out.fz 3
    have f4 := HX.out.fz 4
    refine hK.out _ _ (HX.out.c 1 (by simp)) (fun hHeld => ?_)
    clear hK K
    try simp only [Act.put, List.setIfInBounds_toArray, List.set_cons_zero, List.set_cons_succ]
    refine wpAnyH_done (by kernel_rfl) ?_ _
    clear hHeld
    obtain ⟨r0, r1, r2, r3, r4⟩ := HY.out.five
    have q0 := HY.out.fz 0
    have q1 := HY.out.fz 1
    have q2 := HY.out.fz 2
    have q3 := HY.out.fz 3
    have q4 := HY.out.fz 4
    have W2 := ((((HY.out.set (o := 0) (by simp) (.string (bs N))).set (o := 1) (by simp) (.int .i64 t)).set (o := 2) (by simp) (.int .i64 c)).set (o := 3) (by simp) (.int .i64 0)).set (o := 4) (by simp) (.string (bs D))
    obtain ⟨x0, x1, x2, x3, x4⟩ := Cel.five (a := .string (bs N)) (b := .int .i64 t) (c := .int .i64 c) (d := .int .i64 0) (e := .string (bs D)) W2
    have hle : w.heap.size ≤ g + 1 := by omega
    have HF := Lib.hid (((((HBD.out.setCell (p := ⟨g + 1, 0, none⟩) hle (.string (bs N))).setCell (p := ⟨g + 1, 1, none⟩) hle (.int .i64 t)).setCell (p := ⟨g + 1, 2, none⟩) hle (.int .i64 c)).setCell (p := ⟨g + 1, 3, none⟩) hle (.int .i64 0)).setCell (p := ⟨g + 1, 4, none⟩) hle (.string (bs D)))
    clear W2 hle
    go_wp2_with fail
    exact bodyPost_ret (by simp [results, Try.results32, go_sem, x0, x1, x2, x3, x4]) rfl ⟨rfl, HF.out⟩
end Go.Proofs.Ytaikpgcmcmkdcaa

/-
  Which records are the same.
-/
namespace Go.Proofs.Ytaikpgcmcmkdcaa
open Go.RowKit Go.Shelf
set_option linter.unusedVariables false
set_option linter.unusedSimpArgs false
set_option maxRecDepth 100000

set_option maxHeartbeats 8000000 in
theorem sameC_any (n : List UInt8) (t c l : Int) (d : List UInt8) (n2 : List UInt8) (t2 c2 l2 : Int) (d2 : List UInt8) (hn : n.length ≤ 1000000) (hd : d.length ≤ 1000000) (hn2 : n2.length ≤ 1000000) (hd2 : d2.length ≤ 1000000) (w : World) :
    Calls Try.prog 12 #[.agg #[.string (bs n), .int .i64 t, .int .i64 c, .int .i64 l, .string (bs d)], .agg #[.string (bs n2), .int .i64 t2, .int .i64 c2, .int .i64 l2, .string (bs d2)]] w (Tells w (.bool (sameC ⟨n, t, c, l, d⟩ ⟨n2, t2, c2, l2, d2⟩))) := by
  have HC1 := Lib.hid (fun wx => checkC_any n t c l d hn hd wx)
  have HC2 := Lib.hid (fun wx => checkC_any n2 t2 c2 l2 d2 hn2 hd2 wx)
  have HL1 := Lib.hid (fun wx => lowerC_any n t c l d hn hd wx)
  have HL2 := Lib.hid (fun wx => lowerC_any n2 t2 c2 l2 d2 hn2 hd2 wx)
  obtain ⟨B, hB⟩ : ∃ B, sameC ⟨n, t, c, l, d⟩ ⟨n2, t2, c2, l2, d2⟩ = B := ⟨_, rfl⟩
  rw [hB]
  have HBv := Lib.hid hB
  clear hB
  unfold sameC lowC at HBv
  obtain ⟨C1, hC1⟩ : ∃ C, chkC ⟨n, t, c, l, d⟩ = C := ⟨_, rfl⟩
  obtain ⟨C2, hC2⟩ : ∃ C, chkC ⟨n2, t2, c2, l2, d2⟩ = C := ⟨_, rfl⟩
  rw [hC1] at HC1 HBv
  rw [hC2] at HC2 HBv
  obtain ⟨N1, hN1⟩ : ∃ N, low n = N := ⟨_, rfl⟩
  obtain ⟨N2, hN2⟩ : ∃ N, low n2 = N := ⟨_, rfl⟩
  obtain ⟨D1, hD1⟩ : ∃ D, lowD t d = D := ⟨_, rfl⟩
  obtain ⟨D2, hD2⟩ : ∃ D, lowD t2 d2 = D := ⟨_, rfl⟩
  simp only at HBv
  rw [hN1] at HL1 HBv
  rw [hN2] at HL2 HBv
  rw [hD1] at HL1 HBv
  rw [hD2] at HL2 HBv
  obtain ⟨W0, hW0⟩ : ∃ W0, (w.alloc (.cells #[.string (bs n), .int .i64 t, .int .i64 c, .int .i64 l, .string (bs d)] 23)).alloc (.cells #[.string (bs n2), .int .i64 t2, .int .i64 c2, .int .i64 l2, .string (bs d2)] 23) = W0 := ⟨_, rfl⟩
  have hb1 : Below w.heap.size w (w.alloc (.cells #[.string (bs n), .int .i64 t, .int .i64 c, .int .i64 l, .string (bs d)] 23)) := (Below.refl _ _).alloc (Nat.le_refl _) _
  have HB := Lib.hid (show Below w.heap.size w W0 from hW0 ▸ bel_alloc hb1 _)
  have hx := (cel_new w (.string (bs n)) (.int .i64 t) (.int .i64 c) (.int .i64 l) (.string (bs d)) 23).below (by simp) ((Below.refl _ _).alloc (Nat.le_refl _) (.cells #[.string (bs n2), .int .i64 t2, .int .i64 c2, .int .i64 l2, .string (bs d2)] 23))
  have hy := cel_new (w.alloc (.cells #[.string (bs n), .int .i64 t, .int .i64 c, .int .i64 l, .string (bs d)] 23)) (.string (bs n2)) (.int .i64 t2) (.int .i64 c2) (.int .i64 l2) (.string (bs d2)) 23
  rw [hW0] at hx hy
  rw [World.size_alloc] at hy
  obtain ⟨g, hg⟩ : ∃ g, w.heap.size = g := ⟨_, rfl⟩
  rw [hg] at hx hy
  have HX := Lib.hid (hx.below (by simp) (Below.refl _ W0).drew)
  have HY := Lib.hid (hy.below (by simp) (Below.refl _ W0).drew)
  have HBD := Lib.hid (bel_call HB.out (Below.refl _ W0).drew)
  clear hx hy hb1 hN1 hN2 hD1 hD2 hC1 hC2 HB
  by_cases h1 : C1 = 0
  · subst h1
    by_cases h2 : C2 = 0
    · subst h2
      have HBw := Lib.hid (show decide ((N1, t, c, D1) = (N2, t2, c2, D2)) = B by have h := HBv.out; simpa using h)
      clear HBv
      go_enter Try.func12, Try.ntmps12
      go_wp2_with fail
      refine wp_region_held_drew (S := (fun wx => (wx.cell? ⟨g, 0, none⟩ = some (.string (bs n)) ∧ wx.cell? ⟨g, 1, none⟩ = some (.int .i64 t) ∧ wx.cell? ⟨g, 2, none⟩ = some (.int .i64 c) ∧ wx.cell? ⟨g, 3, none⟩ = some (.int .i64 l) ∧ wx.cell? ⟨g, 4, none⟩ = some (.string (bs d))) ∧ (wx.cell? ⟨g + 1, 0, none⟩ = some (.string (bs n2)) ∧ wx.cell? ⟨g + 1, 1, none⟩ = some (.int .i64 t2) ∧ wx.cell? ⟨g + 1, 2, none⟩ = some (.int .i64 c2) ∧ wx.cell? ⟨g + 1, 3, none⟩ = some (.int .i64 l2) ∧ wx.cell? ⟨g + 1, 4, none⟩ = some (.string (bs d2))))) (by kernel_rfl) ⟨HX.out.five, HY.out.five⟩ (fun hHeld => ?_)
      refine wpAnyH_take (i := 0) (oi := { dst := some 5, op := Op.load 23 (Operand.tmp 2), type := 23, pos := "rec.go:38", after := #[], guard := none }) (v := ?_) rfl (by kernel_rfl) (by kernel_rfl) (by kernel_rfl) (fun _ _ _ h => h) (Or.inl ⟨by rfl, ?_⟩) (by assumption) ?_
      rotate_left 1
      · intro w hSw; (try dsimp only at hSw); go_simp; try (with_reducible rfl)
      try simp only [Act.put, List.setIfInBounds_toArray, List.set_cons_zero, List.set_cons_succ]
      refine wpAnyH_ready (rs := [1]) (by kernel_rfl) (by simp) ?_
      refine AllReadyH.cons (o := { dst := some 6, op := Op.call { callee := Callee.value (Operand.func 10), args := #[Operand.tmp 5], argTypes := #[23] }, type := 26, pos := "rec.go:38", after := #[{ on := 0, ground := Ground.data }], guard := none }) rfl (fun K hK => ?_) (AllReadyH.nil)
      go_simp
      refine (HC1.out _).mono ?_; rintro e w1 ⟨rfl, hb⟩
      replace HX := Lib.hid (HX.out.below (by simp) hb)
      replace HY := Lib.hid (HY.out.below (by simp) hb)
      replace HBD := Lib.hid (bel_call HBD.out hb)
      clear hb
      try go_wp2_with fail
      refine hK.out _ _ ⟨HX.out.five, HY.out.five⟩ (fun hHeld => ?_)
      clear hK K
      try simp only [Act.put, List.setIfInBounds_toArray, List.set_cons_zero, List.set_cons_succ]
      refine wpAnyH_take (i := 2) (oi := { dst := some 7, op := Op.binOp BinOp.eql 26 (Operand.tmp 6) (Operand.const (Value.int IntKind.i64 0)) 26, type := 4, pos := "rec.go:38", after := #[{ on := 1, ground := Ground.data }], guard := none }) (v := ?_) rfl (by kernel_rfl) (by kernel_rfl) (by kernel_rfl) (fun _ _ _ h => h) (Or.inl ⟨by rfl, ?_⟩) (by assumption) ?_
      rotate_left 1
      · intro w hSw; (try dsimp only at hSw); go_simp; try (with_reducible rfl)
      try simp only [Act.put, List.setIfInBounds_toArray, List.set_cons_zero, List.set_cons_succ]
      refine wpAnyH_take (i := 3) (oi := { dst := some 8, op := Op.move (Operand.tmp 7), type := 4, pos := "rec.go:38", after := #[{ on := 2, ground := Ground.data }, { on := 1, ground := Ground.chain }], guard := none }) (v := ?_) rfl (by kernel_rfl) (by kernel_rfl) (by kernel_rfl) (fun _ _ _ h => h) (Or.inl ⟨by rfl, ?_⟩) (by assumption) ?_
      rotate_left 1
      · intro w hSw; (try dsimp only at hSw); go_simp; try (with_reducible rfl)
      try simp only [Act.put, List.setIfInBounds_toArray, List.set_cons_zero, List.set_cons_succ]
      refine wpAnyH_take (i := 4) (oi := { dst := some 9, op := Op.load 23 (Operand.tmp 3), type := 23, pos := "rec.go:38", after := #[{ on := 3, ground := Ground.guard }], guard := some (3, true) }) (v := ?_) rfl (by kernel_rfl) (by kernel_rfl) (by kernel_rfl) (fun _ _ _ h => h) (Or.inl ⟨by rfl, ?_⟩) (by assumption) ?_
      rotate_left 1
      · intro w hSw; (try dsimp only at hSw); go_simp; try (with_reducible rfl)
      try simp only [Act.put, List.setIfInBounds_toArray, List.set_cons_zero, List.set_cons_succ]
      refine wpAnyH_ready (rs := [5]) (by kernel_rfl) (by simp) ?_
      refine AllReadyH.cons (o := { dst := some 10, op := Op.call { callee := Callee.value (Operand.func 10), args := #[Operand.tmp 9], argTypes := #[23] }, type := 26, pos := "rec.go:38", after := #[{ on := 4, ground := Ground.data }, { on := 3, ground := Ground.chain }, { on := 3, ground := Ground.guard }], guard := some (3, true) }) rfl (fun K hK => ?_) (AllReadyH.nil)
      go_simp
      refine (HC2.out _).mono ?_; rintro e w1 ⟨rfl, hb⟩
      replace HX := Lib.hid (HX.out.below (by simp) hb)
      replace HY := Lib.hid (HY.out.below (by simp) hb)
      replace HBD := Lib.hid (bel_call HBD.out hb)
      clear hb
      try go_wp2_with fail
      refine hK.out _ _ ⟨HX.out.five, HY.out.five⟩ (fun hHeld => ?_)
      clear hK K
      try simp only [Act.put, List.setIfInBounds_toArray, List.set_cons_zero, List.set_cons_succ]
      refine wpAnyH_take (i := 6) (oi := { dst := some 11, op := Op.binOp BinOp.eql 26 (Operand.tmp 10) (Operand.const (Value.int IntKind.i64 0)) 26, type := 4, pos := "rec.go:38", after := #[{ on := 5, ground := Ground.data }, { on := 3, ground := Ground.guard }], guard := some (3, true) }) (v := ?_) rfl (by kernel_rfl) (by kernel_rfl) (by kernel_rfl) (fun _ _ _ h => h) (Or.inl ⟨by rfl, ?_⟩) (by assumption) ?_
      rotate_left 1
      · intro w hSw; (try dsimp only at hSw); go_simp; try (with_reducible rfl)
      try simp only [Act.put, List.setIfInBounds_toArray, List.set_cons_zero, List.set_cons_succ]
      refine wpAnyH_take (i := 7) (oi := { dst := some 12, op := Op.pick (Operand.tmp 8) (Operand.tmp 11) (Operand.const (Value.bool false)), type := 4, pos := "rec.go:38", after := #[{ on := 3, ground := Ground.data }, { on := 6, ground := Ground.data }], guard := none }) (v := ?_) rfl (by kernel_rfl) (by kernel_rfl) (by kernel_rfl) (fun _ _ _ h => h) (Or.inl ⟨by rfl, ?_⟩) (by assumption) ?_
      rotate_left 1
      · intro w hSw; (try dsimp only at hSw); go_simp; try (with_reducible rfl)
      try simp only [Act.put, List.setIfInBounds_toArray, List.set_cons_zero, List.set_cons_succ]
      refine wpAnyH_take (i := 8) (oi := { dst := some 13, op := Op.move (Operand.tmp 12), type := 4, pos := "rec.go:38", after := #[{ on := 7, ground := Ground.data }, { on := 5, ground := Ground.chain }], guard := none }) (v := ?_) rfl (by kernel_rfl) (by kernel_rfl) (by kernel_rfl) (fun _ _ _ h => h) (Or.inl ⟨by rfl, ?_⟩) (by assumption) ?_
      rotate_left 1
      · intro w hSw; (try dsimp only at hSw); go_simp; try (with_reducible rfl)
      try simp only [Act.put, List.setIfInBounds_toArray, List.set_cons_zero, List.set_cons_succ]
      refine wpAnyH_take (i := 9) (oi := { dst := some 14, op := Op.load 23 (Operand.tmp 2), type := 23, pos := "rec.go:38", after := #[{ on := 8, ground := Ground.guard }], guard := some (8, true) }) (v := ?_) rfl (by kernel_rfl) (by kernel_rfl) (by kernel_rfl) (fun _ _ _ h => h) (Or.inl ⟨by rfl, ?_⟩) (by assumption) ?_
      rotate_left 1
      · intro w hSw; (try dsimp only at hSw); go_simp; try (with_reducible rfl)
      try simp only [Act.put, List.setIfInBounds_toArray, List.set_cons_zero, List.set_cons_succ]
      refine wpAnyH_take (i := 11) (oi := { dst := some 16, op := Op.load 23 (Operand.tmp 3), type := 23, pos := "rec.go:38", after := #[{ on := 8, ground := Ground.guard }], guard := some (8, true) }) (v := ?_) rfl (by kernel_rfl) (by kernel_rfl) (by kernel_rfl) (fun _ _ _ h => h) (Or.inl ⟨by rfl, ?_⟩) (by assumption) ?_
      rotate_left 1
      · intro w hSw; (try dsimp only at hSw); go_simp; try (with_reducible rfl)
      try simp only [Act.put, List.setIfInBounds_toArray, List.set_cons_zero, List.set_cons_succ]
      refine wpAnyH_ready (rs := [10]) (by kernel_rfl) (by simp) ?_
      refine AllReadyH.cons (o := { dst := some 15, op := Op.call { callee := Callee.value (Operand.func 32), args := #[Operand.tmp 14], argTypes := #[23] }, type := 23, pos := "rec.go:38", after := #[{ on := 9, ground := Ground.data }, { on := 8, ground := Ground.chain }, { on := 8, ground := Ground.guard }], guard := some (8, true) }) rfl (fun K hK => ?_) (AllReadyH.nil)
      go_simp
      refine (HL1.out _).mono ?_; rintro e w1 ⟨rfl, hb⟩
      replace HX := Lib.hid (HX.out.below (by simp) hb)
      replace HY := Lib.hid (HY.out.below (by simp) hb)
      replace HBD := Lib.hid (bel_call HBD.out hb)
      clear hb
      try go_wp2_with fail
      refine hK.out _ _ ⟨HX.out.five, HY.out.five⟩ (fun hHeld => ?_)
      clear hK K
      try simp only [Act.put, List.setIfInBounds_toArray, List.set_cons_zero, List.set_cons_succ]
      refine wpAnyH_ready (rs := [12]) (by kernel_rfl) (by simp) ?_
      refine AllReadyH.cons (o := { dst := some 17, op := Op.call { callee := Callee.value (Operand.func 32), args := #[Operand.tmp 16], argTypes := #[23] }, type := 23, pos := "rec.go:38", after := #[{ on := 11, ground := Ground.data }, { on := 10, ground := Ground.chain }, { on := 8, ground := Ground.guard }], guard := some (8, true) }) rfl (fun K hK => ?_) (AllReadyH.nil)
      go_simp
      refine (HL2.out _).mono ?_; rintro e w1 ⟨rfl, hb⟩
      replace HX := Lib.hid (HX.out.below (by simp) hb)
      replace HY := Lib.hid (HY.out.below (by simp) hb)
      replace HBD := Lib.hid (bel_call HBD.out hb)
      clear hb
      try go_wp2_with fail
      refine hK.out _ _ ⟨HX.out.five, HY.out.five⟩ (fun hHeld => ?_)
      clear hK K
      try simp only [Act.put, List.setIfInBounds_toArray, List.set_cons_zero, List.set_cons_succ]
      refine wpAnyH_take (i := 13) (oi := { dst := some 18, op := Op.binOp BinOp.eql 23 (Operand.tmp 15) (Operand.tmp 17) 23, type := 4, pos := "rec.go:38", after := #[{ on := 10, ground := Ground.data }, { on := 12, ground := Ground.data }, { on := 8, ground := Ground.guard }], guard := some (8, true) }) (v := Value.bool B) rfl (by kernel_rfl) (by kernel_rfl) (by kernel_rfl) (fun _ _ _ h => h) (Or.inl ⟨by rfl, ?_⟩) (by assumption) ?_
      · intro w hSw; (try dsimp only at hSw); go_simp; rw [bs_toList, bs_toList, bs_toList, bs_toList, ← HBw.out]; (by_cases h1 : N1 = N2 <;> by_cases h2 : t = t2 <;> by_cases h3 : c = c2 <;> by_cases h4 : D1 = D2 <;> simp [h1, h2, h3, h4])
      try simp only [Act.put, List.setIfInBounds_toArray, List.set_cons_zero, List.set_cons_succ]
      refine wpAnyH_take (i := 14) (oi := { dst := some 19, op := Op.pick (Operand.tmp 13) (Operand.tmp 18) (Operand.const (Value.bool false)), type := 4, pos := "rec.go:38", after := #[{ on := 8, ground := Ground.data }, { on := 13, ground := Ground.data }], guard := none }) (v := ?_) rfl (by kernel_rfl) (by kernel_rfl) (by kernel_rfl) (fun _ _ _ h => h) (Or.inl ⟨by rfl, ?_⟩) (by assumption) ?_
      rotate_left 1
      · intro w hSw; (try dsimp only at hSw); go_simp; try (with_reducible rfl)
      try simp only [Act.put, List.setIfInBounds_toArray, List.set_cons_zero, List.set_cons_succ]
      refine wpAnyH_take (i := 15) (oi := { dst := some 4, op := Op.assign (Operand.tmp 19), type := 4, pos := "rec.go:38", after := #[{ on := 14, ground := Ground.data }, { on := 12, ground := Ground.chain }, { on := 0, ground := Ground.phase }, { on := 1, ground := Ground.phase }, { on := 2, ground := Ground.phase }, { on := 3, ground := Ground.phase }, { on := 4, ground := Ground.phase }, { on := 5, ground := Ground.phase }, { on := 6, ground := Ground.phase }, { on := 7, ground := Ground.phase }, { on := 8, ground := Ground.phase }, { on := 9, ground := Ground.phase }, { on := 10, ground := Ground.phase }, { on := 11, ground := Ground.phase }, { on := 12, ground := Ground.phase }, { on := 13, ground := Ground.phase }, { on := 14, ground := Ground.phase }], guard := none }) (v := ?_) rfl (by kernel_rfl) (by kernel_rfl) (by kernel_rfl) (fun _ _ _ h => h) (Or.inl ⟨by rfl, ?_⟩) (by assumption) ?_
      rotate_left 1
      · intro w hSw; (try dsimp only at hSw); go_simp; try (with_reducible rfl)
      try simp only [Act.put, List.setIfInBounds_toArray, List.set_cons_zero, List.set_cons_succ]
      refine wpAnyH_done (by kernel_rfl) ?_ _
      clear hHeld
      go_wp2_with fail
      go_ret
      exact ⟨by first | rfl | (rw [← HBw.out]; rfl), HBD.out⟩
    · have te : (C2 == 0) = false := by simpa using h2
      have HBw := Lib.hid (show false = B by have h := HBv.out; rw [← h]; simp [h2])
      clear HBv h2
      go_enter Try.func12, Try.ntmps12
      go_wp2_with fail
      refine wp_region_held_drew (S := (fun wx => (wx.cell? ⟨g, 0, none⟩ = some (.string (bs n)) ∧ wx.cell? ⟨g, 1, none⟩ = some (.int .i64 t) ∧ wx.cell? ⟨g, 2, none⟩ = some (.int .i64 c) ∧ wx.cell? ⟨g, 3, none⟩ = some (.int .i64 l) ∧ wx.cell? ⟨g, 4, none⟩ = some (.string (bs d))) ∧ (wx.cell? ⟨g + 1, 0, none⟩ = some (.string (bs n2)) ∧ wx.cell? ⟨g + 1, 1, none⟩ = some (.int .i64 t2) ∧ wx.cell? ⟨g + 1, 2, none⟩ = some (.int .i64 c2) ∧ wx.cell? ⟨g + 1, 3, none⟩ = some (.int .i64 l2) ∧ wx.cell? ⟨g + 1, 4, none⟩ = some (.string (bs d2))))) (by kernel_rfl) ⟨HX.out.five, HY.out.five⟩ (fun hHeld => ?_)
      refine wpAnyH_take (i := 0) (oi := { dst := some 5, op := Op.load 23 (Operand.tmp 2), type := 23, pos := "rec.go:38", after := #[], guard := none }) (v := ?_) rfl (by kernel_rfl) (by kernel_rfl) (by kernel_rfl) (fun _ _ _ h => h) (Or.inl ⟨by rfl, ?_⟩) (by assumption) ?_
      rotate_left 1
      · intro w hSw; (try dsimp only at hSw); go_simp; try (with_reducible rfl)
      try simp only [Act.put, List.setIfInBounds_toArray, List.set_cons_zero, List.set_cons_succ]
      refine wpAnyH_ready (rs := [1]) (by kernel_rfl) (by simp) ?_
      refine AllReadyH.cons (o := { dst := some 6, op := Op.call { callee := Callee.value (Operand.func 10), args := #[Operand.tmp 5], argTypes := #[23] }, type := 26, pos := "rec.go:38", after := #[{ on := 0, ground := Ground.data }], guard := none }) rfl (fun K hK => ?_) (AllReadyH.nil)
      go_simp
      refine (HC1.out _).mono ?_; rintro e w1 ⟨rfl, hb⟩
      replace HX := Lib.hid (HX.out.below (by simp) hb)
      replace HY := Lib.hid (HY.out.below (by simp) hb)
      replace HBD := Lib.hid (bel_call HBD.out hb)
      clear hb
      try go_wp2_with fail
      refine hK.out _ _ ⟨HX.out.five, HY.out.five⟩ (fun hHeld => ?_)
      clear hK K
      try simp only [Act.put, List.setIfInBounds_toArray, List.set_cons_zero, List.set_cons_succ]
      refine wpAnyH_take (i := 2) (oi := { dst := some 7, op := Op.binOp BinOp.eql 26 (Operand.tmp 6) (Operand.const (Value.int IntKind.i64 0)) 26, type := 4, pos := "rec.go:38", after := #[{ on := 1, ground := Ground.data }], guard := none }) (v := ?_) rfl (by kernel_rfl) (by kernel_rfl) (by kernel_rfl) (fun _ _ _ h => h) (Or.inl ⟨by rfl, ?_⟩) (by assumption) ?_
      rotate_left 1
      · intro w hSw; (try dsimp only at hSw); go_simp; try (with_reducible rfl)
      try simp only [Act.put, List.setIfInBounds_toArray, List.set_cons_zero, List.set_cons_succ]
      refine wpAnyH_take (i := 3) (oi := { dst := some 8, op := Op.move (Operand.tmp 7), type := 4, pos := "rec.go:38", after := #[{ on := 2, ground := Ground.data }, { on := 1, ground := Ground.chain }], guard := none }) (v := ?_) rfl (by kernel_rfl) (by kernel_rfl) (by kernel_rfl) (fun _ _ _ h => h) (Or.inl ⟨by rfl, ?_⟩) (by assumption) ?_
      rotate_left 1
      · intro w hSw; (try dsimp only at hSw); go_simp; try (with_reducible rfl)
      try simp only [Act.put, List.setIfInBounds_toArray, List.set_cons_zero, List.set_cons_succ]
      refine wpAnyH_take (i := 4) (oi := { dst := some 9, op := Op.load 23 (Operand.tmp 3), type := 23, pos := "rec.go:38", after := #[{ on := 3, ground := Ground.guard }], guard := some (3, true) }) (v := ?_) rfl (by kernel_rfl) (by kernel_rfl) (by kernel_rfl) (fun _ _ _ h => h) (Or.inl ⟨by rfl, ?_⟩) (by assumption) ?_
      rotate_left 1
      · intro w hSw; (try dsimp only at hSw); go_simp; try (with_reducible rfl)
      try simp only [Act.put, List.setIfInBounds_toArray, List.set_cons_zero, List.set_cons_succ]
      refine wpAnyH_ready (rs := [5]) (by kernel_rfl) (by simp) ?_
      refine AllReadyH.cons (o := { dst := some 10, op := Op.call { callee := Callee.value (Operand.func 10), args := #[Operand.tmp 9], argTypes := #[23] }, type := 26, pos := "rec.go:38", after := #[{ on := 4, ground := Ground.data }, { on := 3, ground := Ground.chain }, { on := 3, ground := Ground.guard }], guard := some (3, true) }) rfl (fun K hK => ?_) (AllReadyH.nil)
      go_simp
      refine (HC2.out _).mono ?_; rintro e w1 ⟨rfl, hb⟩
      replace HX := Lib.hid (HX.out.below (by simp) hb)
      replace HY := Lib.hid (HY.out.below (by simp) hb)
      replace HBD := Lib.hid (bel_call HBD.out hb)
      clear hb
      try go_wp2_with fail
      refine hK.out _ _ ⟨HX.out.five, HY.out.five⟩ (fun hHeld => ?_)
      clear hK K
      try simp only [Act.put, List.setIfInBounds_toArray, List.set_cons_zero, List.set_cons_succ]
      refine wpAnyH_take (i := 6) (oi := { dst := some 11, op := Op.binOp BinOp.eql 26 (Operand.tmp 10) (Operand.const (Value.int IntKind.i64 0)) 26, type := 4, pos := "rec.go:38", after := #[{ on := 5, ground := Ground.data }, { on := 3, ground := Ground.guard }], guard := some (3, true) }) (v := ?_) rfl (by kernel_rfl) (by kernel_rfl) (by kernel_rfl) (fun _ _ _ h => h) (Or.inl ⟨by rfl, ?_⟩) (by assumption) ?_
      rotate_left 1
      · intro w hSw; (try dsimp only at hSw); go_simp; try (with_reducible rfl)
      try simp only [Act.put, List.setIfInBounds_toArray, List.set_cons_zero, List.set_cons_succ]
      refine wpAnyH_take (i := 7) (oi := { dst := some 12, op := Op.pick (Operand.tmp 8) (Operand.tmp 11) (Operand.const (Value.bool false)), type := 4, pos := "rec.go:38", after := #[{ on := 3, ground := Ground.data }, { on := 6, ground := Ground.data }], guard := none }) (v := ?_) rfl (by kernel_rfl) (by kernel_rfl) (by kernel_rfl) (fun _ _ _ h => h) (Or.inl ⟨by rfl, ?_⟩) (by assumption) ?_
      rotate_left 1
      · intro w hSw; (try dsimp only at hSw); go_simp; try (with_reducible rfl)
      try simp only [Act.put, List.setIfInBounds_toArray, List.set_cons_zero, List.set_cons_succ]
      refine wpAnyH_take (i := 8) (oi := { dst := some 13, op := Op.move (Operand.tmp 12), type := 4, pos := "rec.go:38", after := #[{ on := 7, ground := Ground.data }, { on := 5, ground := Ground.chain }], guard := none }) (v := ?_) rfl (by kernel_rfl) (by kernel_rfl) (by kernel_rfl) (fun _ _ _ h => h) (Or.inl ⟨by rfl, ?_⟩) (by assumption) ?_
      rotate_left 1
      · intro w hSw; (try dsimp only at hSw); go_simp; try (with_reducible rfl)
      try simp only [Act.put, List.setIfInBounds_toArray, List.set_cons_zero, List.set_cons_succ]
      refine wpAnyH_take (i := 9) (oi := { dst := some 14, op := Op.load 23 (Operand.tmp 2), type := 23, pos := "rec.go:38", after := #[{ on := 8, ground := Ground.guard }], guard := some (8, true) }) (v := undef) rfl (by kernel_rfl) (by kernel_rfl) (by kernel_rfl) (fun _ _ _ h => h) (Or.inr ⟨by rfl, rfl⟩) (by assumption) ?_
      try simp only [Act.put, List.setIfInBounds_toArray, List.set_cons_zero, List.set_cons_succ]
      refine wpAnyH_take (i := 10) (oi := { dst := some 15, op := Op.call { callee := Callee.value (Operand.func 32), args := #[Operand.tmp 14], argTypes := #[23] }, type := 23, pos := "rec.go:38", after := #[{ on := 9, ground := Ground.data }, { on := 8, ground := Ground.chain }, { on := 8, ground := Ground.guard }], guard := some (8, true) }) (v := undef) rfl (by kernel_rfl) (by kernel_rfl) (by kernel_rfl) (fun _ _ _ h => h) (Or.inr ⟨by rfl, rfl⟩) (by assumption) ?_
      try simp only [Act.put, List.setIfInBounds_toArray, List.set_cons_zero, List.set_cons_succ]
      refine wpAnyH_take (i := 11) (oi := { dst := some 16, op := Op.load 23 (Operand.tmp 3), type := 23, pos := "rec.go:38", after := #[{ on := 8, ground := Ground.guard }], guard := some (8, true) }) (v := undef) rfl (by kernel_rfl) (by kernel_rfl) (by kernel_rfl) (fun _ _ _ h => h) (Or.inr ⟨by rfl, rfl⟩) (by assumption) ?_
      try simp only [Act.put, List.setIfInBounds_toArray, List.set_cons_zero, List.set_cons_succ]
      refine wpAnyH_take (i := 12) (oi := { dst := some 17, op := Op.call { callee := Callee.value (Operand.func 32), args := #[Operand.tmp 16], argTypes := #[23] }, type := 23, pos := "rec.go:38", after := #[{ on := 11, ground := Ground.data }, { on := 10, ground := Ground.chain }, { on := 8, ground := Ground.guard }], guard := some (8, true) }) (v := undef) rfl (by kernel_rfl) (by kernel_rfl) (by kernel_rfl) (fun _ _ _ h => h) (Or.inr ⟨by rfl, rfl⟩) (by assumption) ?_
      try simp only [Act.put, List.setIfInBounds_toArray, List.set_cons_zero, List.set_cons_succ]
      refine wpAnyH_take (i := 13) (oi := { dst := some 18, op := Op.binOp BinOp.eql 23 (Operand.tmp 15) (Operand.tmp 17) 23, type := 4, pos := "rec.go:38", after := #[{ on := 10, ground := Ground.data }, { on := 12, ground := Ground.data }, { on := 8, ground := Ground.guard }], guard := some (8, true) }) (v := undef) rfl (by kernel_rfl) (by kernel_rfl) (by kernel_rfl) (fun _ _ _ h => h) (Or.inr ⟨by rfl, rfl⟩) (by assumption) ?_
      try simp only [Act.put, List.setIfInBounds_toArray, List.set_cons_zero, List.set_cons_succ]
      refine wpAnyH_take (i := 14) (oi := { dst := some 19, op := Op.pick (Operand.tmp 13) (Operand.tmp 18) (Operand.const (Value.bool false)), type := 4, pos := "rec.go:38", after := #[{ on := 8, ground := Ground.data }, { on := 13, ground := Ground.data }], guard := none }) (v := ?_) rfl (by kernel_rfl) (by kernel_rfl) (by kernel_rfl) (fun _ _ _ h => h) (Or.inl ⟨by rfl, ?_⟩) (by assumption) ?_
      rotate_left 1
      · intro w hSw; (try dsimp only at hSw); go_simp; try (with_reducible rfl)
      try simp only [Act.put, List.setIfInBounds_toArray, List.set_cons_zero, List.set_cons_succ]
      refine wpAnyH_take (i := 15) (oi := { dst := some 4, op := Op.assign (Operand.tmp 19), type := 4, pos := "rec.go:38", after := #[{ on := 14, ground := Ground.data }, { on := 12, ground := Ground.chain }, { on := 0, ground := Ground.phase }, { on := 1, ground := Ground.phase }, { on := 2, ground := Ground.phase }, { on := 3, ground := Ground.phase }, { on := 4, ground := Ground.phase }, { on := 5, ground := Ground.phase }, { on := 6, ground := Ground.phase }, { on := 7, ground := Ground.phase }, { on := 8, ground := Ground.phase }, { on := 9, ground := Ground.phase }, { on := 10, ground := Ground.phase }, { on := 11, ground := Ground.phase }, { on := 12, ground := Ground.phase }, { on := 13, ground := Ground.phase }, { on := 14, ground := Ground.phase }], guard := none }) (v := ?_) rfl (by kernel_rfl) (by kernel_rfl) (by kernel_rfl) (fun _ _ _ h => h) (Or.inl ⟨by rfl, ?_⟩) (by assumption) ?_
      rotate_left 1
      · intro w hSw; (try dsimp only at hSw); go_simp; try (with_reducible rfl)
      try simp only [Act.put, List.setIfInBounds_toArray, List.set_cons_zero, List.set_cons_succ]
      refine wpAnyH_done (by kernel_rfl) ?_ _
      clear hHeld
      go_wp2_with fail
      go_ret
      exact ⟨by first | rfl | (rw [← HBw.out]; rfl), HBD.out⟩
  · have te : (C1 == 0) = false := by simpa using h1
    have HBw := Lib.hid (show false = B by have h := HBv.out; rw [← h]; simp [h1])
    clear HBv h1
    go_enter Try.func12, Try.ntmps12
    go_wp2_with fail
    refine wp_region_held_drew (S := (fun wx => (wx.cell? ⟨g, 0, none⟩ = some (.string (bs n)) ∧ wx.cell? ⟨g, 1, none⟩ = some (.int .i64 t) ∧ wx.cell? ⟨g, 2, none⟩ = some (.int .i64 c) ∧ wx.cell? ⟨g, 3, none⟩ = some (.int .i64 l) ∧ wx.cell? ⟨g, 4, none⟩ = some (.string (bs d))) ∧ (wx.cell? ⟨g + 1, 0, none⟩ = some (.string (bs n2)) ∧ wx.cell? ⟨g + 1, 1, none⟩ = some (.int .i64 t2) ∧ wx.cell? ⟨g + 1, 2, none⟩ = some (.int .i64 c2) ∧ wx.cell? ⟨g + 1, 3, none⟩ = some (.int .i64 l2) ∧ wx.cell? ⟨g + 1, 4, none⟩ = some (.string (bs d2))))) (by kernel_rfl) ⟨HX.out.five, HY.out.five⟩ (fun hHeld => ?_)
    refine wpAnyH_take (i := 0) (oi := { dst := some 5, op := Op.load 23 (Operand.tmp 2), type := 23, pos := "rec.go:38", after := #[], guard := none }) (v := ?_) rfl (by kernel_rfl) (by kernel_rfl) (by kernel_rfl) (fun _ _ _ h => h) (Or.inl ⟨by rfl, ?_⟩) (by assumption) ?_
    rotate_left 1
    · intro w hSw; (try dsimp only at hSw); go_simp; try (with_reducible rfl)
    try simp only [Act.put, List.setIfInBounds_toArray, List.set_cons_zero, List.set_cons_succ]
    refine wpAnyH_ready (rs := [1]) (by kernel_rfl) (by simp) ?_
    refine AllReadyH.cons (o := { dst := some 6, op := Op.call { callee := Callee.value (Operand.func 10), args := #[Operand.tmp 5], argTypes := #[23] }, type := 26, pos := "rec.go:38", after := #[{ on := 0, ground := Ground.data }], guard := none }) rfl (fun K hK => ?_) (AllReadyH.nil)
    go_simp
    refine (HC1.out _).mono ?_; rintro e w1 ⟨rfl, hb⟩
    replace HX := Lib.hid (HX.out.below (by simp) hb)
    replace HY := Lib.hid (HY.out.below (by simp) hb)
    replace HBD := Lib.hid (bel_call HBD.out hb)
    clear hb
    try go_wp2_with fail
    refine hK.out _ _ ⟨HX.out.five, HY.out.five⟩ (fun hHeld => ?_)
    clear hK K
    try simp only [Act.put, List.setIfInBounds_toArray, List.set_cons_zero, List.set_cons_succ]
    refine wpAnyH_take (i := 2) (oi := { dst := some 7, op := Op.binOp BinOp.eql 26 (Operand.tmp 6) (Operand.const (Value.int IntKind.i64 0)) 26, type := 4, pos := "rec.go:38", after := #[{ on := 1, ground := Ground.data }], guard := none }) (v := ?_) rfl (by kernel_rfl) (by kernel_rfl) (by kernel_rfl) (fun _ _ _ h => h) (Or.inl ⟨by rfl, ?_⟩) (by assumption) ?_
    rotate_left 1
    · intro w hSw; (try dsimp only at hSw); go_simp; try (with_reducible rfl)
    try simp only [Act.put, List.setIfInBounds_toArray, List.set_cons_zero, List.set_cons_succ]
    refine wpAnyH_take (i := 3) (oi := { dst := some 8, op := Op.move (Operand.tmp 7), type := 4, pos := "rec.go:38", after := #[{ on := 2, ground := Ground.data }, { on := 1, ground := Ground.chain }], guard := none }) (v := ?_) rfl (by kernel_rfl) (by kernel_rfl) (by kernel_rfl) (fun _ _ _ h => h) (Or.inl ⟨by rfl, ?_⟩) (by assumption) ?_
    rotate_left 1
    · intro w hSw; (try dsimp only at hSw); go_simp; try (with_reducible rfl)
    try simp only [Act.put, List.setIfInBounds_toArray, List.set_cons_zero, List.set_cons_succ]
    refine wpAnyH_take (i := 4) (oi := { dst := some 9, op := Op.load 23 (Operand.tmp 3), type := 23, pos := "rec.go:38", after := #[{ on := 3, ground := Ground.guard }], guard := some (3, true) }) (v := undef) rfl (by kernel_rfl) (by kernel_rfl) (by kernel_rfl) (fun _ _ _ h => h) (Or.inr ⟨by rfl, rfl⟩) (by assumption) ?_
    try simp only [Act.put, List.setIfInBounds_toArray, List.set_cons_zero, List.set_cons_succ]
    refine wpAnyH_take (i := 5) (oi := { dst := some 10, op := Op.call { callee := Callee.value (Operand.func 10), args := #[Operand.tmp 9], argTypes := #[23] }, type := 26, pos := "rec.go:38", after := #[{ on := 4, ground := Ground.data }, { on := 3, ground := Ground.chain }, { on := 3, ground := Ground.guard }], guard := some (3, true) }) (v := undef) rfl (by kernel_rfl) (by kernel_rfl) (by kernel_rfl) (fun _ _ _ h => h) (Or.inr ⟨by rfl, rfl⟩) (by assumption) ?_
    try simp only [Act.put, List.setIfInBounds_toArray, List.set_cons_zero, List.set_cons_succ]
    refine wpAnyH_take (i := 6) (oi := { dst := some 11, op := Op.binOp BinOp.eql 26 (Operand.tmp 10) (Operand.const (Value.int IntKind.i64 0)) 26, type := 4, pos := "rec.go:38", after := #[{ on := 5, ground := Ground.data }, { on := 3, ground := Ground.guard }], guard := some (3, true) }) (v := undef) rfl (by kernel_rfl) (by kernel_rfl) (by kernel_rfl) (fun _ _ _ h => h) (Or.inr ⟨by rfl, rfl⟩) (by assumption) ?_
    try simp only [Act.put, List.setIfInBounds_toArray, List.set_cons_zero, List.set_cons_succ]
    refine wpAnyH_take (i := 7) (oi := { dst := some 12, op := Op.pick (Operand.tmp 8) (Operand.tmp 11) (Operand.const (Value.bool false)), type := 4, pos := "rec.go:38", after := #[{ on := 3, ground := Ground.data }, { on := 6, ground := Ground.data }], guard := none }) (v := ?_) rfl (by kernel_rfl) (by kernel_rfl) (by kernel_rfl) (fun _ _ _ h => h) (Or.inl ⟨by rfl, ?_⟩) (by assumption) ?_
    rotate_left 1
    · intro w hSw; (try dsimp only at hSw); go_simp; try (with_reducible rfl)
    try simp only [Act.put, List.setIfInBounds_toArray, List.set_cons_zero, List.set_cons_succ]
    refine wpAnyH_take (i := 8) (oi := { dst := some 13, op := Op.move (Operand.tmp 12), type := 4, pos := "rec.go:38", after := #[{ on := 7, ground := Ground.data }, { on := 5, ground := Ground.chain }], guard := none }) (v := ?_) rfl (by kernel_rfl) (by kernel_rfl) (by kernel_rfl) (fun _ _ _ h => h) (Or.inl ⟨by rfl, ?_⟩) (by assumption) ?_
    rotate_left 1
    · intro w hSw; (try dsimp only at hSw); go_simp; try (with_reducible rfl)
    try simp only [Act.put, List.setIfInBounds_toArray, List.set_cons_zero, List.set_cons_succ]
    refine wpAnyH_take (i := 9) (oi := { dst := some 14, op := Op.load 23 (Operand.tmp 2), type := 23, pos := "rec.go:38", after := #[{ on := 8, ground := Ground.guard }], guard := some (8, true) }) (v := undef) rfl (by kernel_rfl) (by kernel_rfl) (by kernel_rfl) (fun _ _ _ h => h) (Or.inr ⟨by rfl, rfl⟩) (by assumption) ?_
    try simp only [Act.put, List.setIfInBounds_toArray, List.set_cons_zero, List.set_cons_succ]
    refine wpAnyH_take (i := 10) (oi := { dst := some 15, op := Op.call { callee := Callee.value (Operand.func 32), args := #[Operand.tmp 14], argTypes := #[23] }, type := 23, pos := "rec.go:38", after := #[{ on := 9, ground := Ground.data }, { on := 8, ground := Ground.chain }, { on := 8, ground := Ground.guard }], guard := some (8, true) }) (v := undef) rfl (by kernel_rfl) (by kernel_rfl) (by kernel_rfl) (fun _ _ _ h => h) (Or.inr ⟨by rfl, rfl⟩) (by assumption) ?_
    try simp only [Act.put, List.setIfInBounds_toArray, List.set_cons_zero, List.set_cons_succ]
    refine wpAnyH_take (i := 11) (oi := { dst := some 16, op := Op.load 23 (Operand.tmp 3), type := 23, pos := "rec.go:38", after := #[{ on := 8, ground := Ground.guard }], guard := some (8, true) }) (v := undef) rfl (by kernel_rfl) (by kernel_rfl) (by kernel_rfl) (fun _ _ _ h => h) (Or.inr ⟨by rfl, rfl⟩) (by assumption) ?_
    try simp only [Act.put, List.setIfInBounds_toArray, List.set_cons_zero, List.set_cons_succ]
    refine wpAnyH_take (i := 12) (oi := { dst := some 17, op := Op.call { callee := Callee.value (Operand.func 32), args := #[Operand.tmp 16], argTypes := #[23] }, type := 23, pos := "rec.go:38", after := #[{ on := 11, ground := Ground.data }, { on := 10, ground := Ground.chain }, { on := 8, ground := Ground.guard }], guard := some (8, true) }) (v := undef) rfl (by kernel_rfl) (by kernel_rfl) (by kernel_rfl) (fun _ _ _ h => h) (Or.inr ⟨by rfl, rfl⟩) (by assumption) ?_
    try simp only [Act.put, List.setIfInBounds_toArray, List.set_cons_zero, List.set_cons_succ]
    refine wpAnyH_take (i := 13) (oi := { dst := some 18, op := Op.binOp BinOp.eql 23 (Operand.tmp 15) (Operand.tmp 17) 23, type := 4, pos := "rec.go:38", after := #[{ on := 10, ground := Ground.data }, { on := 12, ground := Ground.data }, { on := 8, ground := Ground.guard }], guard := some (8, true) }) (v := undef) rfl (by kernel_rfl) (by kernel_rfl) (by kernel_rfl) (fun _ _ _ h => h) (Or.inr ⟨by rfl, rfl⟩) (by assumption) ?_
    try simp only [Act.put, List.setIfInBounds_toArray, List.set_cons_zero, List.set_cons_succ]
    refine wpAnyH_take (i := 14) (oi := { dst := some 19, op := Op.pick (Operand.tmp 13) (Operand.tmp 18) (Operand.const (Value.bool false)), type := 4, pos := "rec.go:38", after := #[{ on := 8, ground := Ground.data }, { on := 13, ground := Ground.data }], guard := none }) (v := ?_) rfl (by kernel_rfl) (by kernel_rfl) (by kernel_rfl) (fun _ _ _ h => h) (Or.inl ⟨by rfl, ?_⟩) (by assumption) ?_
    rotate_left 1
    · intro w hSw; (try dsimp only at hSw); go_simp; try (with_reducible rfl)
    try simp only [Act.put, List.setIfInBounds_toArray, List.set_cons_zero, List.set_cons_succ]
    refine wpAnyH_take (i := 15) (oi := { dst := some 4, op := Op.assign (Operand.tmp 19), type := 4, pos := "rec.go:38", after := #[{ on := 14, ground := Ground.data }, { on := 12, ground := Ground.chain }, { on := 0, ground := Ground.phase }, { on := 1, ground := Ground.phase }, { on := 2, ground := Ground.phase }, { on := 3, ground := Ground.phase }, { on := 4, ground := Ground.phase }, { on := 5, ground := Ground.phase }, { on := 6, ground := Ground.phase }, { on := 7, ground := Ground.phase }, { on := 8, ground := Ground.phase }, { on := 9, ground := Ground.phase }, { on := 10, ground := Ground.phase }, { on := 11, ground := Ground.phase }, { on := 12, ground := Ground.phase }, { on := 13, ground := Ground.phase }, { on := 14, ground := Ground.phase }], guard := none }) (v := ?_) rfl (by kernel_rfl) (by kernel_rfl) (by kernel_rfl) (fun _ _ _ h => h) (Or.inl ⟨by rfl, ?_⟩) (by assumption) ?_
    rotate_left 1
    · intro w hSw; (try dsimp only at hSw); go_simp; try (with_reducible rfl)
    try simp only [Act.put, List.setIfInBounds_toArray, List.set_cons_zero, List.set_cons_succ]
    refine wpAnyH_done (by kernel_rfl) ?_ _
    clear hHeld
    go_wp2_with fail
    go_ret
    exact ⟨by first | rfl | (rw [← HBw.out]; rfl), HBD.out⟩
end Go.Proofs.Ytaikpgcmcmkdcaa

/-
  Read.
-/
namespace Go.Proofs.Ytaikpgcmcmkdcaa
open Go.RowKit Go.Shelf
set_option linter.unusedVariables false
set_option linter.unusedSimpArgs false
set_option maxRecDepth 100000

/-- How long what is read may be. -/
theorem go_len {F : Nat → Got} {b : List UInt8} {s e : Nat} (hF : ∀ p, (F p).2.2.1 = 0 → (F p).1.length ≤ 255) : ∀ (ks : List PK) (p : Nat) (acc L : List Pc), goP F b s e ks p acc = .ok L → (joined L).length ≤ (joined acc).length + ks.length * (b.length + 255) ∧ L.length = acc.length + ks.length
  | [], p, acc, L, h => by
    rw [goP] at h
    split at h
    · simp at h
    · injection h with h; subst h; simp
  | k :: ks, p, acc, L, h => by
    rw [goP] at h
    split at h
    · rename_i x q hx
      have hlen : x.1.length ≤ b.length + 255 := by
        have hcut : ∀ q', cutP b s e p q' = .ok x q → x.1.length ≤ b.length + 255 := by
          intro q' hq
          unfold cutP at hq
          split at hq
          · simp at hq
          · injection hq with h1 h2
            subst h1
            simp only [List.length_take, List.length_drop]
            omega
        cases k with
        | fix n => exact hcut _ hx
        | nam =>
          simp only [stepP] at hx
          split at hx
          · simp at hx
          · split at hx
            · simp at hx
            · rename_i h0
              split at hx
              · simp at hx
              · injection hx with h1 h2
                subst h1
                have := hF p (by simpa using h0)
                show (F p).1.length ≤ _
                omega
        | txt =>
          rw [txR_step] at hx
          cases hy : txE b e (e + 1) p with
          | none => rw [hy] at hx; simp [txR] at hx
          | some y => rw [hy] at hx; exact hcut _ hx
        | rst => exact hcut _ hx
      obtain ⟨h1, h2⟩ := go_len hF ks q (acc ++ [x]) L h
      rw [joined_app, List.length_append] at h1
      have h3 : joined [x] = x.1 := by simp [joined]
      rw [h3] at h1
      rw [List.length_append] at h2
      simp only [List.length_cons, List.length_nil] at h2 ⊢
      refine ⟨?_, by omega⟩
      rw [Nat.add_mul]
      omega
    · simp at h

theorem rda_len (b : List UInt8) (p : Nat) (h : (rda b p).2.2.1 = 0) : (rda b p).1.length ≤ 255 := (chk_pos (rda_fine b p h).1).2

theorem rdR_byt (b : List UInt8) (a size t : Int) (h : ¬ (t < 0 ∨ 65535 < t ∨ size < 0 ∨ 65535 < size)) :
    rdR b a size t = if bytE b.length a size ≠ 0 then .bad (bytE b.length a size) (bytA b.length a size).toNat else goP (fun p => rda b p) b a.toNat (a.toNat + size.toNat) (kinds t) a.toNat [] := by
  have e0 : rdR b a size t = if a < 0 ∨ (b.length : Int) < a then .bad 5 0 else if (b.length : Int) < a + size then .bad 4 b.length else goP (fun p => rda b p) b a.toNat (a.toNat + size.toNat) (kinds t) a.toNat [] := by unfold rdR; rw [if_neg h]
  rw [e0]
  by_cases h1 : a < 0 ∨ (b.length : Int) < a
  · have e1 : bytE b.length a size = 5 := by unfold bytE; rw [if_neg (by omega), if_pos h1]
    have e2 : bytA b.length a size = 0 := by unfold bytA; rw [if_neg (by omega)]
    rw [if_pos h1, e1, e2, if_pos (by decide)]; rfl
  · rw [if_neg h1]
    by_cases h2 : (b.length : Int) < a + size
    · have e1 : bytE b.length a size = 4 := by unfold bytE; rw [if_neg (by omega), if_neg h1, if_pos h2]
      have e2 : bytA b.length a size = b.length := by unfold bytA; rw [if_pos (by omega)]
      rw [if_pos h2, e1, e2, if_pos (by decide)]; rfl
    · have e1 : bytE b.length a size = 0 := by unfold bytE; rw [if_neg (by omega), if_neg h1, if_neg h2]
      rw [if_neg h2, e1, if_neg (by simp)]

theorem aside_set2 (w : World) (g : Nat) (x y : Value) : Aside (fun b => b = g) w ((w.setCell ⟨g, 0, none⟩ x).setCell ⟨g, 1, none⟩ y) :=
  (Aside.setCell (G := fun b => b = g) w (p := ⟨g, 0, none⟩) x rfl).trans (Aside.setCell (G := fun b => b = g) _ (p := ⟨g, 1, none⟩) y rfl)

set_option maxHeartbeats 4000000 in
theorem readD_any {w : World} {lo hi : Nat} {v : Value} {b : List UInt8} (hS : Sl w lo hi v (iz b)) (hhi : hi ≤ w.heap.size) (hbl : b.length ≤ 300000) (a size t : Int) (ht : (Lit.int .i64 t).wf = true) :
    Calls Try.prog 75 #[v, .int .i64 a, .int .i64 size, .int .i64 t] w (Tells w (.tuple #[.string (bs (joined (rdR b a size t).pcs)), .agg #[.int .i64 (rdR b a size t).code, .int .i64 (rdR b a size t).place]])) := by
  have hb0 : Below w.heap.size w (w.alloc (.cells #[.int .i64 0, .int .i64 0] 54)) := (Below.refl _ _).alloc (Nat.le_refl _) _
  have HB0 := Lib.hid hb0
  have hS2 := hS
  obtain ⟨av, cv, rfl, _⟩ := hS
  replace hS2 : Sl w lo hi (.slice av b.length cv) (iz b) := by rw [iz_len] at hS2; exact hS2
  rw [iz_len]
  by_cases harg : t < 0 ∨ 65535 < t ∨ size < 0 ∨ 65535 < size
  · have e : rdR b a size t = .bad 2 0 := by unfold rdR; rw [if_pos harg]
    rw [e]
    show Calls _ _ _ _ (Tells w (.tuple #[.string (bs []), .agg #[.int .i64 2, .int .i64 0]]))
    by_cases ht1 : t < 0 ∨ 65535 < t
    · have HT := Lib.hid (fun wx => bounded_no t ht1 wx)
      clear harg e ht1
      go_enter Try.func75, Try.ntmps75
      go_wp2_with fail
      refine (HT.out _).mono ?_; rintro e w1 ⟨rfl, rfl⟩
      go_wp2_with fail
      exact bodyPost_ret (by simp [results, Try.results75, go_sem]; rfl) rfl ⟨rfl, (Below.refl _ _).alloc (Nat.le_refl _) _⟩
    · have HT := Lib.hid (fun wx => bounded_yes t (by omega) (by omega) wx)
      have HT2 := Lib.hid (fun wx => bounded_no size (by omega) wx)
      clear harg e ht1
      go_enter Try.func75, Try.ntmps75
      go_wp2_with fail
      refine (HT.out _).mono ?_; rintro e w1 ⟨rfl, rfl⟩
      go_wp2_with fail
      refine (HT2.out _).mono ?_; rintro e w1 ⟨rfl, rfl⟩
      go_wp2_with fail
      exact bodyPost_ret (by simp [results, Try.results75, go_sem]; rfl) rfl ⟨rfl, (Below.refl _ _).alloc (Nat.le_refl _) _⟩
  · have HT := Lib.hid (fun wx => bounded_yes t (by omega) (by omega) wx)
    have HT2 := Lib.hid (fun wx => bounded_yes size (by omega) (by omega) wx)
    have HBy := Lib.hid (bytes_any (hS2.below hb0 hhi) (by rw [iz_len]; omega) (Nat.le_trans hhi hb0.size) a size (by omega))
    rw [iz_len] at HBy
    rw [rdR_byt b a size t harg]
    by_cases hE : bytE b.length a size = 0
    · rw [if_neg (by simpa using hE)]
      have hin : 0 ≤ a ∧ 0 ≤ size ∧ a + size ≤ b.length := by
        unfold bytE at hE
        split at hE
        · simp at hE
        · split at hE
          · simp at hE
          · split at hE
            · simp at hE
            · omega
      obtain ⟨p, rfl⟩ : ∃ p : Nat, a = p := ⟨a.toNat, by omega⟩
      obtain ⟨m, rfl⟩ : ∃ m : Nat, size = m := ⟨size.toNat, by omega⟩
      have hA : bytA b.length p m = 0 := by unfold bytA; rw [if_neg (by omega)]
      have hF : bytF b.length p m = ((p + m : Nat) : Int) := by unfold bytF; rw [if_pos (by omega)]; push_cast; rfl
      rw [hE, hA, hF] at HBy
      rw [Int.toNat_natCast, Int.toNat_natCast]
      obtain ⟨q, hq⟩ : ∃ q, p + m = q := ⟨_, rfl⟩
      rw [hq] at HBy ⊢
      have HRd := Lib.hid (fun wx (hb : Below w.heap.size w wx) => read_read (s := p) (p := p) (e := q) (F := fun p => rda b p) t ht (hS2.below hb hhi) (Nat.le_trans hhi hb.size) (by omega) (by omega) (by omega) fun wy hs hh p => read_any hs hh (by omega) p)
      have HGl := Lib.hid (fun L (h : goP (fun p => rda b p) b p q (kinds t) p [] = .ok L) => go_len (F := fun p => rda b p) (b := b) (s := p) (e := q) (fun p h => rda_len b p h) (kinds t) p [] L h)
      have HK3 := Lib.hid (kinds_small t).1
      obtain ⟨R, hR⟩ : ∃ R, goP (fun p => rda b p) b p q (kinds t) p [] = R := ⟨_, rfl⟩
      rw [hR] at HRd HGl ⊢
      have HJ : Hid (∀ wx B v, OwnP wx B v R.pcs → Calls Try.prog 83 #[v] wx (Tells wx (.string (bs (joined R.pcs))))) := by
        intro wx B v hown
        refine joinP_any hown ?_ ?_
        · rcases R with L | ⟨c, aa⟩
          · obtain ⟨h1, h2⟩ := HGl.out L rfl
            have hk := HK3.out
            show (joined L).length ≤ _
            have h3 : (joined ([] : List Pc)).length = 0 := rfl
            have h4 : (kinds t).length * (b.length + 255) ≤ 3 * (b.length + 255) := Nat.mul_le_mul_right _ hk
            omega
          · show (joined []).length ≤ _; simp [joined]
        · rcases R with L | ⟨c, aa⟩
          · obtain ⟨h1, h2⟩ := HGl.out L rfl
            have hk := HK3.out
            show L.length ≤ _
            simp at h2
            omega
          · simp [RR.pcs]
      clear harg hE hin hA hF hq hR HGl hS2
      go_enter Try.func75, Try.ntmps75
      go_wp2_with fail
      refine (HT.out _).mono ?_; rintro e w1 ⟨rfl, rfl⟩
      go_wp2_with fail
      refine (HT2.out _).mono ?_; rintro e w1 ⟨rfl, rfl⟩
      go_wp2_with fail
      refine HBy.out.mono ?_; rintro e w1 ⟨v1, g1, rfl, _, _, _, hb1⟩
      simp only [World.size_alloc] at hb1
      have HB1 := Lib.hid hb1
      have hlt := below_lt hb1
      obtain ⟨k0, k1, k3⟩ := res_cells hb1
      have HBW := Lib.hid (HB0.out.trans (hb1.mono (Nat.le_succ _)))
      have HR2 := Lib.hid (HRd.out (w1.alloc (.cells #[.int .i64 0, .int .i64 0] 54)) (bel_alloc HBW.out _))
      clear hb1
      go_wp2_with fail
      refine HR2.out.mono ?_; rintro e w3 ⟨v3, rfl, hown, hb3⟩
      simp only [World.size_alloc] at hown
      have m0 : w3.cell? ⟨w1.heap.size, 0, none⟩ = some (.int .i64 0) := cell_later hb3 (by simp [go_sem])
      have m1 : w3.cell? ⟨w1.heap.size, 1, none⟩ = some (.int .i64 0) := cell_later hb3 (by simp [go_sem])
      have mf : ∀ j, w3.frozen? ⟨w1.heap.size, j, none⟩ = false := fun j => (hb3.frozen (p := ⟨w1.heap.size, j, none⟩) (by simp)).trans (by simp [go_sem])
      have hal1 : Below w1.heap.size w1 (w1.alloc (.cells #[.int .i64 0, .int .i64 0] 54)) := (Below.refl _ _).alloc (Nat.le_refl _) _
      have n0 : w3.cell? ⟨w.heap.size, 0, none⟩ = some (.int .i64 0) := cell_later hb3 (cell_later hal1 k0)
      have n1 : w3.cell? ⟨w.heap.size, 1, none⟩ = some (.int .i64 0) := cell_later hb3 (cell_later hal1 k1)
      have nf : ∀ j, w3.frozen? ⟨w.heap.size, j, none⟩ = false := fun j => (hb3.frozen (p := ⟨w.heap.size, j, none⟩) (by simp; omega)).trans ((hal1.frozen (p := ⟨w.heap.size, j, none⟩) hlt).trans (k3 j))
      obtain ⟨g, hg⟩ : ∃ g, w1.heap.size = g := ⟨_, rfl⟩
      rw [hg] at m0 m1 mf hlt hown ⊢
      obtain ⟨C, hC⟩ : ∃ C, R.code = C := ⟨_, rfl⟩
      obtain ⟨A, hA⟩ : ∃ A, R.place = A := ⟨_, rfl⟩
      rw [hC, hA]
      have HCh := Lib.hid hC
      have HAh := Lib.hid hA
      obtain ⟨W4, hW4⟩ : ∃ W4, (w3.setCell ⟨g, 0, none⟩ (.int .i64 C)).setCell ⟨g, 1, none⟩ (.int .i64 A) = W4 := ⟨_, rfl⟩
      have HW4 := Lib.hid hW4
      have hAs : Aside (fun b => b = g) w3 W4 := by rw [← hW4]; exact aside_set2 w3 g _ _
      obtain ⟨q0, q1⟩ := res_set (.int .i64 C) (.int .i64 A) m0 m1
      have q0' : W4.cell? ⟨g, 0, none⟩ = some (.int .i64 C) := by rw [← hW4, World.cell?_setCell_other _ _ _ _ (by simp)]; exact q0
      have q1' : W4.cell? ⟨g, 1, none⟩ = some (.int .i64 A) := by rw [← hW4]; exact q1
      have hgw : ¬ w.heap.size = g := by omega
      have n0' := hAs.cell_lt n0 hgw
      have n1' := hAs.cell_lt n1 hgw
      have nf' : ∀ j, W4.frozen? ⟨w.heap.size, j, none⟩ = false := fun j => (hAs.frozen (p := ⟨w.heap.size, j, none⟩) (show w.heap.size < _ from World.block_lt_of_cell? w3 ⟨w.heap.size, 0, none⟩ n0) hgw).trans (nf j)
      have ho4 := hown.aside hAs fun b hb e => by have := (hown.lt b hb).1; omega
      have hbw3 : Below w.heap.size w w3 := bel_call (bel_alloc HBW.out _) hb3
      have hbw4 : Below w.heap.size w W4 := below_aside hbw3 hAs fun b hb => ⟨Nat.lt_of_lt_of_le hb hbw3.size, by omega⟩
      have hd4 : Below W4.heap.size W4 W4.drew := (Below.refl _ _).drew
      have HJ4 := Lib.hid (HJ.out W4.drew _ _ (ho4.below hd4))
      have HB4 := Lib.hid hbw4
      have HN4 := Lib.hid (And.intro n0' (And.intro n1' nf'))
      have HQ4 := Lib.hid (And.intro q0' q1')
      have mf0 := mf 0
      have mf1 := mf 1
      clear hown hb3 n0 n1 nf hAs q0 q1 q0' q1' hgw n0' n1' nf' ho4 hbw3 hbw4 hd4 k0 k1 k3 hal1 mf hC hA HR2 HRd HJ HBy
      go_wp2_with fail
      clear m0 m1 mf0 mf1 hW4
      obtain ⟨q0, q1⟩ := HQ4.out
      go_region_held3 (fun wx => wx.cell? ⟨g, 0, none⟩ = some (.int .i64 C) ∧ wx.cell? ⟨g, 1, none⟩ = some (.int .i64 A)) (first | exact HQ4.out | exact ⟨cell_later ((Below.refl _ W4).drew) HQ4.out.1, cell_later ((Below.refl _ W4).drew) HQ4.out.2⟩ | exact HQ5.out | exact ⟨(World.cell?_setCell_other _ _ _ _ (by first | (simp; done) | (simp; omega))).trans ((World.cell?_setCell_other _ _ _ _ (by first | (simp; done) | (simp; omega))).trans HQ5.out.1), (World.cell?_setCell_other _ _ _ _ (by first | (simp; done) | (simp; omega))).trans ((World.cell?_setCell_other _ _ _ _ (by first | (simp; done) | (simp; omega))).trans HQ5.out.2)⟩) (first | (go_at_call 83; refine HJ4.out.mono ?_; rintro e w5 ⟨rfl, hb5⟩; have hbb : Below W4.heap.size W4 w5 := bel_call ((Below.refl _ W4).drew) hb5; have HQ5 := Lib.hid (And.intro (cell_later hbb HQ4.out.1) (cell_later hbb HQ4.out.2)); have HB5 := Lib.hid hbb; have n0 := cell_later hbb HN4.out.1; have n1 := cell_later hbb HN4.out.2.1; have nf0 := (hbb.frozen (p := ⟨w.heap.size, 0, none⟩) (show w.heap.size < _ from World.block_lt_of_cell? W4 ⟨w.heap.size, 0, none⟩ HN4.out.1)).trans (HN4.out.2.2 0); have nf1 := (hbb.frozen (p := ⟨w.heap.size, 1, none⟩) (show w.heap.size < _ from World.block_lt_of_cell? W4 ⟨w.heap.size, 0, none⟩ HN4.out.1)).trans (HN4.out.2.2 1); clear hb5 hbb))
      obtain ⟨z0, z1⟩ := res_set (.int .i64 C) (.int .i64 A) n0 n1
      have HFin := Lib.hid (bel_set2 (bel_call HB4.out HB5.out) (Nat.le_refl _) (.int .i64 C) (.int .i64 A))
      clear HQ4 HQ5 HN4 q0 q1
      go_wp2_with fail
      exact bodyPost_ret (by simp [results, Try.results75, go_sem, z0, z1]; rfl) rfl ⟨by rw [HCh.out, HAh.out], HFin.out⟩
    · rw [if_pos hE]
      obtain ⟨E, hEe⟩ : ∃ E, bytE b.length a size = E := ⟨_, rfl⟩
      have hAp : bytA b.length a size = ((bytA b.length a size).toNat : Int) := by unfold bytA; split <;> simp
      obtain ⟨A, hAe⟩ : ∃ A, (bytA b.length a size).toNat = A := ⟨_, rfl⟩
      obtain ⟨F, hFe⟩ : ∃ F, bytF b.length a size = F := ⟨_, rfl⟩
      rw [hAe] at hAp
      rw [hEe, hAp, hFe] at HBy
      rw [hEe] at hE
      rw [hEe, hAe]
      show Calls _ _ _ _ (Tells w (.tuple #[.string (bs []), .agg #[.int .i64 E, .int .i64 A]]))
      have tE : (E != 0) = true := by simpa using hE
      clear harg hE hEe hAe hFe hAp hS2
      go_enter Try.func75, Try.ntmps75
      go_wp2_with fail
      refine (HT.out _).mono ?_; rintro e w1 ⟨rfl, rfl⟩
      go_wp2_with fail
      refine (HT2.out _).mono ?_; rintro e w1 ⟨rfl, rfl⟩
      go_wp2_with fail
      refine HBy.out.mono ?_; rintro e w1 ⟨v1, g1, rfl, _, _, _, hb1⟩
      simp only [World.size_alloc] at hb1
      have HB1 := Lib.hid hb1
      have hlt := below_lt hb1
      obtain ⟨k0, k1, k3⟩ := res_cells hb1
      have k30 := k3 0
      have k31 := k3 1
      clear hb1
      go_wp2_with fail
      go_region
      all_goals
        try go_wp2_with fail
        obtain ⟨z0, z1⟩ := res_set (.int .i64 E) (.int .i64 A) k0 k1
        exact bodyPost_ret (by simp [results, Try.results75, go_sem, z0, z1, hlt]; rfl) rfl ⟨rfl, below_drewN (res_below HB1.out _ _ _) 1⟩
end Go.Proofs.Ytaikpgcmcmkdcaa
