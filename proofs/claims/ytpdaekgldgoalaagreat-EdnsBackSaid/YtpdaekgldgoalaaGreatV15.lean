/-
  The message that bytes are: Read.
-/
import Derived.Test.YtpdaekgldgoalaaGreatV14
import Derived.Test.YtpdaekgldgoalaaGreatV00
import Derived.Laws.Bits128
import Derived.Test.YtpdaekgldgoalaaGreatV01
import Derived.Test.YtpdaekgldgoalaaGreatV10
namespace Go.Proofs.YtpdaekgldgoalaaGreat
open Go.RowKit Go.Shelf
set_option linter.unusedVariables false
set_option linter.unusedSimpArgs false
set_option maxRecDepth 100000

/-- What Read tells. -/
def RMPost (w : World) (R : RM) (x : Ending) (w' : World) : Prop :=
  match R with
  | .ok m => ∃ v, x = .returned (.tuple #[v, .agg #[.int .i64 0, .int .i64 0]]) ∧ Mg w' w'.heap.size v m ∧ Below w.heap.size w w'
  | .bad e a => x = .returned (.tuple #[zeroM, .agg #[.int .i64 e, .int .i64 a]]) ∧ Below w.heap.size w w'

theorem m_readQ (M : Nat) (w : World) : (method 313 92 (.agg #[.pointer (some ⟨M, 2, none⟩)]) "ostiary/msg.read").run Tryz.prog w = .ok (75, .agg #[.pointer (some ⟨M, 2, none⟩)]) w := by kernel_rfl
theorem m_readR (M o : Nat) (w : World) : (method 313 95 (.agg #[.pointer (some ⟨M, o, none⟩)]) "ostiary/msg.read").run Tryz.prog w = .ok (103, .agg #[.pointer (some ⟨M, o, none⟩)]) w := by kernel_rfl

/-- A fault: what is left. -/
theorem rd_leave_bad {w X : World} {M : Nat} {tmps : Array Value} {F A : Int} {a b c d e f : Value} (hM : w.heap.size = M) (hF : F ≠ 0) (q2 : Cel X M [a, b, c, d, e, f]) (q3 : Cel X (M + 1) [.int .i64 F, .int .i64 A]) (hb : Below M w X)
    (t2 : tmps.getD 2 undef = .pointer (some ⟨M, 0, none⟩)) (t3 : tmps.getD 3 undef = .pointer (some ⟨M + 1, 0, none⟩)) :
    Leaves Tryz.prog Tryz.f17 tmps (RMPost w (.bad F A)) [{ target := .fn (.func 32) #[.pointer (some ⟨M + 1, 0, none⟩), .pointer (some ⟨M, 0, none⟩)], args := #[] }] .returning X := by
  refine leaves_cons (f := 32) (args := #[.pointer (some ⟨M + 1, 0, none⟩), .pointer (some ⟨M, 0, none⟩)]) (by simp) (by simp [go_sem]) ?_
  refine (rend_bad (M + 1) M F a b c d e f hF X (q3.c 0 (by simp)) q2).mono ?_
  rintro e0 u' w9 ⟨rfl, rfl, z, ha⟩
  obtain ⟨m0, m1, m2, m3, m4, m5⟩ := z.six
  have q4 := q3.aside (by simp) ha (by omega)
  have k0 := q4.c 0 (by simp)
  have k1 := q4.c 1 (by simp)
  simp only [List.getElem_cons_zero, List.getElem_cons_succ] at k0 k1
  simp [Leaves, settle, results, Tryz.results17, go_sem, -Array.getD_eq_getD_getElem?, t2, t3, m0, m1, m2, m3, m4, m5, k0, k1]
  refine ⟨rfl, ?_⟩
  rw [hM]
  exact below_aside hb ha fun k hk => ⟨Nat.lt_of_lt_of_le hk (by have := hb.size; omega), by omega⟩
/-- No fault: what is left. -/
theorem rd_leave_ok {w X : World} {M : Nat} {tmps : Array Value} {m : Ms} {a b c d e f : Value} (hM : w.heap.size = M) (q2 : Cel X M [a, b, c, d, e, f]) (q3 : Cel X (M + 1) [.int .i64 0, .int .i64 0]) (hb : Below M w X) (hm : Mg X X.heap.size (.agg #[a, b, c, d, e, f]) m)
    (t2 : tmps.getD 2 undef = .pointer (some ⟨M, 0, none⟩)) (t3 : tmps.getD 3 undef = .pointer (some ⟨M + 1, 0, none⟩)) :
    Leaves Tryz.prog Tryz.f17 tmps (RMPost w (.ok m)) [{ target := .fn (.func 32) #[.pointer (some ⟨M + 1, 0, none⟩), .pointer (some ⟨M, 0, none⟩)], args := #[] }] .returning X := by
  refine leaves_cons (f := 32) (args := #[.pointer (some ⟨M + 1, 0, none⟩), .pointer (some ⟨M, 0, none⟩)]) (by simp) (by simp [go_sem]) ?_
  refine (rend_ok (M + 1) M X (q3.c 0 (by simp))).mono ?_
  rintro e0 u' w9 ⟨rfl, rfl, rfl⟩
  obtain ⟨m0, m1, m2, m3, m4, m5⟩ := q2.six
  have k0 := q3.c 0 (by simp)
  have k1 := q3.c 1 (by simp)
  simp only [List.getElem_cons_zero, List.getElem_cons_succ] at k0 k1
  simp [Leaves, settle, results, Tryz.results17, go_sem, -Array.getD_eq_getD_getElem?, t2, t3, m0, m1, m2, m3, m4, m5, k0, k1]
  exact ⟨_, rfl, hm, by rw [hM]; exact hb⟩

theorem rd_put {w X : World} {M : Nat} {a b c d e f : Value} {F A F0 A0 : Int} (q2 : Cel X M [a, b, c, d, e, f]) (q3 : Cel X (M + 1) [.int .i64 F0, .int .i64 A0]) (hb : Below M w X) :
    Cel ((((((((X.setCell ⟨M, 0, none⟩ a).setCell ⟨M, 1, none⟩ b).setCell ⟨M, 2, none⟩ c).setCell ⟨M, 3, none⟩ d).setCell ⟨M, 4, none⟩ e).setCell ⟨M, 5, none⟩ f).setCell ⟨M + 1, 0, none⟩ (.int .i64 F)).setCell ⟨M + 1, 1, none⟩ (.int .i64 A)) M [a, b, c, d, e, f] ∧ Cel ((((((((X.setCell ⟨M, 0, none⟩ a).setCell ⟨M, 1, none⟩ b).setCell ⟨M, 2, none⟩ c).setCell ⟨M, 3, none⟩ d).setCell ⟨M, 4, none⟩ e).setCell ⟨M, 5, none⟩ f).setCell ⟨M + 1, 0, none⟩ (.int .i64 F)).setCell ⟨M + 1, 1, none⟩ (.int .i64 A)) (M + 1) [.int .i64 F, .int .i64 A] ∧ Below M w ((((((((X.setCell ⟨M, 0, none⟩ a).setCell ⟨M, 1, none⟩ b).setCell ⟨M, 2, none⟩ c).setCell ⟨M, 3, none⟩ d).setCell ⟨M, 4, none⟩ e).setCell ⟨M, 5, none⟩ f).setCell ⟨M + 1, 0, none⟩ (.int .i64 F)).setCell ⟨M + 1, 1, none⟩ (.int .i64 A)) := by
  refine ⟨?_, ?_, ?_⟩
  · have := (((((((q2.set (o := 0) (by simp) a).set (o := 1) (by simp) b).set (o := 2) (by simp) c).set (o := 3) (by simp) d).set (o := 4) (by simp) e).set (o := 5) (by simp) f).other (a := ⟨M + 1, 0, none⟩) (by simp) (.int .i64 F)).other (a := ⟨M + 1, 1, none⟩) (by simp) (.int .i64 A)
    simpa using this
  · have := (((((((q3.other (a := ⟨M, 0, none⟩) (by simp) a).other (a := ⟨M, 1, none⟩) (by simp) b).other (a := ⟨M, 2, none⟩) (by simp) c).other (a := ⟨M, 3, none⟩) (by simp) d).other (a := ⟨M, 4, none⟩) (by simp) e).other (a := ⟨M, 5, none⟩) (by simp) f).set (o := 0) (by simp) (.int .i64 F)).set (o := 1) (by simp) (.int .i64 A)
    simpa using this
  · exact (((((((hb.setCell (by show M ≤ M; omega) _).setCell (by show M ≤ M; omega) _).setCell (by show M ≤ M; omega) _).setCell (by show M ≤ M; omega) _).setCell (by show M ≤ M; omega) _).setCell (by show M ≤ M; omega) _).setCell (by show M ≤ M + 1; omega) _).setCell (by show M ≤ M + 1; omega) _
theorem cel_drew {w : World} {q : Nat} {l : List Value} (h : Cel w q l) : Cel w.drew q l := ⟨h.c, h.fz⟩

/-- How Read begins. -/
theorem rd_start {w : World} {M : Nat} (hM : w.heap.size = M) : ∃ W1 W2, w.alloc (.cells #[.int .i64 0, .int .i64 0, .slice none 0 0, .slice none 0 0, .slice none 0 0, .slice none 0 0] 25) = W1 ∧ W1.alloc (.cells #[.int .i64 0, .int .i64 0] 47) = W2 ∧
    W1.heap.size = M + 1 ∧ W2.heap.size = M + 2 ∧ Below M w W2 ∧ Cel W2 M [.int .i64 0, .int .i64 0, .slice none 0 0, .slice none 0 0, .slice none 0 0, .slice none 0 0] ∧ Cel W2 (M + 1) [.int .i64 0, .int .i64 0] := by
  refine ⟨_, _, rfl, rfl, by simp [hM], by simp [hM], ?_, ?_, ?_⟩
  · rw [← hM]; exact ((Below.refl _ _).alloc (Nat.le_refl _) _).alloc (by simp) _
  · have hx := cel_new6 w (.int .i64 0) (.int .i64 0) (.slice none 0 0) (.slice none 0 0) (.slice none 0 0) (.slice none 0 0) 25
    rw [hM] at hx
    exact hx.below (by simp) ((Below.refl _ _).alloc (Nat.le_refl _) _)
  · have hy := cel_new2 (w.alloc (.cells #[.int .i64 0, .int .i64 0, .slice none 0 0, .slice none 0 0, .slice none 0 0, .slice none 0 0] 25)) (.int .i64 0) (.int .i64 0) 47
    simp only [World.size_alloc, hM] at hy
    exact hy

set_option maxHeartbeats 8000000 in
/-- More bytes than a message has. -/
theorem readM_long {w : World} {av : Option Addr} {n cv : Nat} (hn : 65535 < n) (hn2 : n ≤ 140737488351232) : Calls Tryz.prog 17 #[.slice av n cv] w (RMPost w (.bad 3 0)) := by
  obtain ⟨M, hM⟩ : ∃ M, w.heap.size = M := ⟨_, rfl⟩
  obtain ⟨W1, W2, hW1, hW2, s1, s2, hb, hx, hy⟩ := rd_start hM
  have hmf : ∀ (fn : Fn) (first cap : Array Value) (w : World), (Instr.makeFunc fn first cap).run Tryz.prog w = .ok (.func fn first cap) w := fun _ _ _ _ => rfl
  have tL : decide ((65535 : Int) < n) = true := by simp; omega
  obtain ⟨c0, c1, c2, c3, c4, c5⟩ := hx.six
  have fx := hx.fz
  have y0 := hy.c 0 (by simp)
  have y1 := hy.c 1 (by simp)
  simp only [List.getElem_cons_zero, List.getElem_cons_succ] at y0 y1
  have fy := hy.fz
  have HX := Lib.hid hx
  have HY := Lib.hid hy
  have HB := Lib.hid hb
  have HM := Lib.hid hM
  clear hx hy hb hn
  go_enter_defers Tryz.func17, Tryz.ntmps17
  go_wp2_with fail
  obtain ⟨z2, z3, zb⟩ := rd_put (F := 3) (A := 0) HX.out HY.out HB.out
  exact rd_leave_bad HM.out (by decide) z2 z3 zb rfl rfl

set_option maxHeartbeats 8000000 in
/-- Fewer bytes than a head has. -/
theorem readM_short {w : World} {lo hi cv : Nat} {av : Option Addr} {b : List UInt8} (hS : Sl w lo hi (.slice av b.length cv) (iz b)) (hhi : hi ≤ w.heap.size) (hn : b.length < 12) : Calls Tryz.prog 17 #[.slice av b.length cv] w (RMPost w (.bad 4 b.length)) := by
  obtain ⟨M, hM⟩ : ∃ M, w.heap.size = M := ⟨_, rfl⟩
  obtain ⟨W1, W2, hW1, hW2, s1, s2, hb, hx, hy⟩ := rd_start hM
  have hmf : ∀ (fn : Fn) (first cap : Array Value) (w : World), (Instr.makeFunc fn first cap).run Tryz.prog w = .ok (.func fn first cap) w := fun _ _ _ _ => rfl
  have hc := nums_any (hS.below (hM ▸ hb) (by omega)) (show hi ≤ W2.heap.size by omega) (by omega)
  unfold numsV at hc
  rw [if_neg (by omega)] at hc
  obtain ⟨n, hnn⟩ : ∃ n, b.length = n := ⟨_, rfl⟩
  rw [hnn] at hc hn ⊢
  have tL : decide ((65535 : Int) < n) = false := by simp; omega
  have HX := Lib.hid hx
  have HY := Lib.hid hy
  have HB := Lib.hid hb
  have HM := Lib.hid hM
  have HC := Lib.hid hc
  clear hx hy hb hn hc hS hnn
  go_enter_defers Tryz.func17, Tryz.ntmps17
  go_wp2_with fail
  refine HC.out.mono ?_; rintro e w1 ⟨rfl, hb⟩
  have hb2 := bel_alloc hb (.cells #[.int .i64 0, .int .i64 0, .int .i64 0, .int .i64 0, .int .i64 0, .int .i64 0] 76)
  replace HX := Lib.hid (HX.out.below (by simp) hb2)
  replace HY := Lib.hid (HY.out.below (by simp) hb2)
  replace HB := Lib.hid (below_aside HB.out (Aside.of_all hb2 : Aside (fun _ => False) W2 (w1.alloc (.cells #[.int .i64 0, .int .i64 0, .int .i64 0, .int .i64 0, .int .i64 0, .int .i64 0] 76))) (fun k hk => ⟨by omega, id⟩))
  have y0 := HY.out.c 0 (by simp)
  have y1 := HY.out.c 1 (by simp)
  simp only [List.getElem_cons_zero, List.getElem_cons_succ] at y0 y1
  have fy := HY.out.fz
  obtain ⟨c0, c1, c2, c3, c4, c5⟩ := HX.out.six
  have fx := HX.out.fz
  clear hb hb2
  go_wp2_with fail
  have p2 := (HX.out.other (a := ⟨M + 1, 0, none⟩) (by simp) (.int .i64 4)).other (a := ⟨M + 1, 1, none⟩) (by simp) (.int .i64 n)
  have p3 := (HY.out.set (o := 0) (by simp) (.int .i64 4)).set (o := 1) (by simp) (.int .i64 n)
  have pb := (HB.out.setCell (p := ⟨M + 1, 0, none⟩) (by show M ≤ M + 1; omega) (.int .i64 4)).setCell (p := ⟨M + 1, 1, none⟩) (by show M ≤ M + 1; omega) (.int .i64 n)
  simp only [List.set_cons_zero, List.set_cons_succ] at p3
  obtain ⟨Y, hY⟩ : ∃ Y, ((w1.alloc (.cells #[.int .i64 0, .int .i64 0, .int .i64 0, .int .i64 0, .int .i64 0, .int .i64 0] 76)).setCell ⟨M + 1, 0, none⟩ (.int .i64 4)).setCell ⟨M + 1, 1, none⟩ (.int .i64 n) = Y := ⟨_, rfl⟩
  rw [hY] at p2 p3 pb ⊢
  clear c0 c1 c2 c3 c4 c5 fx y0 y1 fy hY
  obtain ⟨c0, c1, c2, c3, c4, c5⟩ := p2.six
  have fx := p2.fz
  have y0 := p3.c 0 (by simp)
  have y1 := p3.c 1 (by simp)
  simp only [List.getElem_cons_zero, List.getElem_cons_succ] at y0 y1
  have fy := p3.fz
  have P2 := Lib.hid p2
  have P3 := Lib.hid p3
  have PB := Lib.hid pb
  clear p2 p3 pb
  go_region
  go_wp2_with fail
  obtain ⟨z2, z3, zb⟩ := rd_put (F := 4) (A := n) P2.out P3.out PB.out
  exact rd_leave_bad HM.out (by decide) (cel_drew z2) (cel_drew z3) zb.drew rfl rfl

theorem R0.start {w W : World} {M H : Nat} {hs : List Value} (hx : Cel W M [.int .i64 0, .int .i64 0, .slice none 0 0, .slice none 0 0, .slice none 0 0, .slice none 0 0]) (hf : Cel W (M + 1) [.int .i64 0, .int .i64 0]) (hh : Cel W H hs) (hl : 0 < hs.length) (hb : Below M w W) (hs2 : H + 1 ≤ W.heap.size) (hH : M + 2 ≤ H) :
    R0 w W M H (H + 1) 0 0 hs (.slice none 0 0) (.slice none 0 0) (.slice none 0 0) (.slice none 0 0) [] [] [] [] :=
  ⟨hx, hf, hh, hl, World.ownsRow_nil _ _ _ _, World.ownsRow_nil _ _ _ _, World.ownsRow_nil _ _ _ _, World.ownsRow_nil _ _ _ _, fun k h => by simp [Value.ownBlock] at h, fun k h => by simp [Value.ownBlock] at h, fun k h => by simp [Value.ownBlock] at h, hb, hs2, hH, by omega⟩

section
variable {w wr w' : World} {M H B0 : Nat} {i0 i1 : Int} {hs : List Value} {v2 v3 v4 v5 : Value} {lq : List Qn} {la ln lr : List Rc}
/-- The message's and the fault's cells alone have turned. -/
theorem R0.turn {j0 j1 F A : Int} (h : R0 w wr M H B0 i0 i1 hs v2 v3 v4 v5 lq la ln lr) (ha : Aside (fun k => k = M ∨ k = M + 1) wr w') (hx : Cel w' M [.int .i64 j0, .int .i64 j1, v2, v3, v4, v5]) (hf : Cel w' (M + 1) [.int .i64 0, .int .i64 0]) : R0 w w' M H B0 j0 j1 hs v2 v3 v4 v5 lq la ln lr := by
  have hH := h.hH
  have hB := h.hB
  have ho : ∀ {v : Value} {k e : Nat} {xs : List Value} {n : Nat}, wr.ownsRow B0 e k v n xs → ∀ j, v.ownBlock = some j → ¬ (j = M ∨ j = M + 1) := fun hr j hj hg => by have := (World.ownsRow.lt hr j hj).1; omega
  exact ⟨hx, hf, h.h.aside h.hl ha (by omega), h.hl, row_aside h.q ha (ho h.q), row_aside h.a ha (ho h.a), row_aside h.n ha (ho h.n), row_aside h.r ha (ho h.r), h.n34, h.n35, h.n45, below_aside h.bel ha (fun k hk => ⟨by have := h.size; omega, by omega⟩), Nat.le_trans h.size ha.size, hH, hB⟩
theorem R0.ids (h : R0 w wr M H B0 i0 i1 hs v2 v3 v4 v5 lq la ln lr) (j0 j1 : Int) : R0 w ((wr.setCell ⟨M, 0, none⟩ (.int .i64 j0)).setCell ⟨M, 1, none⟩ (.int .i64 j1)) M H B0 j0 j1 hs v2 v3 v4 v5 lq la ln lr := by
  have st : ∀ (X : World) (o : Nat) (v : Value), Aside (fun k => k = M ∨ k = M + 1) X (X.setCell ⟨M, o, none⟩ v) := fun X o v => Aside.setCell X (p := ⟨M, o, none⟩) v (.inl rfl)
  refine h.turn (F := 0) (A := 0) ((st _ _ _).trans (st _ _ _)) ?_ ((h.f.other (by simp) _).other (by simp) _)
  have := (h.x.set (o := 0) (by simp) (.int .i64 j0)).set (o := 1) (by simp) (.int .i64 j1)
  simpa using this
theorem R0.drew (h : R0 w wr M H B0 i0 i1 hs v2 v3 v4 v5 lq la ln lr) : R0 w wr.drew M H B0 i0 i1 hs v2 v3 v4 v5 lq la ln lr := h.later (Below.refl _ _).drew
theorem R0.undrew (h : R0 w wr M H B0 i0 i1 hs v2 v3 v4 v5 lq la ln lr) {F A : Int} : Cel ((wr.setCell ⟨M + 1, 0, none⟩ (.int .i64 F)).setCell ⟨M + 1, 1, none⟩ (.int .i64 A)) M [.int .i64 i0, .int .i64 i1, v2, v3, v4, v5] ∧ Cel ((wr.setCell ⟨M + 1, 0, none⟩ (.int .i64 F)).setCell ⟨M + 1, 1, none⟩ (.int .i64 A)) (M + 1) [.int .i64 F, .int .i64 A] ∧ Below M w ((wr.setCell ⟨M + 1, 0, none⟩ (.int .i64 F)).setCell ⟨M + 1, 1, none⟩ (.int .i64 A)) := by
  refine ⟨(h.x.other (by simp) _).other (by simp) _, ?_, (h.bel.setCell (by show M ≤ M + 1; omega) _).setCell (by show M ≤ M + 1; omega) _⟩
  have := (h.f.set (o := 0) (by simp) (.int .i64 F)).set (o := 1) (by simp) (.int .i64 A)
  simpa using this
/-- What is read is the message. -/
theorem R0.mg (h : R0 w wr M H B0 i0 i1 hs v2 v3 v4 v5 lq la ln lr) (k0 : lq.length ≤ 65535) (k1 : la.length ≤ 65535) (k2 : ln.length ≤ 65535) (k3 : lr.length ≤ 65535) : Mg wr wr.heap.size (.agg #[.int .i64 i0, .int .i64 i1, v2, v3, v4, v5]) ⟨i0, i1, lq, la, ln, lr⟩ :=
  ⟨v2, v3, v4, v5, rfl, Lst.own h.q (by show lq.length ≤ 1000000; omega), Lst.own h.a (by show la.length ≤ 1000000; omega), Lst.own h.n (by show ln.length ≤ 1000000; omega), Lst.own h.r (by show lr.length ≤ 1000000; omega)⟩
theorem R0.same (h : R0 w wr M H B0 i0 i1 hs v2 v3 v4 v5 lq la ln lr) : R0 w ((((((((wr.setCell ⟨M, 0, none⟩ (.int .i64 i0)).setCell ⟨M, 1, none⟩ (.int .i64 i1)).setCell ⟨M, 2, none⟩ v2).setCell ⟨M, 3, none⟩ v3).setCell ⟨M, 4, none⟩ v4).setCell ⟨M, 5, none⟩ v5).setCell ⟨M + 1, 0, none⟩ (.int .i64 0)).setCell ⟨M + 1, 1, none⟩ (.int .i64 0)) M H B0 i0 i1 hs v2 v3 v4 v5 lq la ln lr := by
  obtain ⟨z2, z3, _⟩ := rd_put (F := 0) (A := 0) h.x h.f h.bel
  have st : ∀ (X : World) (o : Nat) (v : Value), Aside (fun k => k = M ∨ k = M + 1) X (X.setCell ⟨M, o, none⟩ v) := fun X o v => Aside.setCell X (p := ⟨M, o, none⟩) v (.inl rfl)
  have st1 : ∀ (X : World) (o : Nat) (v : Value), Aside (fun k => k = M ∨ k = M + 1) X (X.setCell ⟨M + 1, o, none⟩ v) := fun X o v => Aside.setCell X (p := ⟨M + 1, o, none⟩) v (.inr rfl)
  exact h.turn (F := 0) (A := 0) ((((((((st _ _ _).trans (st _ _ _)).trans (st _ _ _)).trans (st _ _ _)).trans (st _ _ _)).trans (st _ _ _)).trans (st1 _ _ _)).trans (st1 _ _ _)) z2 z3
end

theorem quesV_ok {b : List UInt8} {a : Int} (h : (s3 b a).e = 0) : quesV b a = .tuple #[.agg #[.string (bs (rN b a)), .int .i64 (rT b a), .int .i64 (rC b a)], .int .i64 (s3 b a).a, .agg #[.int .i64 0, .int .i64 0]] := by unfold quesV; rw [if_pos h]
theorem quesV_bad {b : List UInt8} {a : Int} (h : (s3 b a).e ≠ 0) : quesV b a = .tuple #[.agg #[.string (bs []), .int .i64 0, .int .i64 0], .int .i64 0, .agg #[.int .i64 (s3 b a).e, .int .i64 (s3 b a).p]] := by unfold quesV; rw [if_neg h]; rfl
theorem recV_ok {b : List UInt8} {a : Int} (h : (s6 b a).e = 0) : recV b a = .tuple #[.agg #[.string (bs (rN b a)), .int .i64 (rT b a), .int .i64 (rC b a), .int .i64 (ttlR (rL b a)), .string (bs (rD b a))], .int .i64 (s6 b a).a, .agg #[.int .i64 0, .int .i64 0]] := by unfold recV; rw [if_pos h]
theorem recV_bad {b : List UInt8} {a : Int} (h : (s6 b a).e ≠ 0) : recV b a = .tuple #[.agg #[.string (bs []), .int .i64 0, .int .i64 0, .int .i64 0, .string (bs [])], .int .i64 0, .agg #[.int .i64 (s6 b a).e, .int .i64 (s6 b a).p]] := by unfold recV; rw [if_neg h]; rfl

set_option maxHeartbeats 16000000 in
theorem readM_mid {w : World} {lo hi cv : Nat} {av : Option Addr} {b : List UInt8} (hS : Sl w lo hi (.slice av b.length cv) (iz b)) (hhi : hi ≤ w.heap.size) (h12 : 12 ≤ b.length) (h16 : b.length ≤ 65535) :
    Calls Tryz.prog 17 #[.slice av b.length cv] w (RMPost w (rdM1 b (rdQs b (hd b 2).toNat 12))) := by
  obtain ⟨M, hM⟩ : ∃ M, w.heap.size = M := ⟨_, rfl⟩
  obtain ⟨W1, W2, hW1, hW2, s1, s2, hb, hx, hy⟩ := rd_start hM
  have hmf : ∀ (fn : Fn) (first cap : Array Value) (w : World), (Instr.makeFunc fn first cap).run Tryz.prog w = .ok (.func fn first cap) w := fun _ _ _ _ => rfl
  have hc := nums_any (hS.below (hM ▸ hb) (by omega)) (show hi ≤ W2.heap.size by omega) (by omega)
  unfold numsV at hc
  rw [if_pos h12] at hc
  have HQA := Lib.hid (fun wx (hb : Below w.heap.size w wx) (a : Int) => question_any (hS.below hb hhi) (Nat.le_trans hhi hb.size) (by omega) a)
  have HRA := Lib.hid (fun wx (hb : Below w.heap.size w wx) (a : Int) => readC_any (hS.below hb hhi) (Nat.le_trans hhi hb.size) (by omega) a)
  have g2 := hd_lt b 2
  have g3 := hd_lt b 3
  have g4 := hd_lt b 4
  have g5 := hd_lt b 5
  obtain ⟨h0, e0⟩ : ∃ x, hd b 0 = x := ⟨_, rfl⟩
  obtain ⟨h1, e1⟩ : ∃ x, hd b 1 = x := ⟨_, rfl⟩
  obtain ⟨n2, e2⟩ : ∃ x : Nat, hd b 2 = x := ⟨(hd b 2).toNat, by omega⟩
  obtain ⟨n3, e3⟩ : ∃ x : Nat, hd b 3 = x := ⟨(hd b 3).toNat, by omega⟩
  obtain ⟨n4, e4⟩ : ∃ x : Nat, hd b 4 = x := ⟨(hd b 4).toNat, by omega⟩
  obtain ⟨n5, e5⟩ : ∃ x : Nat, hd b 5 = x := ⟨(hd b 5).toNat, by omega⟩
  rw [e2] at g2
  rw [e3] at g3
  rw [e4] at g4
  rw [e5] at g5
  rw [e0, e1, e2, e3, e4, e5] at hc
  obtain ⟨R, hR⟩ : ∃ R, rdM1 b (rdQs b (hd b 2).toNat 12) = R := ⟨_, rfl⟩
  rw [hR]
  rw [e2, Int.toNat_natCast, ← RD.app_nil (rdQs b n2 12)] at hR
  have HR := Lib.hid hR
  have HE := Lib.hid (show hd b 0 = h0 ∧ hd b 1 = h1 ∧ hd b 3 = n3 ∧ hd b 4 = n4 ∧ hd b 5 = n5 from ⟨e0, e1, e3, e4, e5⟩)
  obtain ⟨n, hnn⟩ : ∃ n, b.length = n := ⟨_, rfl⟩
  have HNN := Lib.hid hnn
  have HmQ := fun M w => m_readQ M w
  have HmR := fun M o w => m_readR M o w
  have Hx0 := fun M w => ix_l0 M w
  have Hx1 := fun M w => ix_l1 M w
  have Hx2 := fun M w => ix_l2 M w
  have Hx3 := fun M w => ix_l3 M w
  rw [hnn] at hc h12 h16 HQA HRA ⊢
  have tL : decide ((65535 : Int) < n) = false := by simp; omega
  have HX := Lib.hid hx
  have HY := Lib.hid hy
  have HB := Lib.hid hb
  have HM := Lib.hid hM
  have HC := Lib.hid hc
  clear hx hy hb hc hS hnn hR e0 e1 e2 e3 e4 e5
  go_enter_defers Tryz.func17, Tryz.ntmps17
  go_wp2_with fail
  refine HC.out.mono ?_; rintro e w1 ⟨rfl, hb⟩
  obtain ⟨H, hH⟩ : ∃ H, w1.heap.size = H := ⟨_, rfl⟩
  obtain ⟨W4, hW4⟩ : ∃ X, w1.alloc (.cells #[.int .i64 h0, .int .i64 h1, .int .i64 n2, .int .i64 n3, .int .i64 n4, .int .i64 n5] 76) = X := ⟨_, rfl⟩
  have hh4 := cel_new6 w1 (.int .i64 h0) (.int .i64 h1) (.int .i64 n2) (.int .i64 n3) (.int .i64 n4) (.int .i64 n5) 76
  rw [hW4, hH] at hh4
  have hb2 : Below W2.heap.size W2 W4 := by rw [← hW4]; exact bel_alloc hb _
  have hs4 : W4.heap.size = H + 1 := by rw [← hW4, World.size_alloc, hH]
  have hHM : M + 2 ≤ H := by have := hb.size; omega
  have HR0 := Lib.hid (R0.start (HX.out.below (by simp) hb2) (HY.out.below (by simp) hb2) hh4 (by simp) (below_aside HB.out (Aside.of_all hb2 : Aside (fun _ => False) W2 W4) (fun k hk => ⟨by omega, id⟩)) (by omega) hHM)
  have y0 := HR0.out.f.c 0 (by simp)
  have y1 := HR0.out.f.c 1 (by simp)
  simp only [List.getElem_cons_zero, List.getElem_cons_succ] at y0 y1
  have fy := HR0.out.f.fz
  obtain ⟨X1, hX1⟩ : ∃ X, (W4.setCell ⟨M + 1, 0, none⟩ (.int .i64 0)).setCell ⟨M + 1, 1, none⟩ (.int .i64 0) = X := ⟨_, rfl⟩
  replace HR0 := Lib.hid (hX1 ▸ HR0.out.fault)
  have x0 := HR0.out.f.c 0 (by simp)
  simp only [List.getElem_cons_zero] at x0
  obtain ⟨d0, d1, d2, d3, d4, d5⟩ := HR0.out.h.six
  obtain ⟨c0, c1, c2, c3, c4, c5⟩ := HR0.out.x.six
  have fx := HR0.out.x.fz
  clear hb hb2 hh4 HX HY HB
  go_wp2_with fail
  clear hX1 hW4
  go_region
  go_wp2_with fail
  obtain ⟨X2, hX2⟩ : ∃ X, (((X1.setCell ⟨M, 0, none⟩ (.int .i64 h0)).setCell ⟨M, 1, none⟩ (.int .i64 h1))).drew = X := ⟨_, rfl⟩
  replace HR0 := Lib.hid (hX2 ▸ (HR0.out.ids h0 h1).drew)
  rw [hX2]
  clear hX2 x0 y0 y1 fy d0 d1 d2 d3 d4 d5 c0 c1 c2 c3 c4 c5 fx
  refine (lists_any M X2 (HR0.out.x.lt (by simp))).mono ?_; rintro e w2 ⟨rfl, hb⟩
  replace HR0 := Lib.hid (HR0.out.later hb)
  clear hb
  unfold lall lq lr
  go_wp2_with fail
  refine wp_loop_rounds 5 ?_
  rw [rounds_succ]
  obtain ⟨d0, d1, d2, d3, d4, d5⟩ := HR0.out.h.six
  go_wp2_with fail
  clear d0 d1 d2 d3 d4 d5
  go_loopg [5, 40] n2 (fun g v5 v40 wr => ∃ j p : Nat, j + g = n2 ∧ v40 = .int .i64 j ∧ v5 = .int .i64 p ∧ p ≤ b.length ∧ ∃ (v : Value) (l : List Qn), l.length = j ∧ Hid (R0 w wr M H (H + 1) h0 h1 [.int .i64 h0, .int .i64 h1, .int .i64 n2, .int .i64 n3, .int .i64 n4, .int .i64 n5] v (.slice none 0 0) (.slice none 0 0) (.slice none 0 0) l [] [] []) ∧ Hid (rdM1 b (RD.app l (rdQs b (n2 - j) p)) = R))
  case atStart => exact ⟨0, 12, by omega, rfl, rfl, by rw [HNN.out]; omega, _, [], rfl, HR0, HR⟩
  case round =>
    clear HR0 HR 
    obtain ⟨j, p, hj, rfl, rfl, hpl, v, l, hlj, HR0, HR⟩ := hrel
    by_cases hlt : j < n2
    · have hst := HR.out
      rw [show n2 - j = (n2 - (j + 1)) + 1 by omega, rdQs_step] at hst
      by_cases hE : (s3 b p).e = 0
      · rw [if_neg (by simpa using hE)] at hst
        obtain ⟨q', e1, e2, e3, _⟩ := ques_fine hpl hE
        rw [e1, Int.toNat_natCast] at hst
        have HRD := Lib.hid (readQ_gen (o := 2) (v := v) (l := l) (B := H + 1) (p : Int) (quesR b p) (s3 b p).a 0 0 HR0.out.x (by simp) rfl HR0.out.q (by have := HR0.out.hH; omega) HR0.out.size (by omega) (fun wy hb => by
          have := HQA.out wy (bel_call (by rw [HM.out]; exact HR0.out.bel) hb) p
          rw [quesV_ok hE] at this
          exact this))
        rw [e1] at HRD
        have HR2 := Lib.hid hst
        clear hst HR e1 hE
        go_wp2_with fail
        refine HRD.out.mono ?_; rintro e w3 ⟨v', rfl, hx, ho, ha, hk⟩
        replace HR0 := Lib.hid (HR0.out.read0 hx ho ha hk)
        have y0 := HR0.out.f.c 0 (by simp)
        have y1 := HR0.out.f.c 1 (by simp)
        simp only [List.getElem_cons_zero, List.getElem_cons_succ] at y0 y1
        have fy := HR0.out.f.fz
        clear hx ho ha hk HRD
        obtain ⟨X, hX⟩ : ∃ X, (w3.setCell ⟨M + 1, 0, none⟩ (.int .i64 0)).setCell ⟨M + 1, 1, none⟩ (.int .i64 0) = X := ⟨_, rfl⟩
        replace HR0 := Lib.hid (hX ▸ HR0.out.fault)
        have x0 := HR0.out.f.c 0 (by simp)
        simp only [List.getElem_cons_zero] at x0
        go_wp2_with fail
        go_roundg (n2 - (j + 1))
        case measure => omega
        case rel => exact ⟨j + 1, q', by omega, by go_num, rfl, e3, v', l ++ [quesR b p], by simp [hlj], HR0, HR2⟩
      · rw [if_pos hE] at hst
        have HRD := Lib.hid (readQ_gen (o := 2) (v := v) (l := l) (B := H + 1) (p : Int) ⟨[], 0, 0⟩ 0 (s3 b p).e (s3 b p).p HR0.out.x (by simp) rfl HR0.out.q (by have := HR0.out.hH; omega) HR0.out.size (by omega) (fun wy hb => by
          have := HQA.out wy (bel_call (by rw [HM.out]; exact HR0.out.bel) hb) p
          rw [quesV_bad hE] at this
          exact this))
        obtain ⟨F, hF⟩ : ∃ F, (s3 b p).e = F := ⟨_, rfl⟩
        obtain ⟨A, hA⟩ : ∃ A, (s3 b p).p = A := ⟨_, rfl⟩
        rw [hF, hA] at HRD hst
        rw [hF] at hE
        have tF : (F != 0) = true := by simpa using hE
        have hst2 : RM.bad F A = R := hst
        rw [← hst2]
        clear hst HR hF hA hst2
        go_wp2_with fail
        refine HRD.out.mono ?_; rintro e w3 ⟨v', rfl, hx, ho, ha, hk⟩
        replace HR0 := Lib.hid (HR0.out.read0 hx ho ha hk)
        have y0 := HR0.out.f.c 0 (by simp)
        have y1 := HR0.out.f.c 1 (by simp)
        simp only [List.getElem_cons_zero, List.getElem_cons_succ] at y0 y1
        have fy := HR0.out.f.fz
        clear hx ho ha hk HRD
        obtain ⟨sa', sc', hv'⟩ := row_shape HR0.out.q
        obtain ⟨z', hz'⟩ : ∃ z, (l ++ [(⟨[], 0, 0⟩ : Qn)]).length = z := ⟨_, rfl⟩
        rw [hz'] at hv'
        clear hz'
        subst hv'
        obtain ⟨p2, p3, pb⟩ := HR0.out.undrew (F := F) (A := A)
        obtain ⟨Y, hY⟩ : ∃ Y, (w3.setCell ⟨M + 1, 0, none⟩ (.int .i64 F)).setCell ⟨M + 1, 1, none⟩ (.int .i64 A) = Y := ⟨_, rfl⟩
        rw [hY] at p2 p3 pb
        obtain ⟨c0, c1, c2, c3, c4, c5⟩ := p2.six
        have fx := p2.fz
        have z0 := p3.c 0 (by simp)
        have z1 := p3.c 1 (by simp)
        simp only [List.getElem_cons_zero, List.getElem_cons_succ] at z0 z1
        have fz := p3.fz
        have P2 := Lib.hid p2
        have P3 := Lib.hid p3
        have PB := Lib.hid pb
        clear p2 p3 pb HR0
        go_wp2_with fail
        clear y0 y1 fy hY
        go_region
        go_wp2_with fail
        obtain ⟨z2, z3, zb⟩ := rd_put (F := F) (A := A) P2.out P3.out PB.out
        exact rd_leave_bad HM.out hE (cel_drew z2) (cel_drew z3) zb.drew rfl rfl
    have hjn : j = n2 := by omega
    have t1 : ¬ ((j : Int) < n2) := by omega
    have hst := HR.out
    rw [show n2 - j = 0 by omega] at hst
    have hst : rdM2 b l (rdRs b (hd b 3).toNat p) = R := by rw [rdQs, RD.app, List.append_nil] at hst; exact hst
    rw [HE.out.2.2.1, Int.toNat_natCast, ← RD.app_nil (rdRs b n3 p)] at hst
    clear HR
    have HR := Lib.hid hst
    clear hst
    obtain ⟨lq, hlq⟩ : ∃ x, l = x := ⟨_, rfl⟩
    rw [hlq] at HR HR0 hlj
    obtain ⟨sa0, sc0, rfl⟩ := row_shape HR0.out.q
    have HL0 := Lib.hid (show lq.length = n2 by omega)
    clear hlq hlj hj hjn
    go_wp2_with fail
    rw [rounds_succ]
    obtain ⟨d0, d1, d2, d3, d4, d5⟩ := HR0.out.h.six
    go_wp2_with fail
    clear d0 d1 d2 d3 d4 d5
    go_loopg [5, 40] n3 (fun g v5 v40 wr => ∃ j p : Nat, j + g = n3 ∧ v40 = .int .i64 j ∧ v5 = .int .i64 p ∧ p ≤ b.length ∧ ∃ (v : Value) (l : List Rc), l.length = j ∧ Hid (R0 w wr M H (H + 1) h0 h1 [.int .i64 h0, .int .i64 h1, .int .i64 n2, .int .i64 n3, .int .i64 n4, .int .i64 n5] (.slice sa0 lq.length sc0) v (.slice none 0 0) (.slice none 0 0) lq l [] []) ∧ Hid (rdM2 b lq (RD.app l (rdRs b (n3 - j) p)) = R))
    case atStart => exact ⟨0, p, by omega, rfl, rfl, hpl, _, [], rfl, HR0, HR⟩
    case round =>
      clear HR0 HR hpl
      obtain ⟨j, p, hj, rfl, rfl, hpl, v, l, hlj, HR0, HR⟩ := hrel
      by_cases hlt : j < n3
      · have hst := HR.out
        rw [show n3 - j = (n3 - (j + 1)) + 1 by omega, rdRs_step] at hst
        by_cases hE : (s6 b p).e = 0
        · rw [if_neg (by simpa using hE)] at hst
          obtain ⟨q', e1, e2, e3⟩ := rec_end hpl (by rw [HNN.out]; omega) hE
          rw [e1, Int.toNat_natCast] at hst
          have HRD := Lib.hid (readR_gen (o := 3) (v := v) (l := l) (B := H + 1) (p : Int) (recR b p) (s6 b p).a 0 0 HR0.out.x (by simp) rfl HR0.out.a (by have := HR0.out.hH; omega) HR0.out.size (by omega) (fun wy hb => by
            have := HRA.out wy (bel_call (by rw [HM.out]; exact HR0.out.bel) hb) p
            rw [recV_ok hE] at this
            exact this))
          rw [e1] at HRD
          have HR2 := Lib.hid hst
          clear hst HR e1 hE
          go_wp2_with fail
          refine HRD.out.mono ?_; rintro e w3 ⟨v', rfl, hx, ho, ha, hk⟩
          replace HR0 := Lib.hid (HR0.out.read1 hx ho ha hk)
          have y0 := HR0.out.f.c 0 (by simp)
          have y1 := HR0.out.f.c 1 (by simp)
          simp only [List.getElem_cons_zero, List.getElem_cons_succ] at y0 y1
          have fy := HR0.out.f.fz
          clear hx ho ha hk HRD
          obtain ⟨X, hX⟩ : ∃ X, (w3.setCell ⟨M + 1, 0, none⟩ (.int .i64 0)).setCell ⟨M + 1, 1, none⟩ (.int .i64 0) = X := ⟨_, rfl⟩
          replace HR0 := Lib.hid (hX ▸ HR0.out.fault)
          have x0 := HR0.out.f.c 0 (by simp)
          simp only [List.getElem_cons_zero] at x0
          go_wp2_with fail
          go_roundg (n3 - (j + 1))
          case measure => omega
          case rel => exact ⟨j + 1, q', by omega, by go_num, rfl, e3, v', l ++ [recR b p], by simp [hlj], HR0, HR2⟩
        · rw [if_pos hE] at hst
          have HRD := Lib.hid (readR_gen (o := 3) (v := v) (l := l) (B := H + 1) (p : Int) ⟨[], 0, 0, 0, []⟩ 0 (s6 b p).e (s6 b p).p HR0.out.x (by simp) rfl HR0.out.a (by have := HR0.out.hH; omega) HR0.out.size (by omega) (fun wy hb => by
            have := HRA.out wy (bel_call (by rw [HM.out]; exact HR0.out.bel) hb) p
            rw [recV_bad hE] at this
            exact this))
          obtain ⟨F, hF⟩ : ∃ F, (s6 b p).e = F := ⟨_, rfl⟩
          obtain ⟨A, hA⟩ : ∃ A, (s6 b p).p = A := ⟨_, rfl⟩
          rw [hF, hA] at HRD hst
          rw [hF] at hE
          have tF : (F != 0) = true := by simpa using hE
          have hst2 : RM.bad F A = R := hst
          rw [← hst2]
          clear hst HR hF hA hst2
          go_wp2_with fail
          refine HRD.out.mono ?_; rintro e w3 ⟨v', rfl, hx, ho, ha, hk⟩
          replace HR0 := Lib.hid (HR0.out.read1 hx ho ha hk)
          have y0 := HR0.out.f.c 0 (by simp)
          have y1 := HR0.out.f.c 1 (by simp)
          simp only [List.getElem_cons_zero, List.getElem_cons_succ] at y0 y1
          have fy := HR0.out.f.fz
          clear hx ho ha hk HRD
          obtain ⟨sa', sc', hv'⟩ := row_shape HR0.out.a
          obtain ⟨z', hz'⟩ : ∃ z, (l ++ [(⟨[], 0, 0, 0, []⟩ : Rc)]).length = z := ⟨_, rfl⟩
          rw [hz'] at hv'
          clear hz'
          subst hv'
          obtain ⟨p2, p3, pb⟩ := HR0.out.undrew (F := F) (A := A)
          obtain ⟨Y, hY⟩ : ∃ Y, (w3.setCell ⟨M + 1, 0, none⟩ (.int .i64 F)).setCell ⟨M + 1, 1, none⟩ (.int .i64 A) = Y := ⟨_, rfl⟩
          rw [hY] at p2 p3 pb
          obtain ⟨c0, c1, c2, c3, c4, c5⟩ := p2.six
          have fx := p2.fz
          have z0 := p3.c 0 (by simp)
          have z1 := p3.c 1 (by simp)
          simp only [List.getElem_cons_zero, List.getElem_cons_succ] at z0 z1
          have fz := p3.fz
          have P2 := Lib.hid p2
          have P3 := Lib.hid p3
          have PB := Lib.hid pb
          clear p2 p3 pb HR0
          go_wp2_with fail
          clear y0 y1 fy hY
          go_region
          go_wp2_with fail
          obtain ⟨z2, z3, zb⟩ := rd_put (F := F) (A := A) P2.out P3.out PB.out
          exact rd_leave_bad HM.out hE (cel_drew z2) (cel_drew z3) zb.drew rfl rfl
      have hjn : j = n3 := by omega
      have t1 : ¬ ((j : Int) < n3) := by omega
      have hst := HR.out
      rw [show n3 - j = 0 by omega] at hst
      have hst : rdM3 b lq l (rdRs b (hd b 4).toNat p) = R := by rw [rdRs, RD.app, List.append_nil] at hst; exact hst
      rw [HE.out.2.2.2.1, Int.toNat_natCast, ← RD.app_nil (rdRs b n4 p)] at hst
      clear HR
      have HR := Lib.hid hst
      clear hst
      obtain ⟨la, hla⟩ : ∃ x, l = x := ⟨_, rfl⟩
      rw [hla] at HR HR0 hlj
      obtain ⟨sa1, sc1, rfl⟩ := row_shape HR0.out.a
      have HL1 := Lib.hid (show la.length = n3 by omega)
      clear hla hlj hj hjn
      go_wp2_with fail
      rw [rounds_succ]
      obtain ⟨d0, d1, d2, d3, d4, d5⟩ := HR0.out.h.six
      go_wp2_with fail
      clear d0 d1 d2 d3 d4 d5
      go_loopg [5, 40] n4 (fun g v5 v40 wr => ∃ j p : Nat, j + g = n4 ∧ v40 = .int .i64 j ∧ v5 = .int .i64 p ∧ p ≤ b.length ∧ ∃ (v : Value) (l : List Rc), l.length = j ∧ Hid (R0 w wr M H (H + 1) h0 h1 [.int .i64 h0, .int .i64 h1, .int .i64 n2, .int .i64 n3, .int .i64 n4, .int .i64 n5] (.slice sa0 lq.length sc0) (.slice sa1 la.length sc1) v (.slice none 0 0) lq la l []) ∧ Hid (rdM3 b lq la (RD.app l (rdRs b (n4 - j) p)) = R))
      case atStart => exact ⟨0, p, by omega, rfl, rfl, hpl, _, [], rfl, HR0, HR⟩
      case round =>
        clear HR0 HR hpl
        obtain ⟨j, p, hj, rfl, rfl, hpl, v, l, hlj, HR0, HR⟩ := hrel
        by_cases hlt : j < n4
        · have hst := HR.out
          rw [show n4 - j = (n4 - (j + 1)) + 1 by omega, rdRs_step] at hst
          by_cases hE : (s6 b p).e = 0
          · rw [if_neg (by simpa using hE)] at hst
            obtain ⟨q', e1, e2, e3⟩ := rec_end hpl (by rw [HNN.out]; omega) hE
            rw [e1, Int.toNat_natCast] at hst
            have HRD := Lib.hid (readR_gen (o := 4) (v := v) (l := l) (B := H + 1) (p : Int) (recR b p) (s6 b p).a 0 0 HR0.out.x (by simp) rfl HR0.out.n (by have := HR0.out.hH; omega) HR0.out.size (by omega) (fun wy hb => by
              have := HRA.out wy (bel_call (by rw [HM.out]; exact HR0.out.bel) hb) p
              rw [recV_ok hE] at this
              exact this))
            rw [e1] at HRD
            have HR2 := Lib.hid hst
            clear hst HR e1 hE
            go_wp2_with fail
            refine HRD.out.mono ?_; rintro e w3 ⟨v', rfl, hx, ho, ha, hk⟩
            replace HR0 := Lib.hid (HR0.out.read2 hx ho ha hk)
            have y0 := HR0.out.f.c 0 (by simp)
            have y1 := HR0.out.f.c 1 (by simp)
            simp only [List.getElem_cons_zero, List.getElem_cons_succ] at y0 y1
            have fy := HR0.out.f.fz
            clear hx ho ha hk HRD
            obtain ⟨X, hX⟩ : ∃ X, (w3.setCell ⟨M + 1, 0, none⟩ (.int .i64 0)).setCell ⟨M + 1, 1, none⟩ (.int .i64 0) = X := ⟨_, rfl⟩
            replace HR0 := Lib.hid (hX ▸ HR0.out.fault)
            have x0 := HR0.out.f.c 0 (by simp)
            simp only [List.getElem_cons_zero] at x0
            go_wp2_with fail
            go_roundg (n4 - (j + 1))
            case measure => omega
            case rel => exact ⟨j + 1, q', by omega, by go_num, rfl, e3, v', l ++ [recR b p], by simp [hlj], HR0, HR2⟩
          · rw [if_pos hE] at hst
            have HRD := Lib.hid (readR_gen (o := 4) (v := v) (l := l) (B := H + 1) (p : Int) ⟨[], 0, 0, 0, []⟩ 0 (s6 b p).e (s6 b p).p HR0.out.x (by simp) rfl HR0.out.n (by have := HR0.out.hH; omega) HR0.out.size (by omega) (fun wy hb => by
              have := HRA.out wy (bel_call (by rw [HM.out]; exact HR0.out.bel) hb) p
              rw [recV_bad hE] at this
              exact this))
            obtain ⟨F, hF⟩ : ∃ F, (s6 b p).e = F := ⟨_, rfl⟩
            obtain ⟨A, hA⟩ : ∃ A, (s6 b p).p = A := ⟨_, rfl⟩
            rw [hF, hA] at HRD hst
            rw [hF] at hE
            have tF : (F != 0) = true := by simpa using hE
            have hst2 : RM.bad F A = R := hst
            rw [← hst2]
            clear hst HR hF hA hst2
            go_wp2_with fail
            refine HRD.out.mono ?_; rintro e w3 ⟨v', rfl, hx, ho, ha, hk⟩
            replace HR0 := Lib.hid (HR0.out.read2 hx ho ha hk)
            have y0 := HR0.out.f.c 0 (by simp)
            have y1 := HR0.out.f.c 1 (by simp)
            simp only [List.getElem_cons_zero, List.getElem_cons_succ] at y0 y1
            have fy := HR0.out.f.fz
            clear hx ho ha hk HRD
            obtain ⟨sa', sc', hv'⟩ := row_shape HR0.out.n
            obtain ⟨z', hz'⟩ : ∃ z, (l ++ [(⟨[], 0, 0, 0, []⟩ : Rc)]).length = z := ⟨_, rfl⟩
            rw [hz'] at hv'
            clear hz'
            subst hv'
            obtain ⟨p2, p3, pb⟩ := HR0.out.undrew (F := F) (A := A)
            obtain ⟨Y, hY⟩ : ∃ Y, (w3.setCell ⟨M + 1, 0, none⟩ (.int .i64 F)).setCell ⟨M + 1, 1, none⟩ (.int .i64 A) = Y := ⟨_, rfl⟩
            rw [hY] at p2 p3 pb
            obtain ⟨c0, c1, c2, c3, c4, c5⟩ := p2.six
            have fx := p2.fz
            have z0 := p3.c 0 (by simp)
            have z1 := p3.c 1 (by simp)
            simp only [List.getElem_cons_zero, List.getElem_cons_succ] at z0 z1
            have fz := p3.fz
            have P2 := Lib.hid p2
            have P3 := Lib.hid p3
            have PB := Lib.hid pb
            clear p2 p3 pb HR0
            go_wp2_with fail
            clear y0 y1 fy hY
            go_region
            go_wp2_with fail
            obtain ⟨z2, z3, zb⟩ := rd_put (F := F) (A := A) P2.out P3.out PB.out
            exact rd_leave_bad HM.out hE (cel_drew z2) (cel_drew z3) zb.drew rfl rfl
        have hjn : j = n4 := by omega
        have t1 : ¬ ((j : Int) < n4) := by omega
        have hst := HR.out
        rw [show n4 - j = 0 by omega] at hst
        have hst : rdM4 b lq la l (rdRs b (hd b 5).toNat p) = R := by rw [rdRs, RD.app, List.append_nil] at hst; exact hst
        rw [HE.out.2.2.2.2, Int.toNat_natCast, ← RD.app_nil (rdRs b n5 p)] at hst
        clear HR
        have HR := Lib.hid hst
        clear hst
        obtain ⟨ln, hln⟩ : ∃ x, l = x := ⟨_, rfl⟩
        rw [hln] at HR HR0 hlj
        obtain ⟨sa2, sc2, rfl⟩ := row_shape HR0.out.n
        have HL2 := Lib.hid (show ln.length = n4 by omega)
        clear hln hlj hj hjn
        go_wp2_with fail
        rw [rounds_succ]
        obtain ⟨d0, d1, d2, d3, d4, d5⟩ := HR0.out.h.six
        go_wp2_with fail
        clear d0 d1 d2 d3 d4 d5
        go_loopg [5, 40] n5 (fun g v5 v40 wr => ∃ j p : Nat, j + g = n5 ∧ v40 = .int .i64 j ∧ v5 = .int .i64 p ∧ p ≤ b.length ∧ ∃ (v : Value) (l : List Rc), l.length = j ∧ Hid (R0 w wr M H (H + 1) h0 h1 [.int .i64 h0, .int .i64 h1, .int .i64 n2, .int .i64 n3, .int .i64 n4, .int .i64 n5] (.slice sa0 lq.length sc0) (.slice sa1 la.length sc1) (.slice sa2 ln.length sc2) v lq la ln l) ∧ Hid (rdM4 b lq la ln (RD.app l (rdRs b (n5 - j) p)) = R))
        case atStart => exact ⟨0, p, by omega, rfl, rfl, hpl, _, [], rfl, HR0, HR⟩
        case round =>
          clear HR0 HR hpl
          obtain ⟨j, p, hj, rfl, rfl, hpl, v, l, hlj, HR0, HR⟩ := hrel
          by_cases hlt : j < n5
          · have hst := HR.out
            rw [show n5 - j = (n5 - (j + 1)) + 1 by omega, rdRs_step] at hst
            by_cases hE : (s6 b p).e = 0
            · rw [if_neg (by simpa using hE)] at hst
              obtain ⟨q', e1, e2, e3⟩ := rec_end hpl (by rw [HNN.out]; omega) hE
              rw [e1, Int.toNat_natCast] at hst
              have HRD := Lib.hid (readR_gen (o := 5) (v := v) (l := l) (B := H + 1) (p : Int) (recR b p) (s6 b p).a 0 0 HR0.out.x (by simp) rfl HR0.out.r (by have := HR0.out.hH; omega) HR0.out.size (by omega) (fun wy hb => by
                have := HRA.out wy (bel_call (by rw [HM.out]; exact HR0.out.bel) hb) p
                rw [recV_ok hE] at this
                exact this))
              rw [e1] at HRD
              have HR2 := Lib.hid hst
              clear hst HR e1 hE
              go_wp2_with fail
              refine HRD.out.mono ?_; rintro e w3 ⟨v', rfl, hx, ho, ha, hk⟩
              replace HR0 := Lib.hid (HR0.out.read3 hx ho ha hk)
              have y0 := HR0.out.f.c 0 (by simp)
              have y1 := HR0.out.f.c 1 (by simp)
              simp only [List.getElem_cons_zero, List.getElem_cons_succ] at y0 y1
              have fy := HR0.out.f.fz
              clear hx ho ha hk HRD
              obtain ⟨X, hX⟩ : ∃ X, (w3.setCell ⟨M + 1, 0, none⟩ (.int .i64 0)).setCell ⟨M + 1, 1, none⟩ (.int .i64 0) = X := ⟨_, rfl⟩
              replace HR0 := Lib.hid (hX ▸ HR0.out.fault)
              have x0 := HR0.out.f.c 0 (by simp)
              simp only [List.getElem_cons_zero] at x0
              go_wp2_with fail
              go_roundg (n5 - (j + 1))
              case measure => omega
              case rel => exact ⟨j + 1, q', by omega, by go_num, rfl, e3, v', l ++ [recR b p], by simp [hlj], HR0, HR2⟩
            · rw [if_pos hE] at hst
              have HRD := Lib.hid (readR_gen (o := 5) (v := v) (l := l) (B := H + 1) (p : Int) ⟨[], 0, 0, 0, []⟩ 0 (s6 b p).e (s6 b p).p HR0.out.x (by simp) rfl HR0.out.r (by have := HR0.out.hH; omega) HR0.out.size (by omega) (fun wy hb => by
                have := HRA.out wy (bel_call (by rw [HM.out]; exact HR0.out.bel) hb) p
                rw [recV_bad hE] at this
                exact this))
              obtain ⟨F, hF⟩ : ∃ F, (s6 b p).e = F := ⟨_, rfl⟩
              obtain ⟨A, hA⟩ : ∃ A, (s6 b p).p = A := ⟨_, rfl⟩
              rw [hF, hA] at HRD hst
              rw [hF] at hE
              have tF : (F != 0) = true := by simpa using hE
              have hst2 : RM.bad F A = R := hst
              rw [← hst2]
              clear hst HR hF hA hst2
              go_wp2_with fail
              refine HRD.out.mono ?_; rintro e w3 ⟨v', rfl, hx, ho, ha, hk⟩
              replace HR0 := Lib.hid (HR0.out.read3 hx ho ha hk)
              have y0 := HR0.out.f.c 0 (by simp)
              have y1 := HR0.out.f.c 1 (by simp)
              simp only [List.getElem_cons_zero, List.getElem_cons_succ] at y0 y1
              have fy := HR0.out.f.fz
              clear hx ho ha hk HRD
              obtain ⟨sa', sc', hv'⟩ := row_shape HR0.out.r
              obtain ⟨z', hz'⟩ : ∃ z, (l ++ [(⟨[], 0, 0, 0, []⟩ : Rc)]).length = z := ⟨_, rfl⟩
              rw [hz'] at hv'
              clear hz'
              subst hv'
              obtain ⟨p2, p3, pb⟩ := HR0.out.undrew (F := F) (A := A)
              obtain ⟨Y, hY⟩ : ∃ Y, (w3.setCell ⟨M + 1, 0, none⟩ (.int .i64 F)).setCell ⟨M + 1, 1, none⟩ (.int .i64 A) = Y := ⟨_, rfl⟩
              rw [hY] at p2 p3 pb
              obtain ⟨c0, c1, c2, c3, c4, c5⟩ := p2.six
              have fx := p2.fz
              have z0 := p3.c 0 (by simp)
              have z1 := p3.c 1 (by simp)
              simp only [List.getElem_cons_zero, List.getElem_cons_succ] at z0 z1
              have fz := p3.fz
              have P2 := Lib.hid p2
              have P3 := Lib.hid p3
              have PB := Lib.hid pb
              clear p2 p3 pb HR0
              go_wp2_with fail
              clear y0 y1 fy hY
              go_region
              go_wp2_with fail
              obtain ⟨z2, z3, zb⟩ := rd_put (F := F) (A := A) P2.out P3.out PB.out
              exact rd_leave_bad HM.out hE (cel_drew z2) (cel_drew z3) zb.drew rfl rfl
          have hjn : j = n5 := by omega
          have t1 : ¬ ((j : Int) < n5) := by omega
          have hst := HR.out
          rw [show n5 - j = 0 by omega] at hst
          have hst : (if p < b.length then RM.bad 4 p else .ok ⟨h0, h1, lq, la, ln, l⟩) = R := by rw [rdRs, RD.app, List.append_nil, rdM4, HE.out.1, HE.out.2.1] at hst; exact hst
          clear HR
          have HR := Lib.hid hst
          clear hst
          obtain ⟨lr, hlr⟩ : ∃ x, l = x := ⟨_, rfl⟩
          rw [hlr] at HR HR0 hlj
          obtain ⟨sa3, sc3, rfl⟩ := row_shape HR0.out.r
          have HL3 := Lib.hid (show lr.length = n5 by omega)
          clear hlr hlj hj hjn
          go_wp2_with fail
          rw [rounds_succ]
          obtain ⟨c0, c1, c2, c3, c4, c5⟩ := HR0.out.x.six
          have fx := HR0.out.x.fz
          have y0 := HR0.out.f.c 0 (by simp)
          have y1 := HR0.out.f.c 1 (by simp)
          simp only [List.getElem_cons_zero, List.getElem_cons_succ] at y0 y1
          have fy := HR0.out.f.fz
          have hst := HR.out
          clear HR
          by_cases hpn : p < n
          · rw [if_pos (by rw [HNN.out]; exact hpn)] at hst
            have HST := Lib.hid hst
            clear hst
            have t2 : decide ((p : Int) < n) = true := by simp; omega
            go_wp2_with fail
            rw [← HST.out]
            obtain ⟨z2, z3, zb⟩ := rd_put (F := 4) (A := p) HR0.out.x HR0.out.f HR0.out.bel
            exact rd_leave_bad HM.out (by decide) z2 z3 zb rfl rfl
          · rw [if_neg (by rw [HNN.out]; exact hpn)] at hst
            have HST := Lib.hid hst
            clear hst
            have t2 : decide ((p : Int) < n) = false := by simp; omega
            go_wp2_with fail
            rw [← HST.out]
            have hs := HR0.out.same
            obtain ⟨z2, z3, zb⟩ := rd_put (F := 0) (A := 0) HR0.out.x HR0.out.f HR0.out.bel
            exact rd_leave_ok HM.out z2 z3 zb (hs.mg (by rw [HL0.out]; omega) (by rw [HL1.out]; omega) (by rw [HL2.out]; omega) (by rw [HL3.out]; omega)) rfl rfl

/-- The message that bytes are, or the fault. -/
theorem readM_any {w : World} {lo hi : Nat} {vb : Value} {b : List UInt8} (hS : Sl w lo hi vb (iz b)) (hhi : hi ≤ w.heap.size) (hl : b.length ≤ 1000000) : Calls Tryz.prog 17 #[vb] w (RMPost w (rdM b)) := by
  have hS2 := hS
  obtain ⟨av, cv, rfl, _⟩ := hS
  have hS : Sl w lo hi (.slice av b.length cv) (iz b) := by rw [iz_len] at hS2; exact hS2
  rw [iz_len]
  unfold rdM
  by_cases h1 : 65535 < b.length
  · rw [if_pos h1]; exact readM_long h1 (by omega)
  · rw [if_neg h1]
    by_cases h2 : b.length < 12
    · rw [if_pos h2]; exact readM_short hS hhi h2
    · rw [if_neg h2]; exact readM_mid hS hhi (by omega) (by omega)
end Go.Proofs.YtpdaekgldgoalaaGreat

/-
  Flags: the opcode, the code, another code; the statement about them.
-/
namespace Go.Proofs.YtpdaekgldgoalaaGreat
open Go.RowKit Go.Shelf
set_option linter.unusedVariables false
set_option linter.unusedSimpArgs false
set_option maxRecDepth 100000

theorem i64_and15 (n : Int) : bits .and .i64 n 15 = n % 16 := by
  have h15 : (BitVec.ofInt 64 15).toNat = 2 ^ 4 - 1 := by decide
  have key : (BitVec.ofInt 64 n &&& BitVec.ofInt 64 15).toNat = (n % ((2 ^ 64 : Nat) : Int)).toNat % 2 ^ 4 := by
    rw [BitVec.toNat_and, BitVec.toNat_ofInt, h15, Nat.and_two_pow_sub_one_eq_mod]
  show IntKind.i64.wrap ((BitVec.ofInt 64 n &&& BitVec.ofInt 64 15).toNat : Nat) = n % 16
  rw [key, IntKind.wrap_i64]
  omega
def cdF (f : Int) : Int := f % 16
/-- The same value is told, nothing in memory turns. -/
def Tell0 (w : World) (v : Value) (e : Ending) (w' : World) : Prop := e = .returned v ∧ w = w'

theorem mcode_any (f : Int) (w : World) : Calls Tryz.prog 14 #[.int .i64 f] w (Tell0 w (.int .i64 (cdF f))) := by
  go_enter Tryz.func14, Tryz.ntmps14
  go_wp2
  go_ret
  exact ⟨by rw [i64_and15]; rfl, rfl⟩
end Go.Proofs.YtpdaekgldgoalaaGreat

/-
  The bare answer: Reply, and its flags.
-/
namespace Go.Proofs.YtpdaekgldgoalaaGreat
open Go.RowKit Go.Shelf
set_option linter.unusedVariables false
set_option linter.unusedSimpArgs false
set_option maxRecDepth 100000

/-- The answer while questions are being taken over. -/
structure Rp (w wr : World) (N : Nat) (i f : Int) (qv : Value) (l : List Qn) : Prop where
  bel : Below N w wr
  z : Cel wr (N + 1) [.int .i64 0, .int .i64 0, .slice none 0 0, .slice none 0 0, .slice none 0 0, .slice none 0 0]
  r : Cel wr (N + 2) [.int .i64 i, .int .i64 f, qv, .slice none 0 0, .slice none 0 0, .slice none 0 0]
  own : OwnQn wr (N + 3) qv l
  size : N + 3 ≤ wr.heap.size

section
variable {w wr w' : World} {N : Nat} {i f : Int} {qv : Value} {l : List Qn}
end

section
variable {w : World} {q : Nat} {a0 a1 a2 a3 a4 a5 : Value}
/-- Six cells stored one after another. -/
def put6 (w : World) (q : Nat) (b0 b1 b2 b3 b4 b5 : Value) : World :=
  (((((w.setCell ⟨q, 0, none⟩ b0).setCell ⟨q, 1, none⟩ b1).setCell ⟨q, 2, none⟩ b2).setCell ⟨q, 3, none⟩ b3).setCell ⟨q, 4, none⟩ b4).setCell ⟨q, 5, none⟩ b5
theorem cel_put6 (h : Cel w q [a0, a1, a2, a3, a4, a5]) (b0 b1 b2 b3 b4 b5 : Value) : Cel (put6 w q b0 b1 b2 b3 b4 b5) q [b0, b1, b2, b3, b4, b5] := by
  have := (((((h.set (o := 0) (by simp) b0).set (o := 1) (by simp) b1).set (o := 2) (by simp) b2).set (o := 3) (by simp) b3).set (o := 4) (by simp) b4).set (o := 5) (by simp) b5
  simp only [List.set_cons_zero, List.set_cons_succ] at this
  exact this
theorem aside_put6 (w : World) (q : Nat) (b0 b1 b2 b3 b4 b5 : Value) : Aside (fun k => k = q) w (put6 w q b0 b1 b2 b3 b4 b5) := by
  have st : ∀ (x : World) (o : Nat) (v : Value), Aside (fun k => k = q) x (x.setCell ⟨q, o, none⟩ v) := fun x o v => Aside.setCell x (p := ⟨q, o, none⟩) v rfl
  exact (((((st _ _ _).trans (st _ _ _)).trans (st _ _ _)).trans (st _ _ _)).trans (st _ _ _)).trans (st _ _ _)
end

theorem row_base {w : World} {B B' k n : Nat} {e : TypeId} {v : Value} {xs : List Value} (h : w.ownsRow B e k v n xs) (hB : B' ≤ B) : w.ownsRow B' e k v n xs := by
  refine ⟨h.1, ?_⟩
  rcases h.2 with h2 | ⟨g, cap, cur, h2⟩
  · exact .inl h2
  · exact .inr ⟨g, cap, cur, h2.1, Nat.le_trans hB h2.2.1, h2.2.2⟩

end Go.Proofs.YtpdaekgldgoalaaGreat

/-
  Questions and records copied with room to spare; that room is as it was.
-/
namespace Go.Proofs.YtpdaekgldgoalaaGreat
open Go.RowKit Go.Shelf
set_option linter.unusedVariables false
set_option linter.unusedSimpArgs false
set_option maxRecDepth 100000

section
variable {w w' : World} {B : Nat} {v : Value}
end

theorem size_rc (wx : World) : (sizeOf (Tryz.prog.elem 23)).run Tryz.prog wx = .ok 5 wx := by kernel_rfl
theorem row_cap {w : World} {B k n : Nat} {e : TypeId} {a : Option Addr} {m c : Nat} {xs : List Value} (h : w.ownsRow B e k (.slice a m c) n xs) : n ≤ c := by
  rcases h.2 with ⟨h2, h0⟩ | ⟨g, cap, cur, h2, _, _, h3, _⟩
  · omega
  · injection h2 with _ _ h2
    omega

end Go.Proofs.YtpdaekgldgoalaaGreat

/-
  What is said besides, as the statements compare and copy it: SameEdns, BigEdns, CopyEdns.
-/
namespace Go.Proofs.YtpdaekgldgoalaaGreat
open Go.RowKit Go.Shelf
set_option linter.unusedVariables false
set_option linter.unusedSimpArgs false
set_option maxRecDepth 100000

set_option maxHeartbeats 1000000 in
theorem sameE_yes {w : World} {hi hi' : Nat} {u v : Value} {e : Ed} (h : Eg w hi u e) (h' : Eg w hi' v e) (h1 : hi ≤ w.heap.size) (h2 : hi' ≤ w.heap.size) :
    Calls Tryz.prog 10 #[u, v] w (Tells w (.bool true)) := by
  obtain ⟨o, rfl, hs⟩ := h
  obtain ⟨o', rfl, hs'⟩ := h'
  obtain ⟨es, ex, ev, eb, l⟩ := e
  simp only at hs hs' ⊢
  have HN := Lib.hid (Lst.len hs)
  obtain ⟨a, c, rfl⟩ := Lst.shape hs
  obtain ⟨a', c', rfl⟩ := Lst.shape hs'
  have hb0 : Below w.heap.size w ((w.alloc (.cells #[.int .i64 es, .int .i64 ex, .int .i64 ev, .bool eb, .slice a l.length c] 28)).alloc (.cells #[.int .i64 es, .int .i64 ex, .int .i64 ev, .bool eb, .slice a' l.length c'] 28)) := ((Below.refl _ _).alloc (Nat.le_refl _) _).alloc (by simp) _
  have hx := (cel_new w (.int .i64 es) (.int .i64 ex) (.int .i64 ev) (.bool eb) (.slice a l.length c) 28).below (by simp) ((Below.refl _ _).alloc (Nat.le_refl _) (.cells #[.int .i64 es, .int .i64 ex, .int .i64 ev, .bool eb, .slice a' l.length c'] 28))
  have hy := cel_new (w.alloc (.cells #[.int .i64 es, .int .i64 ex, .int .i64 ev, .bool eb, .slice a l.length c] 28)) (.int .i64 es) (.int .i64 ex) (.int .i64 ev) (.bool eb) (.slice a' l.length c') 28
  rw [World.size_alloc] at hy
  have HS := Lib.hid (show SO _ hi _ l from Lst.below hs hb0 h1)
  have HS' := Lib.hid (show SO _ hi' _ l from Lst.below hs' hb0 h2)
  have hbb := fun wx => (show (binOp .neq 4 (.bool eb) (.bool eb)).run Tryz.prog wx = .ok (.bool false) wx by cases eb <;> kernel_rfl)
  obtain ⟨N, hN⟩ : ∃ N, w.heap.size = N := ⟨_, rfl⟩
  have HB0 := Lib.hid hb0
  rw [hN] at hx hy HB0 h1 h2
  have HX0 := Lib.hid hx
  have HY0 := Lib.hid hy
  have hsz : ((w.alloc (.cells #[.int .i64 es, .int .i64 ex, .int .i64 ev, .bool eb, .slice a l.length c] 28)).alloc (.cells #[.int .i64 es, .int .i64 ex, .int .i64 ev, .bool eb, .slice a' l.length c'] 28)).heap.size = N + 2 := by simp [hN]
  obtain ⟨W, hW⟩ : ∃ W, (w.alloc (.cells #[.int .i64 es, .int .i64 ex, .int .i64 ev, .bool eb, .slice a l.length c] 28)).alloc (.cells #[.int .i64 es, .int .i64 ex, .int .i64 ev, .bool eb, .slice a' l.length c'] 28) = W := ⟨_, rfl⟩
  rw [hW] at HB0 HX0 HY0 HS HS' hsz
  obtain ⟨c0, c1, c2, c3, c4⟩ := HX0.out.five
  obtain ⟨d0, d1, d2, d3, d4⟩ := HY0.out.five
  have HSZ := Lib.hid hsz
  have HD0 := Lib.hid (Below.refl W.heap.size W)
  have HH := Lib.hid (And.intro h1 h2)
  clear hs hs' hb0 hx hy hsz h1 h2
  go_enter Tryz.func10, Tryz.ntmps10
  go_wp2_with fail
  clear c0 c1 c2 c3 c4 d0 d1 d2 d3 d4
  go_loopg [5] l.length (fun g v5 wr => ∃ k : Nat, k + g = l.length ∧ v5 = .int .i64 k ∧ Hid (Below W.heap.size W wr))
  case atStart => exact ⟨0, by omega, rfl, by first | exact HD0 | (rw [hW]; exact HD0)⟩
  case round =>
    clear HD0
    obtain ⟨k, hk, rfl, HB⟩ := hrel
    have hlen := HN.out
    obtain ⟨x0, x1, x2, x3, x4⟩ := (HX0.out.below (by simp) HB.out).five
    obtain ⟨y0, y1, y2, y3, y4⟩ := (HY0.out.below (by simp) HB.out).five
    by_cases hlt : k < l.length
    · obtain ⟨b, off, c2, he, hb, hc⟩ := HS.out.at_ k hlt
      obtain ⟨b', off', c2', he', hb', hc'⟩ := HS'.out.at_ k hlt
      injection he with he hn3 hc3
      injection he' with he' hn3' hc3'
      clear hn3 hc3 hn3' hc3'
      subst he; subst he'
      obtain ⟨p0, p1⟩ := hc.keep fun o => HB.out.cell (p := ⟨b, o, none⟩) (by have := HSZ.out; have := HH.out.1; show b < W.heap.size; omega)
      obtain ⟨q0, q1⟩ := hc'.keep fun o => HB.out.cell (p := ⟨b', o, none⟩) (by have := HSZ.out; have := HH.out.2; show b' < W.heap.size; omega)
      have HE := fun wx => neqO l[k] wx
      obtain ⟨x, hx⟩ : ∃ x, l[k] = x := ⟨_, rfl⟩
      rw [hx] at p0 p1 q0 q1 HE
      have HB2 := Lib.hid (fun n => below_drewN HB.out n)
      clear hc hc' hx HB
      go_wp2_with fail
      go_quiet (fail)
      go_wp2_with fail
      go_roundg (l.length - (k + 1))
      case measure => omega
      case rel => exact ⟨k + 1, by omega, by go_num, HB2.out _⟩
    · have t1 : ¬ ((k : Int) < l.length) := by omega
      have HBB := Lib.hid (HB0.out.trans (HB.out.mono (by have := HSZ.out; rw [hN] at *; omega)))
      go_wp2_with fail
      go_ret
      exact ⟨rfl, by rw [hN]; exact HBB.out⟩

section
variable {w : World} {q : Nat} {a0 a1 a2 a3 a4 : Value}
/-- Five cells stored one after another. -/
def put5 (w : World) (q : Nat) (b0 b1 b2 b3 b4 : Value) : World :=
  ((((w.setCell ⟨q, 0, none⟩ b0).setCell ⟨q, 1, none⟩ b1).setCell ⟨q, 2, none⟩ b2).setCell ⟨q, 3, none⟩ b3).setCell ⟨q, 4, none⟩ b4
theorem cel_put5 (h : Cel w q [a0, a1, a2, a3, a4]) (b0 b1 b2 b3 b4 : Value) : Cel (put5 w q b0 b1 b2 b3 b4) q [b0, b1, b2, b3, b4] := by
  have := ((((h.set (o := 0) (by simp) b0).set (o := 1) (by simp) b1).set (o := 2) (by simp) b2).set (o := 3) (by simp) b3).set (o := 4) (by simp) b4
  simp only [List.set_cons_zero, List.set_cons_succ] at this
  exact this
theorem aside_put5 (w : World) (q : Nat) (b0 b1 b2 b3 b4 : Value) : Aside (fun k => k = q) w (put5 w q b0 b1 b2 b3 b4) := by
  have st : ∀ (x : World) (o : Nat) (v : Value), Aside (fun k => k = q) x (x.setCell ⟨q, o, none⟩ v) := fun x o v => Aside.setCell x (p := ⟨q, o, none⟩) v rfl
  exact ((((st _ _ _).trans (st _ _ _)).trans (st _ _ _)).trans (st _ _ _)).trans (st _ _ _)
end

def bigE (most M : Nat) (e : Ed) : Bool := (e.o.any fun x => decide (M < x.d.length)) || decide (most < e.o.length)
theorem bigE_no {most M : Nat} {e : Ed} (h : bigE most M e = false) : e.o.length ≤ most ∧ ∀ x ∈ e.o, x.d.length ≤ M := by
  unfold bigE at h
  rw [Bool.or_eq_false_iff] at h
  refine ⟨by simpa using h.2, fun x hx => ?_⟩
  have := List.any_eq_false.mp h.1 x hx
  simpa using this

set_option maxHeartbeats 1000000 in
theorem bigE_any {w : World} {hi : Nat} {u : Value} {e : Ed} (most M : Nat) (hmo : most ≤ 1000000) (hM : M ≤ 1000000) (h : Eg w hi u e) (h1 : hi ≤ w.heap.size) :
    Calls Tryz.prog 6 #[u, .int .i64 most, .int .i64 M] w (Tells w (.bool (bigE most M e))) := by
  obtain ⟨o, rfl, hs⟩ := h
  obtain ⟨es, ex, ev, eb, l⟩ := e
  obtain ⟨r, hr⟩ : ∃ r, bigE most M ⟨es, ex, ev, eb, l⟩ = r := ⟨_, rfl⟩
  rw [hr]
  unfold bigE at hr
  simp only at hs hr ⊢
  have HR := Lib.hid hr
  have HN := Lib.hid (Lst.len hs)
  obtain ⟨a, c, rfl⟩ := Lst.shape hs
  have hb0 : Below w.heap.size w (w.alloc (.cells #[.int .i64 es, .int .i64 ex, .int .i64 ev, .bool eb, .slice a l.length c] 28)) := (Below.refl _ _).alloc (Nat.le_refl _) _
  have hx := cel_new w (.int .i64 es) (.int .i64 ex) (.int .i64 ev) (.bool eb) (.slice a l.length c) 28
  have HS := Lib.hid (show SO _ hi _ l from Lst.below hs hb0 h1)
  have HB := Lib.hid hb0
  obtain ⟨N, hN⟩ : ∃ N, w.heap.size = N := ⟨_, rfl⟩
  obtain ⟨W, hW⟩ : ∃ W, w.alloc (.cells #[.int .i64 es, .int .i64 ex, .int .i64 ev, .bool eb, .slice a l.length c] 28) = W := ⟨_, rfl⟩
  rw [hW] at HB HS hx
  rw [hN] at hx
  obtain ⟨c0, c1, c2, c3, c4⟩ := hx.five
  clear hs hb0 hx hr
  go_enter Tryz.func6, Tryz.ntmps6
  go_wp2_with fail
  go_loopg [7] l.length (fun g v7 wr => ∃ k : Nat, k + g = l.length ∧ v7 = .int .i64 k ∧ Hid ((l.take k).any (fun x => decide (M < x.d.length)) = false) ∧ W = wr)
  case atStart => exact ⟨0, by omega, rfl, by simp [Hid], by first | rfl | exact hW.symm⟩
  case round =>
    clear hW
    obtain ⟨j, hj, rfl, HA, rfl⟩ := hrel
    have hlen := HN.out
    by_cases hlt : j < l.length
    · obtain ⟨b, off, c2', he, hb, p0, p1⟩ := HS.out.at_ j hlt
      injection he with he hn3 hc3
      clear hn3 hc3
      subst he
      have hany := HA.out
      have htk : l.take (j + 1) = l.take j ++ [l[j]] := by rw [List.take_add_one, List.getElem?_eq_getElem hlt]; rfl
      have HM := Lib.hid (List.getElem_mem hlt)
      obtain ⟨x, hx⟩ : ∃ x, l[j] = x := ⟨_, rfl⟩
      rw [hx] at p0 p1 htk HM
      obtain ⟨n, d⟩ := x
      simp only at p0 p1
      have hds : (bs d).size = d.length := bs_size d
      by_cases h1 : M < d.length
      · have HE := Lib.hid (show r = true by rw [← HR.out, Bool.or_eq_true]; exact .inl (List.any_eq_true.mpr ⟨_, HM.out, by simp [h1]⟩))
        have t1 : decide ((M : Int) < d.length) = true := by simp; omega
        clear hany htk hx HA HM
        go_wp2_with fail
        go_ret
        exact ⟨by rw [HE.out]; rfl, HB.out⟩
      · have t2 : decide ((M : Int) < d.length) = false := by simp; omega
        have HA2 := Lib.hid (show (l.take (j + 1)).any (fun x => decide (M < x.d.length)) = false by rw [htk, List.any_append, hany]; simp; omega)
        clear hany htk hx HA HM
        go_wp2_with fail
        go_roundg (l.length - (j + 1))
        case measure => omega
        case rel => exact ⟨j + 1, by omega, by go_num, HA2, rfl⟩
    · have hje : j = l.length := by omega
      have HE := Lib.hid (show r = decide (most < l.length) by
        rw [← HR.out]
        have := HA.out
        rw [List.take_of_length_le (by omega)] at this
        rw [this]; rfl)
      clear HA
      have t1 : ¬ ((j : Int) < l.length) := by omega
      by_cases hb2 : most < l.length
      · have t2 : decide ((most : Int) < l.length) = true := by simp; omega
        have HE2 := Lib.hid (show r = true by rw [HE.out]; simp [hb2])
        go_wp2_with fail
        go_ret
        exact ⟨by rw [HE2.out]; rfl, HB.out⟩
      · have t2 : decide ((most : Int) < l.length) = false := by simp; omega
        have HE2 := Lib.hid (show r = false by rw [HE.out]; simp; omega)
        go_wp2_with fail
        go_ret
        exact ⟨by rw [HE2.out]; rfl, HB.out⟩

theorem run_appOt {w : World} {B hi : Nat} {v u : Value} {l m : List Ot} (h : OwnO w B v l) (hx : SO w hi u m) (hnm : l.length + m.length ≤ 1000000) (hB : B ≤ w.heap.size) :
    ∃ a' c' w', (Builtin.append_ #[26, 26] 26 #[v, u]).run Tryz.prog w = .ok (.slice a' (l.length + m.length) c') w' ∧ OwnO w' B (.slice a' (l.length + m.length) c') (l ++ m) ∧ Aside (fun b => v.ownBlock = some b) w w' ∧
      ((Value.slice a' (l.length + m.length) c').ownBlock = v.ownBlock ∨ (Value.slice a' (l.length + m.length) c').ownBlock = some w.heap.size) := by
  obtain ⟨i0, hi, hz0, hz1, hz2⟩ := info_parts info_ot
  obtain ⟨a', c', w', r1, r2, r3, r4⟩ := row_more 24 Tryz.underlying26 hi hz0 hz1 hz2 (by rfl) (by decide) (by decide) h hx (by rw [aco_len]) (aco_one m) hnm hB
  exact ⟨a', c', w', r1, by unfold OwnO; rw [aco_app, List.length_append]; exact r2, r3, r4⟩

end Go.Proofs.YtpdaekgldgoalaaGreat

/-
  May something be said: bounded, Check.
-/
namespace Go.Proofs.YtpdaekgldgoalaaGreat
open Go.RowKit Go.Shelf
set_option linter.unusedVariables false
set_option linter.unusedSimpArgs false
set_option maxRecDepth 100000

theorem wr64 (n : Int) (h0 : -4000000000000000000 ≤ n) (h1 : n ≤ 4000000000000000000) : IntKind.i64.wrap n = n := by
  rw [IntKind.wrap_i64]
  omega

theorem bounded_any (n m : Int) (w : World) : Calls Tryz.prog 23 #[.int .i64 n, .int .i64 m] w (Tell0 w (.bool (bnd n m))) := by
  by_cases h : 0 ≤ n
  · have t1 : decide (0 ≤ n) = true := by simp [h]
    have e : bnd n m = decide (n ≤ m) := by unfold bnd; simp [h]
    rw [e]
    obtain ⟨r, hr⟩ : ∃ r, decide (n ≤ m) = r := ⟨_, rfl⟩
    rw [hr]
    go_enter Tryz.func23, Tryz.ntmps23
    go_wp2
    go_ret
    exact ⟨rfl, rfl⟩
  · have t1 : decide (0 ≤ n) = false := by simp [h]
    have e : bnd n m = false := by unfold bnd; simp [h]
    rw [e]
    go_enter Tryz.func23, Tryz.ntmps23
    go_wp2
    go_ret
    exact ⟨rfl, rfl⟩

theorem szO_le (M : Nat) : ∀ l : List Ot, (∀ x ∈ l, x.d.length ≤ M) → szO l ≤ l.length * (4 + M)
  | [], _ => by simp [szO]
  | x :: r, h => by
    have ih := szO_le M r fun y hy => h y (by simp [hy])
    have hx := h x (by simp)
    have e : szO (x :: r) = 4 + x.d.length + szO r := by simp [szO]
    rw [e, List.length_cons, Nat.add_mul]
    omega
theorem szO_app (a b : List Ot) : szO (a ++ b) = szO a + szO b := by simp [szO]

set_option maxHeartbeats 4000000 in
theorem checkE_any {w : World} {hi : Nat} {u : Value} {e : Ed} (h : Eg w hi u e) (h1 : hi ≤ w.heap.size) (hl : e.o.length ≤ 900000) (hd : ∀ x ∈ e.o, x.d.length ≤ 1000000) :
    Calls Tryz.prog 8 #[u] w (Tells w (.int .i64 (chkE e))) := by
  obtain ⟨o, rfl, hs⟩ := h
  obtain ⟨es, ex, ev, eb, l⟩ := e
  obtain ⟨r, hr⟩ : ∃ r, chkE ⟨es, ex, ev, eb, l⟩ = r := ⟨_, rfl⟩
  rw [hr]
  unfold chkE at hr
  simp only at hs hr hl hd ⊢
  have H0 := Lib.hid (fun wx => bounded_any es 65535 wx)
  have H1 := Lib.hid (fun wx => bounded_any ex 127 wx)
  have H2 := Lib.hid (fun wx => bounded_any ev 255 wx)
  obtain ⟨b0, hb0⟩ : ∃ b, bnd es 65535 = b := ⟨_, rfl⟩
  obtain ⟨b1, hb1⟩ : ∃ b, bnd ex 127 = b := ⟨_, rfl⟩
  obtain ⟨b2, hb2⟩ : ∃ b, bnd ev 255 = b := ⟨_, rfl⟩
  rw [hb0] at H0 hr
  rw [hb1] at H1 hr
  rw [hb2] at H2 hr
  have HN := Lib.hid (Lst.len hs)
  have HD := Lib.hid hd
  have HL := Lib.hid hl
  obtain ⟨a, c, rfl⟩ := Lst.shape hs
  have hbl : Below w.heap.size w (w.alloc (.cells #[.int .i64 es, .int .i64 ex, .int .i64 ev, .bool eb, .slice a l.length c] 28)) := (Below.refl _ _).alloc (Nat.le_refl _) _
  have hx := cel_new w (.int .i64 es) (.int .i64 ex) (.int .i64 ev) (.bool eb) (.slice a l.length c) 28
  have HS := Lib.hid (show SO w hi _ l from hs)
  have HB := Lib.hid hbl
  obtain ⟨N, hN⟩ : ∃ N, w.heap.size = N := ⟨_, rfl⟩
  obtain ⟨W, hW⟩ : ∃ W, w.alloc (.cells #[.int .i64 es, .int .i64 ex, .int .i64 ev, .bool eb, .slice a l.length c] 28) = W := ⟨_, rfl⟩
  rw [hW] at HB hx
  rw [hN] at hx HB
  have HSW := Lib.hid (show N + 1 ≤ W.heap.size by rw [← hW, World.size_alloc, hN]; exact Nat.le_refl _)
  have HHI := Lib.hid (show hi ≤ N by omega)
  obtain ⟨c0, c1, c2, c3, c4⟩ := hx.five
  clear hs hbl hx hb0 hb1 hb2 h1 hl hd
  by_cases hall : b0 = true ∧ b1 = true ∧ b2 = true
  · obtain ⟨rfl, rfl, rfl⟩ := hall
    simp only [true_and] at hr
    have HR := Lib.hid hr
    clear hr
    go_enter Tryz.func8, Tryz.ntmps8
    go_wp2_with fail
    refine (H0.out _).mono ?_; rintro e w2 ⟨rfl, rfl⟩
    go_wp2_with fail
    refine (H1.out _).mono ?_; rintro e w2 ⟨rfl, rfl⟩
    go_wp2_with fail
    refine (H2.out _).mono ?_; rintro e w2 ⟨rfl, rfl⟩
    go_wp2_with fail
    clear c0 c1 c2 c3 c4
    go_loopg [3, 25] l.length (fun g v3 v25 wr => ∃ k : Nat, k + g = l.length ∧ v25 = .int .i64 k ∧ v3 = .int .i64 (szO (l.take k)) ∧ Hid ((l.take k).all (fun x => bnd x.c 65535) = true) ∧ Hid (Below N w wr) ∧ N + 1 ≤ wr.heap.size)
    case atStart => exact ⟨0, by omega, rfl, rfl, by simp [Hid], by first | exact HB | (rw [hW]; exact HB), by first | exact HSW.out | (rw [hW]; exact HSW.out)⟩
    case round =>
      clear hW
      obtain ⟨k, hk, rfl, rfl, HA, HBR, hsz⟩ := hrel
      have hlen := HN.out
      by_cases hlt : k < l.length
      · obtain ⟨b, off, c2', he, hb, hc⟩ := HS.out.at_ k hlt
        injection he with he hn3 hc3
        clear hn3 hc3
        subst he
        obtain ⟨p0, p1⟩ := hc.keep fun o => HBR.out.cell (p := ⟨b, o, none⟩) (Nat.lt_of_lt_of_le hb HHI.out)
        have HTK := Lib.hid (show l.take (k + 1) = l.take k ++ [l[k]] by rw [List.take_add_one, List.getElem?_eq_getElem hlt]; rfl)
        have HM := Lib.hid (List.getElem_mem hlt)
        have HDX := Lib.hid (HD.out l[k] (List.getElem_mem hlt))
        obtain ⟨x, hx⟩ : ∃ x, l[k] = x := ⟨_, rfl⟩
        rw [hx] at p0 p1 HTK HM HDX
        have HC := Lib.hid (fun wx => bounded_any x.c 65535 wx)
        obtain ⟨bb, hbb⟩ : ∃ b, bnd x.c 65535 = b := ⟨_, rfl⟩
        rw [hbb] at HC
        have HBB := Lib.hid hbb
        have hs1 := szO_le 1000000 (l.take k) (fun y hy => HD.out y (List.mem_of_mem_take hy))
        have hs2 : (l.take k).length = k := by rw [List.length_take]; omega
        have hs4 : szO (l.take (k + 1)) = szO (l.take k) + (4 + x.d.length) := by rw [HTK.out, szO_app]; simp [szO]
        obtain ⟨s, hsk⟩ : ∃ s, szO (l.take k) = s := ⟨_, rfl⟩
        rw [hs2, hsk] at hs1
        rw [hsk] at hs4 ⊢
        have HS4 := Lib.hid hs4
        have hd9 : x.d.length ≤ 1000000 := HDX.out
        have hl9 := HL.out
        have hw1 : IntKind.i64.wrap ((4 : Int) + x.d.length) = (4 : Int) + x.d.length := wr64 _ (by omega) (by omega)
        have hw2 : IntKind.i64.wrap ((s : Int) + ((4 : Int) + x.d.length)) = (s : Int) + ((4 : Int) + x.d.length) := wr64 _ (by omega) (by omega)
        have hds : (bs x.d).size = x.d.length := bs_size x.d
        have HB2 := Lib.hid (HBR.out.alloc (by omega) (.cells #[.int .i64 x.c, .string (bs x.d)] 58) : Below N w _)
        have HSZ := Lib.hid (show N + 1 ≤ (wr.alloc (.cells #[.int .i64 x.c, .string (bs x.d)] 58)).heap.size by simp; omega)
        clear hc hx hb hbb hs1 hs2 hs4 hsk hsz HBR
        cases bb with
        | false =>
          have HE := Lib.hid (show r = 5 by
            rw [← HR.out, if_neg]
            intro h
            have := List.all_eq_true.mp h x HM.out
            rw [HBB.out] at this
            cases this)
          clear HA
          go_wp2_with fail
          refine (HC.out _).mono ?_; rintro e w2 ⟨rfl, rfl⟩
          go_wp2_with fail
          go_ret
          exact ⟨by rw [HE.out]; rfl, by first | exact HB2.out | (rw [hN]; exact HB2.out)⟩
        | true =>
          have HA2 := Lib.hid (show (l.take (k + 1)).all (fun x => bnd x.c 65535) = true by rw [HTK.out, List.all_append, HA.out]; simp [HBB.out])
          clear HA
          go_wp2_with fail
          refine (HC.out _).mono ?_; rintro e w2 ⟨rfl, rfl⟩
          go_wp2_with fail
          go_roundg (l.length - (k + 1))
          case measure => omega
          case rel => exact ⟨k + 1, by omega, by go_num, by rw [HS4.out]; go_num, HA2, HB2, HSZ.out⟩
      · have t1 : ¬ ((k : Int) < l.length) := by omega
        have hkl : l.take k = l := List.take_of_length_le (by omega)
        rw [hkl] at HA ⊢
        obtain ⟨s, hsk⟩ : ∃ s, szO l = s := ⟨_, rfl⟩
        have hr2 := HR.out
        rw [if_pos HA.out, hsk] at hr2
        rw [hsk]
        clear hkl HA hsk
        by_cases hbig : 65535 < s
        · rw [if_pos hbig] at hr2
          subst hr2
          have t2 : decide ((65535 : Int) < s) = true := by simp; omega
          go_wp2_with fail
          go_ret
          exact ⟨rfl, by first | exact HBR.out | (rw [hN]; exact HBR.out)⟩
        · rw [if_neg hbig] at hr2
          subst hr2
          have t2 : decide ((65535 : Int) < s) = false := by simp; omega
          go_wp2_with fail
          go_ret
          exact ⟨rfl, by first | exact HBR.out | (rw [hN]; exact HBR.out)⟩
  · have HE : r = 5 := by rw [← hr, if_neg (fun h => hall ⟨h.1, h.2.1, h.2.2.1⟩)]
    subst HE
    have HBO := HB
    clear hr HN HD HL HS HHI
    cases b0 with
    | false =>
      go_enter Tryz.func8, Tryz.ntmps8
      go_wp2_with fail
      refine (H0.out _).mono ?_; rintro e w2 ⟨rfl, rfl⟩
      go_wp2_with fail
      go_ret
      exact ⟨rfl, by first | exact HBO.out | (rw [hN]; exact HBO.out)⟩
    | true =>
      cases b1 with
      | false =>
        go_enter Tryz.func8, Tryz.ntmps8
        go_wp2_with fail
        refine (H0.out _).mono ?_; rintro e w2 ⟨rfl, rfl⟩
        go_wp2_with fail
        refine (H1.out _).mono ?_; rintro e w2 ⟨rfl, rfl⟩
        go_wp2_with fail
        go_ret
        exact ⟨rfl, by first | exact HBO.out | (rw [hN]; exact HBO.out)⟩
      | true =>
        cases b2 with
        | true => exact absurd ⟨rfl, rfl, rfl⟩ hall
        | false =>
          go_enter Tryz.func8, Tryz.ntmps8
          go_wp2_with fail
          refine (H0.out _).mono ?_; rintro e w2 ⟨rfl, rfl⟩
          go_wp2_with fail
          refine (H1.out _).mono ?_; rintro e w2 ⟨rfl, rfl⟩
          go_wp2_with fail
          refine (H2.out _).mono ?_; rintro e w2 ⟨rfl, rfl⟩
          go_wp2_with fail
          go_ret
          exact ⟨rfl, by first | exact HBO.out | (rw [hN]; exact HBO.out)⟩
end Go.Proofs.YtpdaekgldgoalaaGreat
