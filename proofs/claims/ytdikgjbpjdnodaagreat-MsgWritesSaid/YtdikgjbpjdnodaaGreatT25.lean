/-
  The message that bytes are: Read.
-/
import Derived.Test.YtdikgjbpjdnodaaGreatT24
namespace Go.Proofs.YtdikgjbpjdnodaaGreat
open Go.RowKit Go.Shelf
set_option linter.unusedVariables false
set_option linter.unusedSimpArgs false
set_option maxRecDepth 100000

/-- What Read tells. -/
def RMPost (w : World) (R : RM) (x : Ending) (w' : World) : Prop :=
  match R with
  | .ok m => ∃ v, x = .returned (.tuple #[v, .agg #[.int .i64 0, .int .i64 0]]) ∧ Mg w' w'.heap.size v m ∧ Below w.heap.size w w'
  | .bad e a => x = .returned (.tuple #[zeroM, .agg #[.int .i64 e, .int .i64 a]]) ∧ Below w.heap.size w w'

theorem m_readQ (M : Nat) (w : World) : (method 313 94 (.agg #[.pointer (some ⟨M, 2, none⟩)]) "ostiary/msg.read").run Tryz.prog w = .ok (93, .agg #[.pointer (some ⟨M, 2, none⟩)]) w := by kernel_rfl
theorem m_readR (M o : Nat) (w : World) : (method 313 97 (.agg #[.pointer (some ⟨M, o, none⟩)]) "ostiary/msg.read").run Tryz.prog w = .ok (126, .agg #[.pointer (some ⟨M, o, none⟩)]) w := by kernel_rfl

/-- A fault: what is left. -/
theorem rd_leave_bad {w X : World} {M : Nat} {tmps : Array Value} {F A : Int} {a b c d e f : Value} (hM : w.heap.size = M) (hF : F ≠ 0) (q2 : Cel X M [a, b, c, d, e, f]) (q3 : Cel X (M + 1) [.int .i64 F, .int .i64 A]) (hb : Below M w X)
    (t2 : tmps.getD 2 undef = .pointer (some ⟨M, 0, none⟩)) (t3 : tmps.getD 3 undef = .pointer (some ⟨M + 1, 0, none⟩)) :
    Leaves Tryz.prog Tryz.f30 tmps (RMPost w (.bad F A)) [{ target := .fn (.func 52) #[.pointer (some ⟨M + 1, 0, none⟩), .pointer (some ⟨M, 0, none⟩)], args := #[] }] .returning X := by
  refine leaves_cons (f := 52) (args := #[.pointer (some ⟨M + 1, 0, none⟩), .pointer (some ⟨M, 0, none⟩)]) (by simp) (by simp [go_sem]) ?_
  refine (rend_bad (M + 1) M F a b c d e f hF X (q3.c 0 (by simp)) q2).mono ?_
  rintro e0 u' w9 ⟨rfl, rfl, z, ha⟩
  obtain ⟨m0, m1, m2, m3, m4, m5⟩ := z.six
  have q4 := q3.aside (by simp) ha (by omega)
  have k0 := q4.c 0 (by simp)
  have k1 := q4.c 1 (by simp)
  simp only [List.getElem_cons_zero, List.getElem_cons_succ] at k0 k1
  simp [Leaves, settle, results, Tryz.results30, go_sem, -Array.getD_eq_getD_getElem?, t2, t3, m0, m1, m2, m3, m4, m5, k0, k1]
  refine ⟨rfl, ?_⟩
  rw [hM]
  exact below_aside hb ha fun k hk => ⟨Nat.lt_of_lt_of_le hk (by have := hb.size; omega), by omega⟩
/-- No fault: what is left. -/
theorem rd_leave_ok {w X : World} {M : Nat} {tmps : Array Value} {m : Ms} {a b c d e f : Value} (hM : w.heap.size = M) (q2 : Cel X M [a, b, c, d, e, f]) (q3 : Cel X (M + 1) [.int .i64 0, .int .i64 0]) (hb : Below M w X) (hm : Mg X X.heap.size (.agg #[a, b, c, d, e, f]) m)
    (t2 : tmps.getD 2 undef = .pointer (some ⟨M, 0, none⟩)) (t3 : tmps.getD 3 undef = .pointer (some ⟨M + 1, 0, none⟩)) :
    Leaves Tryz.prog Tryz.f30 tmps (RMPost w (.ok m)) [{ target := .fn (.func 52) #[.pointer (some ⟨M + 1, 0, none⟩), .pointer (some ⟨M, 0, none⟩)], args := #[] }] .returning X := by
  refine leaves_cons (f := 52) (args := #[.pointer (some ⟨M + 1, 0, none⟩), .pointer (some ⟨M, 0, none⟩)]) (by simp) (by simp [go_sem]) ?_
  refine (rend_ok (M + 1) M X (q3.c 0 (by simp))).mono ?_
  rintro e0 u' w9 ⟨rfl, rfl, rfl⟩
  obtain ⟨m0, m1, m2, m3, m4, m5⟩ := q2.six
  have k0 := q3.c 0 (by simp)
  have k1 := q3.c 1 (by simp)
  simp only [List.getElem_cons_zero, List.getElem_cons_succ] at k0 k1
  simp [Leaves, settle, results, Tryz.results30, go_sem, -Array.getD_eq_getD_getElem?, t2, t3, m0, m1, m2, m3, m4, m5, k0, k1]
  exact ⟨_, rfl, hm, by rw [hM]; exact hb⟩

theorem rd_put {w X : World} {M : Nat} {a b c d e f : Value} {F A F0 A0 : Int} (q2 : Cel X M [a, b, c, d, e, f]) (q3 : Cel X (M + 1) [.int .i64 F0, .int .i64 A0]) (hb : Below M w X) :
    Cel ((((((((X.setCell ⟨M, 0, none⟩ a).setCell ⟨M, 1, none⟩ b).setCell ⟨M, 2, none⟩ c).setCell ⟨M, 3, none⟩ d).setCell ⟨M, 4, none⟩ e).setCell ⟨M, 5, none⟩ f).setCell ⟨M + 1, 0, none⟩ (.int .i64 F)).setCell ⟨M + 1, 1, none⟩ (.int .i64 A)) M [a, b, c, d, e, f] ∧ Cel ((((((((X.setCell ⟨M, 0, none⟩ a).setCell ⟨M, 1, none⟩ b).setCell ⟨M, 2, none⟩ c).setCell ⟨M, 3, none⟩ d).setCell ⟨M, 4, none⟩ e).setCell ⟨M, 5, none⟩ f).setCell ⟨M + 1, 0, none⟩ (.int .i64 F)).setCell ⟨M + 1, 1, none⟩ (.int .i64 A)) (M + 1) [.int .i64 F, .int .i64 A] ∧ Below M w ((((((((X.setCell ⟨M, 0, none⟩ a).setCell ⟨M, 1, none⟩ b).setCell ⟨M, 2, none⟩ c).setCell ⟨M, 3, none⟩ d).setCell ⟨M, 4, none⟩ e).setCell ⟨M, 5, none⟩ f).setCell ⟨M + 1, 0, none⟩ (.int .i64 F)).setCell ⟨M + 1, 1, none⟩ (.int .i64 A)) := by
  refine ⟨?_, ?_, ?_⟩
  · have := (((((((q2.set (o := 0) (by simp) a).set (o := 1) (by simp) b).set (o := 2) (by simp) c).set (o := 3) (by simp) d).set (o := 4) (by simp) e).set (o := 5) (by simp) f).other (a := ⟨M + 1, 0, none⟩) (by simp) (.int .i64 F)).other (a := ⟨M + 1, 1, none⟩) (by simp) (.int .i64 A)
    simpa using this
  · have := (((((((q3.other (a := ⟨M, 0, none⟩) (by simp) a).other (a := ⟨M, 1, none⟩) (by simp) b).other (a := ⟨M, 2, none⟩) (by simp) c).other (a := ⟨M, 3, none⟩) (by simp) d).other (a := ⟨M, 4, none⟩) (by simp) e).other (a := ⟨M, 5, none⟩) (by simp) f).set (o := 0) (by simp) (.int .i64 F)).set (o := 1) (by simp) (.int .i64 A)
    simpa using this
  · exact (((((((hb.setCell (by show M ≤ M; omega) _).setCell (by show M ≤ M; omega) _).setCell (by show M ≤ M; omega) _).setCell (by show M ≤ M; omega) _).setCell (by show M ≤ M; omega) _).setCell (by show M ≤ M; omega) _).setCell (by show M ≤ M + 1; omega) _).setCell (by show M ≤ M + 1; omega) _
theorem cel_drew {w : World} {q : Nat} {l : List Value} (h : Cel w q l) : Cel w.drew q l := ⟨h.c, h.fz⟩

/-- How Read begins. -/
theorem rd_start {w : World} {M : Nat} (hM : w.heap.size = M) : ∃ W1 W2, w.alloc (.cells #[.int .i64 0, .int .i64 0, .slice none 0 0, .slice none 0 0, .slice none 0 0, .slice none 0 0] 25) = W1 ∧ W1.alloc (.cells #[.int .i64 0, .int .i64 0] 43) = W2 ∧
    W1.heap.size = M + 1 ∧ W2.heap.size = M + 2 ∧ Below M w W2 ∧ Cel W2 M [.int .i64 0, .int .i64 0, .slice none 0 0, .slice none 0 0, .slice none 0 0, .slice none 0 0] ∧ Cel W2 (M + 1) [.int .i64 0, .int .i64 0] := by
  refine ⟨_, _, rfl, rfl, by simp [hM], by simp [hM], ?_, ?_, ?_⟩
  · rw [← hM]; exact ((Below.refl _ _).alloc (Nat.le_refl _) _).alloc (by simp) _
  · have hx := cel_new6 w (.int .i64 0) (.int .i64 0) (.slice none 0 0) (.slice none 0 0) (.slice none 0 0) (.slice none 0 0) 25
    rw [hM] at hx
    exact hx.below (by simp) ((Below.refl _ _).alloc (Nat.le_refl _) _)
  · have hy := cel_new2 (w.alloc (.cells #[.int .i64 0, .int .i64 0, .slice none 0 0, .slice none 0 0, .slice none 0 0, .slice none 0 0] 25)) (.int .i64 0) (.int .i64 0) 43
    simp only [World.size_alloc, hM] at hy
    exact hy

set_option maxHeartbeats 8000000 in
/-- More bytes than a message has. -/
theorem readM_long {w : World} {av : Option Addr} {n cv : Nat} (hn : 65535 < n) (hn2 : n ≤ 140737488351232) : Calls Tryz.prog 30 #[.slice av n cv] w (RMPost w (.bad 3 0)) := by
  obtain ⟨M, hM⟩ : ∃ M, w.heap.size = M := ⟨_, rfl⟩
  obtain ⟨W1, W2, hW1, hW2, s1, s2, hb, hx, hy⟩ := rd_start hM
  have hmf : ∀ (fn : Fn) (first cap : Array Value) (w : World), (Instr.makeFunc fn first cap).run Tryz.prog w = .ok (.func fn first cap) w := fun _ _ _ _ => rfl
  have tL : decide ((65535 : Int) < n) = true := by simp; omega
  obtain ⟨c0, c1, c2, c3, c4, c5⟩ := hx.six
  have fx := hx.fz
  have y0 := hy.c 0 (by simp)
  have y1 := hy.c 1 (by simp)
  simp only [List.getElem_cons_zero, List.getElem_cons_succ] at y0 y1
  have fy := hy.fz
  have HX := Lib.hid hx
  have HY := Lib.hid hy
  have HB := Lib.hid hb
  have HM := Lib.hid hM
  clear hx hy hb hn
  go_enter_defers Tryz.func30, Tryz.ntmps30
  go_wp2_with fail
  obtain ⟨z2, z3, zb⟩ := rd_put (F := 3) (A := 0) HX.out HY.out HB.out
  exact rd_leave_bad HM.out (by decide) z2 z3 zb rfl rfl

set_option maxHeartbeats 8000000 in
/-- Fewer bytes than a head has. -/
theorem readM_short {w : World} {lo hi cv : Nat} {av : Option Addr} {b : List UInt8} (hS : Sl w lo hi (.slice av b.length cv) (iz b)) (hhi : hi ≤ w.heap.size) (hn : b.length < 12) : Calls Tryz.prog 30 #[.slice av b.length cv] w (RMPost w (.bad 4 b.length)) := by
  obtain ⟨M, hM⟩ : ∃ M, w.heap.size = M := ⟨_, rfl⟩
  obtain ⟨W1, W2, hW1, hW2, s1, s2, hb, hx, hy⟩ := rd_start hM
  have hmf : ∀ (fn : Fn) (first cap : Array Value) (w : World), (Instr.makeFunc fn first cap).run Tryz.prog w = .ok (.func fn first cap) w := fun _ _ _ _ => rfl
  have hc := nums_any (hS.below (hM ▸ hb) (by omega)) (show hi ≤ W2.heap.size by omega) (by omega)
  unfold numsV at hc
  rw [if_neg (by omega)] at hc
  obtain ⟨n, hnn⟩ : ∃ n, b.length = n := ⟨_, rfl⟩
  rw [hnn] at hc hn ⊢
  have tL : decide ((65535 : Int) < n) = false := by simp; omega
  have HX := Lib.hid hx
  have HY := Lib.hid hy
  have HB := Lib.hid hb
  have HM := Lib.hid hM
  have HC := Lib.hid hc
  clear hx hy hb hn hc hS hnn
  go_enter_defers Tryz.func30, Tryz.ntmps30
  go_wp2_with fail
  refine HC.out.mono ?_; rintro e w1 ⟨rfl, hb⟩
  have hb2 := bel_alloc hb (.cells #[.int .i64 0, .int .i64 0, .int .i64 0, .int .i64 0, .int .i64 0, .int .i64 0] 87)
  replace HX := Lib.hid (HX.out.below (by simp) hb2)
  replace HY := Lib.hid (HY.out.below (by simp) hb2)
  replace HB := Lib.hid (below_aside HB.out (Aside.of_all hb2 : Aside (fun _ => False) W2 (w1.alloc (.cells #[.int .i64 0, .int .i64 0, .int .i64 0, .int .i64 0, .int .i64 0, .int .i64 0] 87))) (fun k hk => ⟨by omega, id⟩))
  have y0 := HY.out.c 0 (by simp)
  have y1 := HY.out.c 1 (by simp)
  simp only [List.getElem_cons_zero, List.getElem_cons_succ] at y0 y1
  have fy := HY.out.fz
  obtain ⟨c0, c1, c2, c3, c4, c5⟩ := HX.out.six
  have fx := HX.out.fz
  clear hb hb2
  go_wp2_with fail
  have p2 := (HX.out.other (a := ⟨M + 1, 0, none⟩) (by simp) (.int .i64 4)).other (a := ⟨M + 1, 1, none⟩) (by simp) (.int .i64 n)
  have p3 := (HY.out.set (o := 0) (by simp) (.int .i64 4)).set (o := 1) (by simp) (.int .i64 n)
  have pb := (HB.out.setCell (p := ⟨M + 1, 0, none⟩) (by show M ≤ M + 1; omega) (.int .i64 4)).setCell (p := ⟨M + 1, 1, none⟩) (by show M ≤ M + 1; omega) (.int .i64 n)
  simp only [List.set_cons_zero, List.set_cons_succ] at p3
  obtain ⟨Y, hY⟩ : ∃ Y, ((w1.alloc (.cells #[.int .i64 0, .int .i64 0, .int .i64 0, .int .i64 0, .int .i64 0, .int .i64 0] 87)).setCell ⟨M + 1, 0, none⟩ (.int .i64 4)).setCell ⟨M + 1, 1, none⟩ (.int .i64 n) = Y := ⟨_, rfl⟩
  rw [hY] at p2 p3 pb ⊢
  clear c0 c1 c2 c3 c4 c5 fx y0 y1 fy hY
  obtain ⟨c0, c1, c2, c3, c4, c5⟩ := p2.six
  have fx := p2.fz
  have y0 := p3.c 0 (by simp)
  have y1 := p3.c 1 (by simp)
  simp only [List.getElem_cons_zero, List.getElem_cons_succ] at y0 y1
  have fy := p3.fz
  have P2 := Lib.hid p2
  have P3 := Lib.hid p3
  have PB := Lib.hid pb
  clear p2 p3 pb
  go_region
  go_wp2_with fail
  obtain ⟨z2, z3, zb⟩ := rd_put (F := 4) (A := n) P2.out P3.out PB.out
  exact rd_leave_bad HM.out (by decide) (cel_drew z2) (cel_drew z3) zb.drew rfl rfl

theorem R0.start {w W : World} {M H : Nat} {hs : List Value} (hx : Cel W M [.int .i64 0, .int .i64 0, .slice none 0 0, .slice none 0 0, .slice none 0 0, .slice none 0 0]) (hf : Cel W (M + 1) [.int .i64 0, .int .i64 0]) (hh : Cel W H hs) (hl : 0 < hs.length) (hb : Below M w W) (hs2 : H + 1 ≤ W.heap.size) (hH : M + 2 ≤ H) :
    R0 w W M H (H + 1) 0 0 hs (.slice none 0 0) (.slice none 0 0) (.slice none 0 0) (.slice none 0 0) [] [] [] [] :=
  ⟨hx, hf, hh, hl, World.ownsRow_nil _ _ _ _, World.ownsRow_nil _ _ _ _, World.ownsRow_nil _ _ _ _, World.ownsRow_nil _ _ _ _, fun k h => by simp [Value.ownBlock] at h, fun k h => by simp [Value.ownBlock] at h, fun k h => by simp [Value.ownBlock] at h, hb, hs2, hH, by omega⟩

section
variable {w wr w' : World} {M H B0 : Nat} {i0 i1 : Int} {hs : List Value} {v2 v3 v4 v5 : Value} {lq : List Qn} {la ln lr : List Rc}
/-- The message's and the fault's cells alone have turned. -/
theorem R0.turn {j0 j1 F A : Int} (h : R0 w wr M H B0 i0 i1 hs v2 v3 v4 v5 lq la ln lr) (ha : Aside (fun k => k = M ∨ k = M + 1) wr w') (hx : Cel w' M [.int .i64 j0, .int .i64 j1, v2, v3, v4, v5]) (hf : Cel w' (M + 1) [.int .i64 0, .int .i64 0]) : R0 w w' M H B0 j0 j1 hs v2 v3 v4 v5 lq la ln lr := by
  have hH := h.hH
  have hB := h.hB
  have ho : ∀ {v : Value} {k e : Nat} {xs : List Value} {n : Nat}, wr.ownsRow B0 e k v n xs → ∀ j, v.ownBlock = some j → ¬ (j = M ∨ j = M + 1) := fun hr j hj hg => by have := (World.ownsRow.lt hr j hj).1; omega
  exact ⟨hx, hf, h.h.aside h.hl ha (by omega), h.hl, row_aside h.q ha (ho h.q), row_aside h.a ha (ho h.a), row_aside h.n ha (ho h.n), row_aside h.r ha (ho h.r), h.n34, h.n35, h.n45, below_aside h.bel ha (fun k hk => ⟨by have := h.size; omega, by omega⟩), Nat.le_trans h.size ha.size, hH, hB⟩
theorem R0.ids (h : R0 w wr M H B0 i0 i1 hs v2 v3 v4 v5 lq la ln lr) (j0 j1 : Int) : R0 w ((wr.setCell ⟨M, 0, none⟩ (.int .i64 j0)).setCell ⟨M, 1, none⟩ (.int .i64 j1)) M H B0 j0 j1 hs v2 v3 v4 v5 lq la ln lr := by
  have st : ∀ (X : World) (o : Nat) (v : Value), Aside (fun k => k = M ∨ k = M + 1) X (X.setCell ⟨M, o, none⟩ v) := fun X o v => Aside.setCell X (p := ⟨M, o, none⟩) v (.inl rfl)
  refine h.turn (F := 0) (A := 0) ((st _ _ _).trans (st _ _ _)) ?_ ((h.f.other (by simp) _).other (by simp) _)
  have := (h.x.set (o := 0) (by simp) (.int .i64 j0)).set (o := 1) (by simp) (.int .i64 j1)
  simpa using this
theorem R0.drew (h : R0 w wr M H B0 i0 i1 hs v2 v3 v4 v5 lq la ln lr) : R0 w wr.drew M H B0 i0 i1 hs v2 v3 v4 v5 lq la ln lr := h.later (Below.refl _ _).drew
theorem R0.undrew (h : R0 w wr M H B0 i0 i1 hs v2 v3 v4 v5 lq la ln lr) {F A : Int} : Cel ((wr.setCell ⟨M + 1, 0, none⟩ (.int .i64 F)).setCell ⟨M + 1, 1, none⟩ (.int .i64 A)) M [.int .i64 i0, .int .i64 i1, v2, v3, v4, v5] ∧ Cel ((wr.setCell ⟨M + 1, 0, none⟩ (.int .i64 F)).setCell ⟨M + 1, 1, none⟩ (.int .i64 A)) (M + 1) [.int .i64 F, .int .i64 A] ∧ Below M w ((wr.setCell ⟨M + 1, 0, none⟩ (.int .i64 F)).setCell ⟨M + 1, 1, none⟩ (.int .i64 A)) := by
  refine ⟨(h.x.other (by simp) _).other (by simp) _, ?_, (h.bel.setCell (by show M ≤ M + 1; omega) _).setCell (by show M ≤ M + 1; omega) _⟩
  have := (h.f.set (o := 0) (by simp) (.int .i64 F)).set (o := 1) (by simp) (.int .i64 A)
  simpa using this
/-- What is read is the message. -/
theorem R0.mg (h : R0 w wr M H B0 i0 i1 hs v2 v3 v4 v5 lq la ln lr) (k0 : lq.length ≤ 65535) (k1 : la.length ≤ 65535) (k2 : ln.length ≤ 65535) (k3 : lr.length ≤ 65535) : Mg wr wr.heap.size (.agg #[.int .i64 i0, .int .i64 i1, v2, v3, v4, v5]) ⟨i0, i1, lq, la, ln, lr⟩ :=
  ⟨v2, v3, v4, v5, rfl, Lst.own h.q (by show lq.length ≤ 1000000; omega), Lst.own h.a (by show la.length ≤ 1000000; omega), Lst.own h.n (by show ln.length ≤ 1000000; omega), Lst.own h.r (by show lr.length ≤ 1000000; omega)⟩
theorem R0.same (h : R0 w wr M H B0 i0 i1 hs v2 v3 v4 v5 lq la ln lr) : R0 w ((((((((wr.setCell ⟨M, 0, none⟩ (.int .i64 i0)).setCell ⟨M, 1, none⟩ (.int .i64 i1)).setCell ⟨M, 2, none⟩ v2).setCell ⟨M, 3, none⟩ v3).setCell ⟨M, 4, none⟩ v4).setCell ⟨M, 5, none⟩ v5).setCell ⟨M + 1, 0, none⟩ (.int .i64 0)).setCell ⟨M + 1, 1, none⟩ (.int .i64 0)) M H B0 i0 i1 hs v2 v3 v4 v5 lq la ln lr := by
  obtain ⟨z2, z3, _⟩ := rd_put (F := 0) (A := 0) h.x h.f h.bel
  have st : ∀ (X : World) (o : Nat) (v : Value), Aside (fun k => k = M ∨ k = M + 1) X (X.setCell ⟨M, o, none⟩ v) := fun X o v => Aside.setCell X (p := ⟨M, o, none⟩) v (.inl rfl)
  have st1 : ∀ (X : World) (o : Nat) (v : Value), Aside (fun k => k = M ∨ k = M + 1) X (X.setCell ⟨M + 1, o, none⟩ v) := fun X o v => Aside.setCell X (p := ⟨M + 1, o, none⟩) v (.inr rfl)
  exact h.turn (F := 0) (A := 0) ((((((((st _ _ _).trans (st _ _ _)).trans (st _ _ _)).trans (st _ _ _)).trans (st _ _ _)).trans (st _ _ _)).trans (st1 _ _ _)).trans (st1 _ _ _)) z2 z3
end

theorem quesV_ok {b : List UInt8} {a : Int} (h : (s3 b a).e = 0) : quesV b a = .tuple #[.agg #[.string (bs (rN b a)), .int .i64 (rT b a), .int .i64 (rC b a)], .int .i64 (s3 b a).a, .agg #[.int .i64 0, .int .i64 0]] := by unfold quesV; rw [if_pos h]
theorem quesV_bad {b : List UInt8} {a : Int} (h : (s3 b a).e ≠ 0) : quesV b a = .tuple #[.agg #[.string (bs []), .int .i64 0, .int .i64 0], .int .i64 0, .agg #[.int .i64 (s3 b a).e, .int .i64 (s3 b a).p]] := by unfold quesV; rw [if_neg h]; rfl
theorem recV_ok {b : List UInt8} {a : Int} (h : (s6 b a).e = 0) : recV b a = .tuple #[.agg #[.string (bs (rN b a)), .int .i64 (rT b a), .int .i64 (rC b a), .int .i64 (ttlR (rL b a)), .string (bs (rD b a))], .int .i64 (s6 b a).a, .agg #[.int .i64 0, .int .i64 0]] := by unfold recV; rw [if_pos h]
theorem recV_bad {b : List UInt8} {a : Int} (h : (s6 b a).e ≠ 0) : recV b a = .tuple #[.agg #[.string (bs []), .int .i64 0, .int .i64 0, .int .i64 0, .string (bs [])], .int .i64 0, .agg #[.int .i64 (s6 b a).e, .int .i64 (s6 b a).p]] := by unfold recV; rw [if_neg h]; rfl

set_option maxHeartbeats 16000000 in
theorem readM_mid {w : World} {lo hi cv : Nat} {av : Option Addr} {b : List UInt8} (hS : Sl w lo hi (.slice av b.length cv) (iz b)) (hhi : hi ≤ w.heap.size) (h12 : 12 ≤ b.length) (h16 : b.length ≤ 65535) :
    Calls Tryz.prog 30 #[.slice av b.length cv] w (RMPost w (rdM1 b (rdQs b (hd b 2).toNat 12))) := by
  obtain ⟨M, hM⟩ : ∃ M, w.heap.size = M := ⟨_, rfl⟩
  obtain ⟨W1, W2, hW1, hW2, s1, s2, hb, hx, hy⟩ := rd_start hM
  have hmf : ∀ (fn : Fn) (first cap : Array Value) (w : World), (Instr.makeFunc fn first cap).run Tryz.prog w = .ok (.func fn first cap) w := fun _ _ _ _ => rfl
  have hc := nums_any (hS.below (hM ▸ hb) (by omega)) (show hi ≤ W2.heap.size by omega) (by omega)
  unfold numsV at hc
  rw [if_pos h12] at hc
  have HQA := Lib.hid (fun wx (hb : Below w.heap.size w wx) (a : Int) => question_any (hS.below hb hhi) (Nat.le_trans hhi hb.size) (by omega) a)
  have HRA := Lib.hid (fun wx (hb : Below w.heap.size w wx) (a : Int) => readC_any (hS.below hb hhi) (Nat.le_trans hhi hb.size) (by omega) a)
  have g2 := hd_lt b 2
  have g3 := hd_lt b 3
  have g4 := hd_lt b 4
  have g5 := hd_lt b 5
  obtain ⟨h0, e0⟩ : ∃ x, hd b 0 = x := ⟨_, rfl⟩
  obtain ⟨h1, e1⟩ : ∃ x, hd b 1 = x := ⟨_, rfl⟩
  obtain ⟨n2, e2⟩ : ∃ x : Nat, hd b 2 = x := ⟨(hd b 2).toNat, by omega⟩
  obtain ⟨n3, e3⟩ : ∃ x : Nat, hd b 3 = x := ⟨(hd b 3).toNat, by omega⟩
  obtain ⟨n4, e4⟩ : ∃ x : Nat, hd b 4 = x := ⟨(hd b 4).toNat, by omega⟩
  obtain ⟨n5, e5⟩ : ∃ x : Nat, hd b 5 = x := ⟨(hd b 5).toNat, by omega⟩
  rw [e2] at g2
  rw [e3] at g3
  rw [e4] at g4
  rw [e5] at g5
  rw [e0, e1, e2, e3, e4, e5] at hc
  obtain ⟨R, hR⟩ : ∃ R, rdM1 b (rdQs b (hd b 2).toNat 12) = R := ⟨_, rfl⟩
  rw [hR]
  rw [e2, Int.toNat_natCast, ← RD.app_nil (rdQs b n2 12)] at hR
  have HR := Lib.hid hR
  have HE := Lib.hid (show hd b 0 = h0 ∧ hd b 1 = h1 ∧ hd b 3 = n3 ∧ hd b 4 = n4 ∧ hd b 5 = n5 from ⟨e0, e1, e3, e4, e5⟩)
  obtain ⟨n, hnn⟩ : ∃ n, b.length = n := ⟨_, rfl⟩
  have HNN := Lib.hid hnn
  have HmQ := fun M w => m_readQ M w
  have HmR := fun M o w => m_readR M o w
  have Hx0 := fun M w => ix_l0 M w
  have Hx1 := fun M w => ix_l1 M w
  have Hx2 := fun M w => ix_l2 M w
  have Hx3 := fun M w => ix_l3 M w
  rw [hnn] at hc h12 h16 HQA HRA ⊢
  have tL : decide ((65535 : Int) < n) = false := by simp; omega
  have HX := Lib.hid hx
  have HY := Lib.hid hy
  have HB := Lib.hid hb
  have HM := Lib.hid hM
  have HC := Lib.hid hc
  clear hx hy hb hc hS hnn hR e0 e1 e2 e3 e4 e5
  go_enter_defers Tryz.func30, Tryz.ntmps30
  go_wp2_with fail
  refine HC.out.mono ?_; rintro e w1 ⟨rfl, hb⟩
  obtain ⟨H, hH⟩ : ∃ H, w1.heap.size = H := ⟨_, rfl⟩
  obtain ⟨W4, hW4⟩ : ∃ X, w1.alloc (.cells #[.int .i64 h0, .int .i64 h1, .int .i64 n2, .int .i64 n3, .int .i64 n4, .int .i64 n5] 87) = X := ⟨_, rfl⟩
  have hh4 := cel_new6 w1 (.int .i64 h0) (.int .i64 h1) (.int .i64 n2) (.int .i64 n3) (.int .i64 n4) (.int .i64 n5) 87
  rw [hW4, hH] at hh4
  have hb2 : Below W2.heap.size W2 W4 := by rw [← hW4]; exact bel_alloc hb _
  have hs4 : W4.heap.size = H + 1 := by rw [← hW4, World.size_alloc, hH]
  have hHM : M + 2 ≤ H := by have := hb.size; omega
  have HR0 := Lib.hid (R0.start (HX.out.below (by simp) hb2) (HY.out.below (by simp) hb2) hh4 (by simp) (below_aside HB.out (Aside.of_all hb2 : Aside (fun _ => False) W2 W4) (fun k hk => ⟨by omega, id⟩)) (by omega) hHM)
  have y0 := HR0.out.f.c 0 (by simp)
  have y1 := HR0.out.f.c 1 (by simp)
  simp only [List.getElem_cons_zero, List.getElem_cons_succ] at y0 y1
  have fy := HR0.out.f.fz
  obtain ⟨X1, hX1⟩ : ∃ X, (W4.setCell ⟨M + 1, 0, none⟩ (.int .i64 0)).setCell ⟨M + 1, 1, none⟩ (.int .i64 0) = X := ⟨_, rfl⟩
  replace HR0 := Lib.hid (hX1 ▸ HR0.out.fault)
  have x0 := HR0.out.f.c 0 (by simp)
  simp only [List.getElem_cons_zero] at x0
  obtain ⟨d0, d1, d2, d3, d4, d5⟩ := HR0.out.h.six
  obtain ⟨c0, c1, c2, c3, c4, c5⟩ := HR0.out.x.six
  have fx := HR0.out.x.fz
  clear hb hb2 hh4 HX HY HB
  go_wp2_with fail
  clear hX1 hW4
  go_region
  go_wp2_with fail
  obtain ⟨X2, hX2⟩ : ∃ X, (((X1.setCell ⟨M, 0, none⟩ (.int .i64 h0)).setCell ⟨M, 1, none⟩ (.int .i64 h1))).drew = X := ⟨_, rfl⟩
  replace HR0 := Lib.hid (hX2 ▸ (HR0.out.ids h0 h1).drew)
  rw [hX2]
  clear hX2 x0 y0 y1 fy d0 d1 d2 d3 d4 d5 c0 c1 c2 c3 c4 c5 fx
  refine (lists_any M X2 (HR0.out.x.lt (by simp))).mono ?_; rintro e w2 ⟨rfl, hb⟩
  replace HR0 := Lib.hid (HR0.out.later hb)
  clear hb
  unfold lall lq lr
  go_wp2_with fail
  refine wp_loop_rounds 5 ?_
  rw [rounds_succ]
  obtain ⟨d0, d1, d2, d3, d4, d5⟩ := HR0.out.h.six
  go_wp2_with fail
  clear d0 d1 d2 d3 d4 d5
  go_loopg [5, 40] n2 (fun g v5 v40 wr => ∃ j p : Nat, j + g = n2 ∧ v40 = .int .i64 j ∧ v5 = .int .i64 p ∧ p ≤ b.length ∧ ∃ (v : Value) (l : List Qn), l.length = j ∧ Hid (R0 w wr M H (H + 1) h0 h1 [.int .i64 h0, .int .i64 h1, .int .i64 n2, .int .i64 n3, .int .i64 n4, .int .i64 n5] v (.slice none 0 0) (.slice none 0 0) (.slice none 0 0) l [] [] []) ∧ Hid (rdM1 b (RD.app l (rdQs b (n2 - j) p)) = R))
  case atStart => exact ⟨0, 12, by omega, rfl, rfl, by rw [HNN.out]; omega, _, [], rfl, HR0, HR⟩
  case round =>
    clear HR0 HR 
    obtain ⟨j, p, hj, rfl, rfl, hpl, v, l, hlj, HR0, HR⟩ := hrel
    by_cases hlt : j < n2
    · have hst := HR.out
      rw [show n2 - j = (n2 - (j + 1)) + 1 by omega, rdQs_step] at hst
      by_cases hE : (s3 b p).e = 0
      · rw [if_neg (by simpa using hE)] at hst
        obtain ⟨q', e1, e2, e3, _⟩ := ques_fine hpl hE
        rw [e1, Int.toNat_natCast] at hst
        have HRD := Lib.hid (readQ_gen (o := 2) (v := v) (l := l) (B := H + 1) (p : Int) (quesR b p) (s3 b p).a 0 0 HR0.out.x (by simp) rfl HR0.out.q (by have := HR0.out.hH; omega) HR0.out.size (by omega) (fun wy hb => by
          have := HQA.out wy (bel_call (by rw [HM.out]; exact HR0.out.bel) hb) p
          rw [quesV_ok hE] at this
          exact this))
        rw [e1] at HRD
        have HR2 := Lib.hid hst
        clear hst HR e1 hE
        go_wp2_with fail
        refine HRD.out.mono ?_; rintro e w3 ⟨v', rfl, hx, ho, ha, hk⟩
        replace HR0 := Lib.hid (HR0.out.read0 hx ho ha hk)
        have y0 := HR0.out.f.c 0 (by simp)
        have y1 := HR0.out.f.c 1 (by simp)
        simp only [List.getElem_cons_zero, List.getElem_cons_succ] at y0 y1
        have fy := HR0.out.f.fz
        clear hx ho ha hk HRD
        obtain ⟨X, hX⟩ : ∃ X, (w3.setCell ⟨M + 1, 0, none⟩ (.int .i64 0)).setCell ⟨M + 1, 1, none⟩ (.int .i64 0) = X := ⟨_, rfl⟩
        replace HR0 := Lib.hid (hX ▸ HR0.out.fault)
        have x0 := HR0.out.f.c 0 (by simp)
        simp only [List.getElem_cons_zero] at x0
        go_wp2_with fail
        go_roundg (n2 - (j + 1))
        case measure => omega
        case rel => exact ⟨j + 1, q', by omega, by go_num, rfl, e3, v', l ++ [quesR b p], by simp [hlj], HR0, HR2⟩
      · rw [if_pos hE] at hst
        have HRD := Lib.hid (readQ_gen (o := 2) (v := v) (l := l) (B := H + 1) (p : Int) ⟨[], 0, 0⟩ 0 (s3 b p).e (s3 b p).p HR0.out.x (by simp) rfl HR0.out.q (by have := HR0.out.hH; omega) HR0.out.size (by omega) (fun wy hb => by
          have := HQA.out wy (bel_call (by rw [HM.out]; exact HR0.out.bel) hb) p
          rw [quesV_bad hE] at this
          exact this))
        obtain ⟨F, hF⟩ : ∃ F, (s3 b p).e = F := ⟨_, rfl⟩
        obtain ⟨A, hA⟩ : ∃ A, (s3 b p).p = A := ⟨_, rfl⟩
        rw [hF, hA] at HRD hst
        rw [hF] at hE
        have tF : (F != 0) = true := by simpa using hE
        have hst2 : RM.bad F A = R := hst
        rw [← hst2]
        clear hst HR hF hA hst2
        go_wp2_with fail
        refine HRD.out.mono ?_; rintro e w3 ⟨v', rfl, hx, ho, ha, hk⟩
        replace HR0 := Lib.hid (HR0.out.read0 hx ho ha hk)
        have y0 := HR0.out.f.c 0 (by simp)
        have y1 := HR0.out.f.c 1 (by simp)
        simp only [List.getElem_cons_zero, List.getElem_cons_succ] at y0 y1
        have fy := HR0.out.f.fz
        clear hx ho ha hk HRD
        obtain ⟨sa', sc', hv'⟩ := row_shape HR0.out.q
        obtain ⟨z', hz'⟩ : ∃ z, (l ++ [(⟨[], 0, 0⟩ : Qn)]).length = z := ⟨_, rfl⟩
        rw [hz'] at hv'
        clear hz'
        subst hv'
        obtain ⟨p2, p3, pb⟩ := HR0.out.undrew (F := F) (A := A)
        obtain ⟨Y, hY⟩ : ∃ Y, (w3.setCell ⟨M + 1, 0, none⟩ (.int .i64 F)).setCell ⟨M + 1, 1, none⟩ (.int .i64 A) = Y := ⟨_, rfl⟩
        rw [hY] at p2 p3 pb
        obtain ⟨c0, c1, c2, c3, c4, c5⟩ := p2.six
        have fx := p2.fz
        have z0 := p3.c 0 (by simp)
        have z1 := p3.c 1 (by simp)
        simp only [List.getElem_cons_zero, List.getElem_cons_succ] at z0 z1
        have fz := p3.fz
        have P2 := Lib.hid p2
        have P3 := Lib.hid p3
        have PB := Lib.hid pb
        clear p2 p3 pb HR0
        go_wp2_with fail
        clear y0 y1 fy hY
        go_region
        go_wp2_with fail
        obtain ⟨z2, z3, zb⟩ := rd_put (F := F) (A := A) P2.out P3.out PB.out
        exact rd_leave_bad HM.out hE (cel_drew z2) (cel_drew z3) zb.drew rfl rfl
    have hjn : j = n2 := by omega
    have t1 : ¬ ((j : Int) < n2) := by omega
    have hst := HR.out
    rw [show n2 - j = 0 by omega] at hst
    have hst : rdM2 b l (rdRs b (hd b 3).toNat p) = R := by rw [rdQs, RD.app, List.append_nil] at hst; exact hst
    rw [HE.out.2.2.1, Int.toNat_natCast, ← RD.app_nil (rdRs b n3 p)] at hst
    clear HR
    have HR := Lib.hid hst
    clear hst
    obtain ⟨lq, hlq⟩ : ∃ x, l = x := ⟨_, rfl⟩
    rw [hlq] at HR HR0 hlj
    obtain ⟨sa0, sc0, rfl⟩ := row_shape HR0.out.q
    have HL0 := Lib.hid (show lq.length = n2 by omega)
    clear hlq hlj hj hjn
    go_wp2_with fail
    rw [rounds_succ]
    obtain ⟨d0, d1, d2, d3, d4, d5⟩ := HR0.out.h.six
    go_wp2_with fail
    clear d0 d1 d2 d3 d4 d5
    go_loopg [5, 40] n3 (fun g v5 v40 wr => ∃ j p : Nat, j + g = n3 ∧ v40 = .int .i64 j ∧ v5 = .int .i64 p ∧ p ≤ b.length ∧ ∃ (v : Value) (l : List Rc), l.length = j ∧ Hid (R0 w wr M H (H + 1) h0 h1 [.int .i64 h0, .int .i64 h1, .int .i64 n2, .int .i64 n3, .int .i64 n4, .int .i64 n5] (.slice sa0 lq.length sc0) v (.slice none 0 0) (.slice none 0 0) lq l [] []) ∧ Hid (rdM2 b lq (RD.app l (rdRs b (n3 - j) p)) = R))
    case atStart => exact ⟨0, p, by omega, rfl, rfl, hpl, _, [], rfl, HR0, HR⟩
    case round =>
      clear HR0 HR hpl
      obtain ⟨j, p, hj, rfl, rfl, hpl, v, l, hlj, HR0, HR⟩ := hrel
      by_cases hlt : j < n3
      · have hst := HR.out
        rw [show n3 - j = (n3 - (j + 1)) + 1 by omega, rdRs_step] at hst
        by_cases hE : (s6 b p).e = 0
        · rw [if_neg (by simpa using hE)] at hst
          obtain ⟨q', e1, e2, e3⟩ := rec_end hpl (by rw [HNN.out]; omega) hE
          rw [e1, Int.toNat_natCast] at hst
          have HRD := Lib.hid (readR_gen (o := 3) (v := v) (l := l) (B := H + 1) (p : Int) (recR b p) (s6 b p).a 0 0 HR0.out.x (by simp) rfl HR0.out.a (by have := HR0.out.hH; omega) HR0.out.size (by omega) (fun wy hb => by
            have := HRA.out wy (bel_call (by rw [HM.out]; exact HR0.out.bel) hb) p
            rw [recV_ok hE] at this
            exact this))
          rw [e1] at HRD
          have HR2 := Lib.hid hst
          clear hst HR e1 hE
          go_wp2_with fail
          refine HRD.out.mono ?_; rintro e w3 ⟨v', rfl, hx, ho, ha, hk⟩
          replace HR0 := Lib.hid (HR0.out.read1 hx ho ha hk)
          have y0 := HR0.out.f.c 0 (by simp)
          have y1 := HR0.out.f.c 1 (by simp)
          simp only [List.getElem_cons_zero, List.getElem_cons_succ] at y0 y1
          have fy := HR0.out.f.fz
          clear hx ho ha hk HRD
          obtain ⟨X, hX⟩ : ∃ X, (w3.setCell ⟨M + 1, 0, none⟩ (.int .i64 0)).setCell ⟨M + 1, 1, none⟩ (.int .i64 0) = X := ⟨_, rfl⟩
          replace HR0 := Lib.hid (hX ▸ HR0.out.fault)
          have x0 := HR0.out.f.c 0 (by simp)
          simp only [List.getElem_cons_zero] at x0
          go_wp2_with fail
          go_roundg (n3 - (j + 1))
          case measure => omega
          case rel => exact ⟨j + 1, q', by omega, by go_num, rfl, e3, v', l ++ [recR b p], by simp [hlj], HR0, HR2⟩
        · rw [if_pos hE] at hst
          have HRD := Lib.hid (readR_gen (o := 3) (v := v) (l := l) (B := H + 1) (p : Int) ⟨[], 0, 0, 0, []⟩ 0 (s6 b p).e (s6 b p).p HR0.out.x (by simp) rfl HR0.out.a (by have := HR0.out.hH; omega) HR0.out.size (by omega) (fun wy hb => by
            have := HRA.out wy (bel_call (by rw [HM.out]; exact HR0.out.bel) hb) p
            rw [recV_bad hE] at this
            exact this))
          obtain ⟨F, hF⟩ : ∃ F, (s6 b p).e = F := ⟨_, rfl⟩
          obtain ⟨A, hA⟩ : ∃ A, (s6 b p).p = A := ⟨_, rfl⟩
          rw [hF, hA] at HRD hst
          rw [hF] at hE
          have tF : (F != 0) = true := by simpa using hE
          have hst2 : RM.bad F A = R := hst
          rw [← hst2]
          clear hst HR hF hA hst2
          go_wp2_with fail
          refine HRD.out.mono ?_; rintro e w3 ⟨v', rfl, hx, ho, ha, hk⟩
          replace HR0 := Lib.hid (HR0.out.read1 hx ho ha hk)
          have y0 := HR0.out.f.c 0 (by simp)
          have y1 := HR0.out.f.c 1 (by simp)
          simp only [List.getElem_cons_zero, List.getElem_cons_succ] at y0 y1
          have fy := HR0.out.f.fz
          clear hx ho ha hk HRD
          obtain ⟨sa', sc', hv'⟩ := row_shape HR0.out.a
          obtain ⟨z', hz'⟩ : ∃ z, (l ++ [(⟨[], 0, 0, 0, []⟩ : Rc)]).length = z := ⟨_, rfl⟩
          rw [hz'] at hv'
          clear hz'
          subst hv'
          obtain ⟨p2, p3, pb⟩ := HR0.out.undrew (F := F) (A := A)
          obtain ⟨Y, hY⟩ : ∃ Y, (w3.setCell ⟨M + 1, 0, none⟩ (.int .i64 F)).setCell ⟨M + 1, 1, none⟩ (.int .i64 A) = Y := ⟨_, rfl⟩
          rw [hY] at p2 p3 pb
          obtain ⟨c0, c1, c2, c3, c4, c5⟩ := p2.six
          have fx := p2.fz
          have z0 := p3.c 0 (by simp)
          have z1 := p3.c 1 (by simp)
          simp only [List.getElem_cons_zero, List.getElem_cons_succ] at z0 z1
          have fz := p3.fz
          have P2 := Lib.hid p2
          have P3 := Lib.hid p3
          have PB := Lib.hid pb
          clear p2 p3 pb HR0
          go_wp2_with fail
          clear y0 y1 fy hY
          go_region
          go_wp2_with fail
          obtain ⟨z2, z3, zb⟩ := rd_put (F := F) (A := A) P2.out P3.out PB.out
          exact rd_leave_bad HM.out hE (cel_drew z2) (cel_drew z3) zb.drew rfl rfl
      have hjn : j = n3 := by omega
      have t1 : ¬ ((j : Int) < n3) := by omega
      have hst := HR.out
      rw [show n3 - j = 0 by omega] at hst
      have hst : rdM3 b lq l (rdRs b (hd b 4).toNat p) = R := by rw [rdRs, RD.app, List.append_nil] at hst; exact hst
      rw [HE.out.2.2.2.1, Int.toNat_natCast, ← RD.app_nil (rdRs b n4 p)] at hst
      clear HR
      have HR := Lib.hid hst
      clear hst
      obtain ⟨la, hla⟩ : ∃ x, l = x := ⟨_, rfl⟩
      rw [hla] at HR HR0 hlj
      obtain ⟨sa1, sc1, rfl⟩ := row_shape HR0.out.a
      have HL1 := Lib.hid (show la.length = n3 by omega)
      clear hla hlj hj hjn
      go_wp2_with fail
      rw [rounds_succ]
      obtain ⟨d0, d1, d2, d3, d4, d5⟩ := HR0.out.h.six
      go_wp2_with fail
      clear d0 d1 d2 d3 d4 d5
      go_loopg [5, 40] n4 (fun g v5 v40 wr => ∃ j p : Nat, j + g = n4 ∧ v40 = .int .i64 j ∧ v5 = .int .i64 p ∧ p ≤ b.length ∧ ∃ (v : Value) (l : List Rc), l.length = j ∧ Hid (R0 w wr M H (H + 1) h0 h1 [.int .i64 h0, .int .i64 h1, .int .i64 n2, .int .i64 n3, .int .i64 n4, .int .i64 n5] (.slice sa0 lq.length sc0) (.slice sa1 la.length sc1) v (.slice none 0 0) lq la l []) ∧ Hid (rdM3 b lq la (RD.app l (rdRs b (n4 - j) p)) = R))
      case atStart => exact ⟨0, p, by omega, rfl, rfl, hpl, _, [], rfl, HR0, HR⟩
      case round =>
        clear HR0 HR hpl
        obtain ⟨j, p, hj, rfl, rfl, hpl, v, l, hlj, HR0, HR⟩ := hrel
        by_cases hlt : j < n4
        · have hst := HR.out
          rw [show n4 - j = (n4 - (j + 1)) + 1 by omega, rdRs_step] at hst
          by_cases hE : (s6 b p).e = 0
          · rw [if_neg (by simpa using hE)] at hst
            obtain ⟨q', e1, e2, e3⟩ := rec_end hpl (by rw [HNN.out]; omega) hE
            rw [e1, Int.toNat_natCast] at hst
            have HRD := Lib.hid (readR_gen (o := 4) (v := v) (l := l) (B := H + 1) (p : Int) (recR b p) (s6 b p).a 0 0 HR0.out.x (by simp) rfl HR0.out.n (by have := HR0.out.hH; omega) HR0.out.size (by omega) (fun wy hb => by
              have := HRA.out wy (bel_call (by rw [HM.out]; exact HR0.out.bel) hb) p
              rw [recV_ok hE] at this
              exact this))
            rw [e1] at HRD
            have HR2 := Lib.hid hst
            clear hst HR e1 hE
            go_wp2_with fail
            refine HRD.out.mono ?_; rintro e w3 ⟨v', rfl, hx, ho, ha, hk⟩
            replace HR0 := Lib.hid (HR0.out.read2 hx ho ha hk)
            have y0 := HR0.out.f.c 0 (by simp)
            have y1 := HR0.out.f.c 1 (by simp)
            simp only [List.getElem_cons_zero, List.getElem_cons_succ] at y0 y1
            have fy := HR0.out.f.fz
            clear hx ho ha hk HRD
            obtain ⟨X, hX⟩ : ∃ X, (w3.setCell ⟨M + 1, 0, none⟩ (.int .i64 0)).setCell ⟨M + 1, 1, none⟩ (.int .i64 0) = X := ⟨_, rfl⟩
            replace HR0 := Lib.hid (hX ▸ HR0.out.fault)
            have x0 := HR0.out.f.c 0 (by simp)
            simp only [List.getElem_cons_zero] at x0
            go_wp2_with fail
            go_roundg (n4 - (j + 1))
            case measure => omega
            case rel => exact ⟨j + 1, q', by omega, by go_num, rfl, e3, v', l ++ [recR b p], by simp [hlj], HR0, HR2⟩
          · rw [if_pos hE] at hst
            have HRD := Lib.hid (readR_gen (o := 4) (v := v) (l := l) (B := H + 1) (p : Int) ⟨[], 0, 0, 0, []⟩ 0 (s6 b p).e (s6 b p).p HR0.out.x (by simp) rfl HR0.out.n (by have := HR0.out.hH; omega) HR0.out.size (by omega) (fun wy hb => by
              have := HRA.out wy (bel_call (by rw [HM.out]; exact HR0.out.bel) hb) p
              rw [recV_bad hE] at this
              exact this))
            obtain ⟨F, hF⟩ : ∃ F, (s6 b p).e = F := ⟨_, rfl⟩
            obtain ⟨A, hA⟩ : ∃ A, (s6 b p).p = A := ⟨_, rfl⟩
            rw [hF, hA] at HRD hst
            rw [hF] at hE
            have tF : (F != 0) = true := by simpa using hE
            have hst2 : RM.bad F A = R := hst
            rw [← hst2]
            clear hst HR hF hA hst2
            go_wp2_with fail
            refine HRD.out.mono ?_; rintro e w3 ⟨v', rfl, hx, ho, ha, hk⟩
            replace HR0 := Lib.hid (HR0.out.read2 hx ho ha hk)
            have y0 := HR0.out.f.c 0 (by simp)
            have y1 := HR0.out.f.c 1 (by simp)
            simp only [List.getElem_cons_zero, List.getElem_cons_succ] at y0 y1
            have fy := HR0.out.f.fz
            clear hx ho ha hk HRD
            obtain ⟨sa', sc', hv'⟩ := row_shape HR0.out.n
            obtain ⟨z', hz'⟩ : ∃ z, (l ++ [(⟨[], 0, 0, 0, []⟩ : Rc)]).length = z := ⟨_, rfl⟩
            rw [hz'] at hv'
            clear hz'
            subst hv'
            obtain ⟨p2, p3, pb⟩ := HR0.out.undrew (F := F) (A := A)
            obtain ⟨Y, hY⟩ : ∃ Y, (w3.setCell ⟨M + 1, 0, none⟩ (.int .i64 F)).setCell ⟨M + 1, 1, none⟩ (.int .i64 A) = Y := ⟨_, rfl⟩
            rw [hY] at p2 p3 pb
            obtain ⟨c0, c1, c2, c3, c4, c5⟩ := p2.six
            have fx := p2.fz
            have z0 := p3.c 0 (by simp)
            have z1 := p3.c 1 (by simp)
            simp only [List.getElem_cons_zero, List.getElem_cons_succ] at z0 z1
            have fz := p3.fz
            have P2 := Lib.hid p2
            have P3 := Lib.hid p3
            have PB := Lib.hid pb
            clear p2 p3 pb HR0
            go_wp2_with fail
            clear y0 y1 fy hY
            go_region
            go_wp2_with fail
            obtain ⟨z2, z3, zb⟩ := rd_put (F := F) (A := A) P2.out P3.out PB.out
            exact rd_leave_bad HM.out hE (cel_drew z2) (cel_drew z3) zb.drew rfl rfl
        have hjn : j = n4 := by omega
        have t1 : ¬ ((j : Int) < n4) := by omega
        have hst := HR.out
        rw [show n4 - j = 0 by omega] at hst
        have hst : rdM4 b lq la l (rdRs b (hd b 5).toNat p) = R := by rw [rdRs, RD.app, List.append_nil] at hst; exact hst
        rw [HE.out.2.2.2.2, Int.toNat_natCast, ← RD.app_nil (rdRs b n5 p)] at hst
        clear HR
        have HR := Lib.hid hst
        clear hst
        obtain ⟨ln, hln⟩ : ∃ x, l = x := ⟨_, rfl⟩
        rw [hln] at HR HR0 hlj
        obtain ⟨sa2, sc2, rfl⟩ := row_shape HR0.out.n
        have HL2 := Lib.hid (show ln.length = n4 by omega)
        clear hln hlj hj hjn
        go_wp2_with fail
        rw [rounds_succ]
        obtain ⟨d0, d1, d2, d3, d4, d5⟩ := HR0.out.h.six
        go_wp2_with fail
        clear d0 d1 d2 d3 d4 d5
        go_loopg [5, 40] n5 (fun g v5 v40 wr => ∃ j p : Nat, j + g = n5 ∧ v40 = .int .i64 j ∧ v5 = .int .i64 p ∧ p ≤ b.length ∧ ∃ (v : Value) (l : List Rc), l.length = j ∧ Hid (R0 w wr M H (H + 1) h0 h1 [.int .i64 h0, .int .i64 h1, .int .i64 n2, .int .i64 n3, .int .i64 n4, .int .i64 n5] (.slice sa0 lq.length sc0) (.slice sa1 la.length sc1) (.slice sa2 ln.length sc2) v lq la ln l) ∧ Hid (rdM4 b lq la ln (RD.app l (rdRs b (n5 - j) p)) = R))
        case atStart => exact ⟨0, p, by omega, rfl, rfl, hpl, _, [], rfl, HR0, HR⟩
        case round =>
          clear HR0 HR hpl
          obtain ⟨j, p, hj, rfl, rfl, hpl, v, l, hlj, HR0, HR⟩ := hrel
          by_cases hlt : j < n5
          · have hst := HR.out
            rw [show n5 - j = (n5 - (j + 1)) + 1 by omega, rdRs_step] at hst
            by_cases hE : (s6 b p).e = 0
            · rw [if_neg (by simpa using hE)] at hst
              obtain ⟨q', e1, e2, e3⟩ := rec_end hpl (by rw [HNN.out]; omega) hE
              rw [e1, Int.toNat_natCast] at hst
              have HRD := Lib.hid (readR_gen (o := 5) (v := v) (l := l) (B := H + 1) (p : Int) (recR b p) (s6 b p).a 0 0 HR0.out.x (by simp) rfl HR0.out.r (by have := HR0.out.hH; omega) HR0.out.size (by omega) (fun wy hb => by
                have := HRA.out wy (bel_call (by rw [HM.out]; exact HR0.out.bel) hb) p
                rw [recV_ok hE] at this
                exact this))
              rw [e1] at HRD
              have HR2 := Lib.hid hst
              clear hst HR e1 hE
              go_wp2_with fail
              refine HRD.out.mono ?_; rintro e w3 ⟨v', rfl, hx, ho, ha, hk⟩
              replace HR0 := Lib.hid (HR0.out.read3 hx ho ha hk)
              have y0 := HR0.out.f.c 0 (by simp)
              have y1 := HR0.out.f.c 1 (by simp)
              simp only [List.getElem_cons_zero, List.getElem_cons_succ] at y0 y1
              have fy := HR0.out.f.fz
              clear hx ho ha hk HRD
              obtain ⟨X, hX⟩ : ∃ X, (w3.setCell ⟨M + 1, 0, none⟩ (.int .i64 0)).setCell ⟨M + 1, 1, none⟩ (.int .i64 0) = X := ⟨_, rfl⟩
              replace HR0 := Lib.hid (hX ▸ HR0.out.fault)
              have x0 := HR0.out.f.c 0 (by simp)
              simp only [List.getElem_cons_zero] at x0
              go_wp2_with fail
              go_roundg (n5 - (j + 1))
              case measure => omega
              case rel => exact ⟨j + 1, q', by omega, by go_num, rfl, e3, v', l ++ [recR b p], by simp [hlj], HR0, HR2⟩
            · rw [if_pos hE] at hst
              have HRD := Lib.hid (readR_gen (o := 5) (v := v) (l := l) (B := H + 1) (p : Int) ⟨[], 0, 0, 0, []⟩ 0 (s6 b p).e (s6 b p).p HR0.out.x (by simp) rfl HR0.out.r (by have := HR0.out.hH; omega) HR0.out.size (by omega) (fun wy hb => by
                have := HRA.out wy (bel_call (by rw [HM.out]; exact HR0.out.bel) hb) p
                rw [recV_bad hE] at this
                exact this))
              obtain ⟨F, hF⟩ : ∃ F, (s6 b p).e = F := ⟨_, rfl⟩
              obtain ⟨A, hA⟩ : ∃ A, (s6 b p).p = A := ⟨_, rfl⟩
              rw [hF, hA] at HRD hst
              rw [hF] at hE
              have tF : (F != 0) = true := by simpa using hE
              have hst2 : RM.bad F A = R := hst
              rw [← hst2]
              clear hst HR hF hA hst2
              go_wp2_with fail
              refine HRD.out.mono ?_; rintro e w3 ⟨v', rfl, hx, ho, ha, hk⟩
              replace HR0 := Lib.hid (HR0.out.read3 hx ho ha hk)
              have y0 := HR0.out.f.c 0 (by simp)
              have y1 := HR0.out.f.c 1 (by simp)
              simp only [List.getElem_cons_zero, List.getElem_cons_succ] at y0 y1
              have fy := HR0.out.f.fz
              clear hx ho ha hk HRD
              obtain ⟨sa', sc', hv'⟩ := row_shape HR0.out.r
              obtain ⟨z', hz'⟩ : ∃ z, (l ++ [(⟨[], 0, 0, 0, []⟩ : Rc)]).length = z := ⟨_, rfl⟩
              rw [hz'] at hv'
              clear hz'
              subst hv'
              obtain ⟨p2, p3, pb⟩ := HR0.out.undrew (F := F) (A := A)
              obtain ⟨Y, hY⟩ : ∃ Y, (w3.setCell ⟨M + 1, 0, none⟩ (.int .i64 F)).setCell ⟨M + 1, 1, none⟩ (.int .i64 A) = Y := ⟨_, rfl⟩
              rw [hY] at p2 p3 pb
              obtain ⟨c0, c1, c2, c3, c4, c5⟩ := p2.six
              have fx := p2.fz
              have z0 := p3.c 0 (by simp)
              have z1 := p3.c 1 (by simp)
              simp only [List.getElem_cons_zero, List.getElem_cons_succ] at z0 z1
              have fz := p3.fz
              have P2 := Lib.hid p2
              have P3 := Lib.hid p3
              have PB := Lib.hid pb
              clear p2 p3 pb HR0
              go_wp2_with fail
              clear y0 y1 fy hY
              go_region
              go_wp2_with fail
              obtain ⟨z2, z3, zb⟩ := rd_put (F := F) (A := A) P2.out P3.out PB.out
              exact rd_leave_bad HM.out hE (cel_drew z2) (cel_drew z3) zb.drew rfl rfl
          have hjn : j = n5 := by omega
          have t1 : ¬ ((j : Int) < n5) := by omega
          have hst := HR.out
          rw [show n5 - j = 0 by omega] at hst
          have hst : (if p < b.length then RM.bad 4 p else .ok ⟨h0, h1, lq, la, ln, l⟩) = R := by rw [rdRs, RD.app, List.append_nil, rdM4, HE.out.1, HE.out.2.1] at hst; exact hst
          clear HR
          have HR := Lib.hid hst
          clear hst
          obtain ⟨lr, hlr⟩ : ∃ x, l = x := ⟨_, rfl⟩
          rw [hlr] at HR HR0 hlj
          obtain ⟨sa3, sc3, rfl⟩ := row_shape HR0.out.r
          have HL3 := Lib.hid (show lr.length = n5 by omega)
          clear hlr hlj hj hjn
          go_wp2_with fail
          rw [rounds_succ]
          obtain ⟨c0, c1, c2, c3, c4, c5⟩ := HR0.out.x.six
          have fx := HR0.out.x.fz
          have y0 := HR0.out.f.c 0 (by simp)
          have y1 := HR0.out.f.c 1 (by simp)
          simp only [List.getElem_cons_zero, List.getElem_cons_succ] at y0 y1
          have fy := HR0.out.f.fz
          have hst := HR.out
          clear HR
          by_cases hpn : p < n
          · rw [if_pos (by rw [HNN.out]; exact hpn)] at hst
            have HST := Lib.hid hst
            clear hst
            have t2 : decide ((p : Int) < n) = true := by simp; omega
            go_wp2_with fail
            rw [← HST.out]
            obtain ⟨z2, z3, zb⟩ := rd_put (F := 4) (A := p) HR0.out.x HR0.out.f HR0.out.bel
            exact rd_leave_bad HM.out (by decide) z2 z3 zb rfl rfl
          · rw [if_neg (by rw [HNN.out]; exact hpn)] at hst
            have HST := Lib.hid hst
            clear hst
            have t2 : decide ((p : Int) < n) = false := by simp; omega
            go_wp2_with fail
            rw [← HST.out]
            have hs := HR0.out.same
            obtain ⟨z2, z3, zb⟩ := rd_put (F := 0) (A := 0) HR0.out.x HR0.out.f HR0.out.bel
            exact rd_leave_ok HM.out z2 z3 zb (hs.mg (by rw [HL0.out]; omega) (by rw [HL1.out]; omega) (by rw [HL2.out]; omega) (by rw [HL3.out]; omega)) rfl rfl

/-- The message that bytes are, or the fault. -/
theorem readM_any {w : World} {lo hi : Nat} {vb : Value} {b : List UInt8} (hS : Sl w lo hi vb (iz b)) (hhi : hi ≤ w.heap.size) (hl : b.length ≤ 1000000) : Calls Tryz.prog 30 #[vb] w (RMPost w (rdM b)) := by
  have hS2 := hS
  obtain ⟨av, cv, rfl, _⟩ := hS
  have hS : Sl w lo hi (.slice av b.length cv) (iz b) := by rw [iz_len] at hS2; exact hS2
  rw [iz_len]
  unfold rdM
  by_cases h1 : 65535 < b.length
  · rw [if_pos h1]; exact readM_long h1 (by omega)
  · rw [if_neg h1]
    by_cases h2 : b.length < 12
    · rw [if_pos h2]; exact readM_short hS hhi h2
    · rw [if_neg h2]; exact readM_mid hS hhi (by omega) (by omega)
end Go.Proofs.YtdikgjbpjdnodaaGreat
