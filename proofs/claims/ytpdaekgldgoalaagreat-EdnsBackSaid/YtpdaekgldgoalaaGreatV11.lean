/-
  What Write stands on: two bytes of a number, the deferred function, the bytes so far and the packer.
-/
import Derived.Test.YtpdaekgldgoalaaGreatV10
import Derived.Test.YtpdaekgldgoalaaGreatV07
import Derived.Defers
namespace Go.Proofs.YtpdaekgldgoalaaGreat
open Go.RowKit Go.Shelf
set_option linter.unusedVariables false
set_option linter.unusedSimpArgs false
set_option maxRecDepth 100000

theorem mtwo_any (n : Int) (h0 : 0 ≤ n) (h1 : n ≤ 65535) (w : World) : Calls Tryz.prog 30 #[.int .i64 n] w fun e w' => ∃ a c, e = .returned (.slice a 2 c) ∧ OwnB w' w.heap.size (.slice a 2 c) (two n) ∧ Below w.heap.size w w' := by
  have HP : Hid (Calls Tryz.prog 42 #[.int .i64 n] w fun e w' => ∃ a c, e = .returned (.tuple #[.slice a 2 c, .int .i64 (putE 65535 n)]) ∧ OwnB w' w.heap.size (.slice a 2 c) (two n) ∧ Below w.heap.size w w') := by
    refine (put16_any n w).mono ?_
    rintro e w' ⟨v, g, rfl, ho, hg, _, hb⟩
    rw [← iz_two n h0 h1] at ho
    have hs := (OwnB.of_own ho (by rw [two_len]; omega)).mono hg
    obtain ⟨a, c, rfl⟩ := hs.shape
    exact ⟨a, c, rfl, hs, hb⟩
  obtain ⟨E, hE⟩ : ∃ E, putE 65535 n = E := ⟨_, rfl⟩
  rw [hE] at HP
  clear hE
  go_enter Tryz.func30, Tryz.ntmps30
  go_wp2_with fail
  refine HP.out.mono ?_; rintro e w1 ⟨a, c, rfl, hs, hb⟩
  have HQ := Lib.hid (And.intro hs hb)
  clear hs hb
  go_wp2_with fail
  go_ret
  exact ⟨a, c, rfl, HQ.out⟩

theorem rowB_all {l : List UInt8} {cap : Nat} : ∀ u ∈ rowB l cap, ∃ x : Int, u = .int .u8 x := by
  intro u hu
  unfold rowB at hu
  rcases List.mem_append.mp hu with hu | hu
  · rw [ub_iz] at hu
    obtain ⟨x, _, rfl⟩ := List.mem_map.mp hu
    exact ⟨x, rfl⟩
  · exact ⟨0, (List.mem_replicate.mp hu).2⟩

/-- A packer's blocks are not those of a row of bytes. -/
theorem pk_apart {w : World} {p bm e B : Nat} {K : KK} {v : Value} {l : List UInt8} (h : Pk w p bm K e) (ho : OwnB w B v l) (b : Nat) (hb : v.ownBlock = some b) : ¬ (b = p ∨ b = bm) := by
  rcases ho with ⟨rfl, _⟩ | ⟨g, cap, fz, rfl, _, _, _, _, hg⟩
  · simp [Value.ownBlock] at hb
  · simp [Value.ownBlock] at hb
    subst hb
    rintro (rfl | rfl)
    · have := h.self
      rw [World.cell?, hg] at this
      simp only [List.getElem?_toArray] at this
      have hm := rowB_all _ (List.mem_of_getElem? (by simpa using this))
      obtain ⟨x, hx⟩ := hm
      cases hx
    · obtain ⟨D, ⟨es, clock, hm, _⟩, _⟩ := h.map
      rw [hg] at hm
      cases hm

/-- What is written so far: the message's cells, the slice of the bytes, no error, the pointers to the lists, the bytes. -/
structure W0 (w wr : World) (M N B0 : Nat) (xs ys : List Value) (bv : Value) (b : List UInt8) : Prop where
  x : Cel wr M xs
  xl : 0 < xs.length
  c2 : Cel wr (M + 1) [bv]
  c3 : Cel wr (M + 2) [.int .i64 0]
  y : Cel wr N ys
  yl : 0 < ys.length
  hN : N < B0
  hM : M + 3 ≤ B0
  ne : N ≠ M + 1 ∧ N ≠ M + 2
  row : OwnB wr B0 bv b
  bel : Below M w wr
  size : B0 ≤ wr.heap.size

section
variable {w wr w' : World} {M N B0 p bm e : Nat} {xs ys : List Value} {bv : Value} {b : List UInt8} {K : KK}
theorem W0.aside {G : Nat → Prop} (h : W0 w wr M N B0 xs ys bv b) (ha : Aside G wr w') (hG : ∀ k, k < B0 → ¬ G k) (hr : ∀ k, bv.ownBlock = some k → ¬ G k) : W0 w w' M N B0 xs ys bv b := by
  have hm := h.hM
  exact ⟨h.x.aside h.xl ha (hG _ (by omega)), h.xl, h.c2.aside (by simp) ha (hG _ (by omega)), h.c3.aside (by simp) ha (hG _ (by omega)), h.y.aside h.yl ha (hG _ h.hN), h.yl, h.hN, hm, h.ne, h.row.aside ha hr, below_aside h.bel ha fun k hk => ⟨Nat.lt_of_lt_of_le (by omega) h.size, hG k (by omega)⟩, Nat.le_trans h.size ha.size⟩
theorem W0.later (h : W0 w wr M N B0 xs ys bv b) (hb : Below wr.heap.size wr w') : W0 w w' M N B0 xs ys bv b :=
  h.aside (G := fun _ => False) (Aside.of_all hb) (fun _ _ h => h) (fun _ _ h => h)
theorem W0.name (h : W0 w wr M N B0 xs ys bv b) (hp : Pk wr p bm K e) (h1 : B0 ≤ p) (h2 : B0 ≤ bm) (ha : Aside (fun k => k = p ∨ k = bm) wr w') : W0 w w' M N B0 xs ys bv b :=
  h.aside ha (fun k hk hg => by omega) (fun k hk hg => pk_apart hp h.row k hk hg)
/-- Another slice of the bytes is stored. -/
theorem W0.put {v : Value} {b' : List UInt8} (h : W0 w wr M N B0 xs ys bv b) (ho : OwnB wr B0 v b') : W0 w (wr.setCell ⟨M + 1, 0, none⟩ v) M N B0 xs ys v b' := by
  have hm := h.hM
  refine ⟨h.x.other (by simp) _, h.xl, ?_, h.c3.other (by simp) _, h.y.other (by simpa using h.ne.1.symm) _, h.yl, h.hN, hm, h.ne, ?_, h.bel.setCell (by simp) _, Nat.le_trans h.size (by simp [World.setCell])⟩
  · have := h.c2.set (o := 0) (by simp) v
    simpa using this
  · refine ho.aside (G := fun k => k = M + 1) (Aside.setCell _ _ rfl) fun k hk hg => ?_
    have := (ho.lt k hk).1
    omega
/-- No error is stored. -/
theorem W0.noerr (h : W0 w wr M N B0 xs ys bv b) : W0 w (wr.setCell ⟨M + 2, 0, none⟩ (.int .i64 0)) M N B0 xs ys bv b := by
  have hm := h.hM
  refine ⟨h.x.other (by simp) _, h.xl, h.c2.other (by simp) _, ?_, h.y.other (by simpa using h.ne.2.symm) _, h.yl, h.hN, hm, h.ne, ?_, h.bel.setCell (by simp) _, Nat.le_trans h.size (by simp [World.setCell])⟩
  · have := h.c3.set (o := 0) (by simp) (.int .i64 0)
    simpa using this
  · refine h.row.aside (G := fun k => k = M + 2) (Aside.setCell _ _ rfl) fun k hk hg => ?_
    have := (h.row.lt k hk).1
    omega
/-- The pointers to the lists are laid down. -/
theorem W0.lists {N' : Nat} {zs : List Value} (h : W0 w wr M N B0 xs ys (.slice none 0 0) []) (hy : Cel wr N' zs) (hz : 0 < zs.length) (hN : B0 ≤ N') (hs : N' + 1 ≤ wr.heap.size) : W0 w wr M N' (N' + 1) xs zs (.slice none 0 0) [] := by
  have hm := h.hM
  exact ⟨h.x, h.xl, h.c2, h.c3, hy, hz, by omega, by omega, ⟨by omega, by omega⟩, OwnB.nil _ _, h.bel, hs⟩

/-- The bytes so far are laid in another row, and its slice is stored. -/
theorem W0.app (h : W0 w wr M N B0 xs ys bv b) {xv : Value} {l' : List UInt8} {lo hi : Nat} (hx : Sl wr lo hi xv (iz l')) (hb : b.length + l'.length ≤ 1000000) :
    ∃ a' c' w', (Builtin.append_ #[43, 43] 43 #[bv, xv]).run Tryz.prog wr = .ok (.slice a' (b.length + l'.length) c') w' ∧
      w'.cell? ⟨M + 1, 0, none⟩ = some bv ∧ (∀ j, w'.frozen? ⟨M + 1, j, none⟩ = false) ∧ W0 w (w'.setCell ⟨M + 1, 0, none⟩ (.slice a' (b.length + l'.length) c')) M N B0 xs ys (.slice a' (b.length + l'.length) c') (b ++ l') ∧
      ∀ p bm K e, Pk wr p bm K e → B0 ≤ p → B0 ≤ bm → Pk (w'.setCell ⟨M + 1, 0, none⟩ (.slice a' (b.length + l'.length) c')) p bm K e := by
  have hm := h.hM
  obtain ⟨a', c', w', h1, h2, ha⟩ := run_appBs B0 bv xv b l' h.row hx hb h.size
  have hlt := h.row.lt
  have hG : ∀ k, k < B0 → ¬ bv.ownBlock = some k := fun k hk hg => by have := (hlt k hg).1; omega
  have k2 := h.c2.aside (by simp) ha (hG _ (by omega))
  have k0 := h.x.aside h.xl ha (hG _ (by omega))
  have k3 := h.c3.aside (by simp) ha (hG _ (by omega))
  have k4 := h.y.aside h.yl ha (hG _ h.hN)
  refine ⟨a', c', w', h1, k2.c 0 (by simp), k2.fz, ⟨k0.other (by simp) _, h.xl, ?_, k3.other (by simp) _, k4.other (by simpa using h.ne.1.symm) _, h.yl, h.hN, hm, h.ne, ?_, ?_, ?_⟩, fun p bm K e hp p1 p2 => ?_⟩
  · have := k2.set (o := 0) (by simp) (.slice a' (b.length + l'.length) c')
    simpa using this
  · refine h2.aside (G := fun k => k = M + 1) (Aside.setCell _ _ rfl) fun k hk hg => ?_
    have := (h2.lt k hk).1
    omega
  · exact (below_aside h.bel ha fun k hk => ⟨Nat.lt_of_lt_of_le (by omega) h.size, hG k (by omega)⟩).setCell (by simp) _
  · exact Nat.le_trans h.size (Nat.le_trans ha.size (by simp [World.setCell]))
  · have := hp.aside ha (fun hg => pk_apart hp h.row p hg (.inl rfl)) (fun hg => pk_apart hp h.row bm hg (.inr rfl))
    exact this.aside (G := fun k => k = M + 1) (Aside.setCell _ _ rfl) (by omega) (by omega)
end

theorem cel_new1 (w : World) (a : Value) (T : TypeId) : Cel (w.alloc (.cells #[a] T)) w.heap.size [a] := ⟨fun j hj => by
    match j, hj with
    | 0, _ => simp [go_sem], fun j => by simp [go_sem]⟩

/-- How Write begins. -/
theorem W0.start {w : World} {M : Nat} (hM : w.heap.size = M) (i0 i1 q a n r : Value) : ∃ W1 W2 W3, w.alloc (.cells #[i0, i1, q, a, n, r] 25) = W1 ∧ W1.alloc (.cells #[.slice none 0 0] 43) = W2 ∧ W2.alloc (.cells #[.int .i64 0] 32) = W3 ∧
    W1.heap.size = M + 1 ∧ W2.heap.size = M + 2 ∧ W3.heap.size = M + 3 ∧ W0 w W3 M M (M + 3) [i0, i1, q, a, n, r] [i0, i1, q, a, n, r] (.slice none 0 0) [] := by
  refine ⟨_, _, _, rfl, rfl, rfl, by simp [hM], by simp [hM], by simp [hM], ?_⟩
  have hx := cel_new6 w i0 i1 q a n r 25
  have hy := cel_new1 (w.alloc (.cells #[i0, i1, q, a, n, r] 25)) (.slice none 0 0) 43
  have hz := cel_new1 ((w.alloc (.cells #[i0, i1, q, a, n, r] 25)).alloc (.cells #[.slice none 0 0] 43)) (.int .i64 0) 32
  simp only [World.size_alloc, hM] at hx hy hz
  have hx' := hx.below (by simp) (((Below.refl _ _).alloc (Nat.le_refl _) (.cells #[.slice none 0 0] 43)).alloc (by simp) (.cells #[.int .i64 0] 32))
  refine ⟨hx', by simp, ?_, hz, hx', by simp, by omega, by omega, ⟨by omega, by omega⟩, OwnB.nil _ _, ?_, by simp [hM]⟩
  · exact hy.below (by simp) ((Below.refl _ _).alloc (Nat.le_refl _) _)
  · rw [← hM]
    exact (((Below.refl _ _).alloc (Nat.le_refl _) _).alloc (by simp) _).alloc (by simp; omega) _

theorem oper_app_run {w w' : World} {v v' xv : Value} {ops : Array Oper} {o : Oper} {a : Act} {K : Act → World → Prop} {Q : Exit → Act → World → Prop} (s x : Operand) (t u : TypeId)
    (ho : o.op = .call { callee := .builtin .append, args := #[s, x], argTypes := #[t, u] }) (hgd : o.guard = .none) (hs : a.eval s = v) (hx : a.eval x = xv)
    (hrun : (Builtin.append_ #[t, u] o.type #[v, xv]).run Tryz.prog w = .ok v' w') (h : K (a.put o.dst v') w') : if Region.wanted o (yielded ops a.tmps) = true then Oper.wp Tryz.prog o a w K Q else K (a.put o.dst undef) w := by
  rw [if_pos (by simp [Region.wanted, hgd])]
  unfold Oper.wp
  simp [execOp, ho, resolve, invoke, builtin, hs, hx, hrun, Result.andThen]
  exact h

/-- What a function leaves hangs on its results' slots alone. -/
theorem leaves_of {P : Program} {fn : Func} {R : Ending → World → Prop} {tmps tmps' : Array Value} (h : ∀ w, (results fn tmps).run P w = (results fn tmps').run P w) : ∀ (ds : List Deferred) (u : FrameMode) (w : World), Leaves P fn tmps R ds u w → Leaves P fn tmps' R ds u w
  | [], .returning, w, ⟨v, h1, h2⟩ => ⟨v, (h w).symm.trans h1, h2⟩
  | [], .panicking chain, w, hl => hl
  | [], .run, w, hl => hl
  | d :: ds, u, w, ⟨hu, fv, cap, f, args, ht, hi, hc⟩ => ⟨hu, fv, cap, f, args, ht, hi, hc.mono fun e u' w' hr => by
      cases e with
      | returned v => exact leaves_of h ds _ _ hr
      | panicked ch => exact leaves_of h ds _ _ hr
      | outgrown => exact hr⟩

theorem wres_put (a : Act) (d : Option Nat) (v : Value) (hd : d ≠ some 2 ∧ d ≠ some 3) (w : World) : (results Tryz.f16 (a.put d v).tmps).run Tryz.prog w = (results Tryz.f16 a.tmps).run Tryz.prog w := by
  cases d with
  | none => rfl
  | some d =>
    have e2 : (a.tmps.setIfInBounds d v).getD 2 undef = a.tmps.getD 2 undef := by
      simp only [Array.getD_eq_getD_getElem?]
      rw [Array.getElem?_setIfInBounds_ne (by intro e; exact hd.1 (by rw [e]))]
    have e3 : (a.tmps.setIfInBounds d v).getD 3 undef = a.tmps.getD 3 undef := by
      simp only [Array.getD_eq_getD_getElem?]
      rw [Array.getElem?_setIfInBounds_ne (by intro e; exact hd.2 (by rw [e]))]
    show (results Tryz.f16 (a.tmps.setIfInBounds d v)).run Tryz.prog w = _
    simp [results, Tryz.results16, go_sem, -Array.getD_eq_getD_getElem?, e2, e3]
/-- A scratch slot of Write does not matter to how a panic goes. -/
theorem wq_put {R : Ending → World → Prop} {ch : List PanicEntry} {a : Act} {w : World} {d : Option Nat} {v : Value} (hd : d ≠ some 2 ∧ d ≠ some 3) (h : bodyPostD Tryz.prog Tryz.f16 R (.panic ch) (a.put d v) w) : bodyPostD Tryz.prog Tryz.f16 R (.panic ch) a w := by
  have h2 : Leaves Tryz.prog Tryz.f16 (a.put d v).tmps R (a.put d v).defers (.panicking ch) w := h
  have e : (a.put d v).defers = a.defers := by cases d <;> rfl
  rw [e] at h2
  exact leaves_of (fun w => wres_put a d v hd w) _ _ _ h2

/-- The deferred function, no error: nothing. -/
theorem wend_ok (g h : Nat) (w : World) (hp : w.cell? ⟨g, 0, none⟩ = some (.int .i64 0)) :
    CallsD Tryz.prog 27 #[.pointer (some ⟨g, 0, none⟩), .pointer (some ⟨h, 0, none⟩)] .returning w fun e u' w' => u' = .returning ∧ (e = .returned (.tuple #[]) ∧ w = w') := by
  refine callsD_of_wp Tryz.func27 rfl ?_
  simp only [Tryz.ntmps27, List.size_toArray, List.length_cons, List.length_nil, Nat.reduceAdd, Nat.reduceSub, Array.replicate_succ, Array.replicate_zero, List.push_toArray, List.append_toArray, List.nil_append, List.cons_append]
  go_wp2
  exact ⟨rfl, .tuple #[], by simp [results, Tryz.results27], rfl, rfl⟩
/-- The deferred function, an error: the bytes are nil. -/
theorem wend_bad (g h : Nat) (E : Int) (v : Value) (hE : E ≠ 0) (w : World) (hp : w.cell? ⟨g, 0, none⟩ = some (.int .i64 E)) (hq : w.cell? ⟨h, 0, none⟩ = some v) (hf : ∀ j, w.frozen? ⟨h, j, none⟩ = false) :
    CallsD Tryz.prog 27 #[.pointer (some ⟨g, 0, none⟩), .pointer (some ⟨h, 0, none⟩)] .returning w fun e u' w' => u' = .returning ∧ (e = .returned (.tuple #[]) ∧ w' = w.setCell ⟨h, 0, none⟩ (.slice none 0 0)) := by
  have tE : (E != 0) = true := by simpa using hE
  refine callsD_of_wp Tryz.func27 rfl ?_
  simp only [Tryz.ntmps27, List.size_toArray, List.length_cons, List.length_nil, Nat.reduceAdd, Nat.reduceSub, Array.replicate_succ, Array.replicate_zero, List.push_toArray, List.append_toArray, List.nil_append, List.cons_append]
  go_wp2
  exact ⟨rfl, .tuple #[], by simp [results, Tryz.results27], rfl, rfl⟩
end Go.Proofs.YtpdaekgldgoalaaGreat
