/-
  A message without what it says besides: Strip.
-/
import Derived.Test.YtpdaekgldgoalaaGreatV16
import Derived.Test.YtpdaekgldgoalaaGreatV15
import Derived.Test.YtpdaekgldgoalaaGreatV02
import Derived.Test.YtpdaekgldgoalaaGreatV01
import Derived.Test.YtpdaekgldgoalaaGreatV00
namespace Go.Proofs.YtpdaekgldgoalaaGreat
open Go.RowKit Go.Shelf
set_option linter.unusedVariables false
set_option linter.unusedSimpArgs false
set_option maxRecDepth 100000

/-- A message in its box, and the answer's box. -/
structure Bm (w wr : World) (N : Nat) (i f : Int) (q a n r : Value) : Prop where
  bel : Below N w wr
  x : Cel wr N [.int .i64 i, .int .i64 f, q, a, n, r]
  z : Cel wr (N + 1) [.int .i64 0, .int .i64 0, .slice none 0 0, .slice none 0 0, .slice none 0 0, .slice none 0 0]
  size : N + 2 ≤ wr.heap.size
section
variable {w wr w' : World} {N : Nat} {i f : Int} {q a n r : Value} {hi : Nat} {m : Ms}
theorem Bm.later (h : Bm w wr N i f q a n r) (hb : Below wr.heap.size wr w') : Bm w w' N i f q a n r :=
  ⟨below_aside h.bel (Aside.of_all hb : Aside (fun _ => False) wr w') (fun k hk => ⟨by have := h.size; omega, id⟩), h.x.below (by simp) hb, h.z.below (by simp) hb, Nat.le_trans h.size hb.size⟩
theorem bm_side (wr : World) (N o : Nat) (v : Value) : Aside (fun k => k = N) wr (wr.setCell ⟨N, o, none⟩ v) := Aside.setCell wr (p := ⟨N, o, none⟩) _ rfl
theorem Bm.put3 (h : Bm w wr N i f q a n r) (v : Value) : Bm w (wr.setCell ⟨N, 3, none⟩ v) N i f q v n r :=
  ⟨below_aside h.bel (bm_side _ _ _ _) (fun k hk => ⟨by have := h.size; omega, by omega⟩), h.x.set (o := 3) (by simp) v, h.z.other (a := ⟨N, 3, none⟩) (by show N ≠ N + 1; omega) _, Nat.le_trans h.size (bm_side wr N 3 v).size⟩
theorem Bm.put4 (h : Bm w wr N i f q a n r) (v : Value) : Bm w (wr.setCell ⟨N, 4, none⟩ v) N i f q a v r :=
  ⟨below_aside h.bel (bm_side _ _ _ _) (fun k hk => ⟨by have := h.size; omega, by omega⟩), h.x.set (o := 4) (by simp) v, h.z.other (a := ⟨N, 4, none⟩) (by show N ≠ N + 1; omega) _, Nat.le_trans h.size (bm_side wr N 4 v).size⟩
theorem Bm.put5 (h : Bm w wr N i f q a n r) (v : Value) : Bm w (wr.setCell ⟨N, 5, none⟩ v) N i f q a n v :=
  ⟨below_aside h.bel (bm_side _ _ _ _) (fun k hk => ⟨by have := h.size; omega, by omega⟩), h.x.set (o := 5) (by simp) v, h.z.other (a := ⟨N, 5, none⟩) (by show N ≠ N + 1; omega) _, Nat.le_trans h.size (bm_side wr N 5 v).size⟩
/-- What is put into the answer's box at last. -/
theorem Bm.fin (h : Bm w wr N i f q a n r) (v0 v1 v2 v3 v4 v5 : Value) : Below N w (put6 wr (N + 1) v0 v1 v2 v3 v4 v5) ∧ Cel (put6 wr (N + 1) v0 v1 v2 v3 v4 v5) (N + 1) [v0, v1, v2, v3, v4, v5] ∧ Aside (fun k => k = N + 1) wr (put6 wr (N + 1) v0 v1 v2 v3 v4 v5) :=
  ⟨below_aside h.bel (aside_put6 _ _ _ _ _ _ _ _) (fun k hk => ⟨by have := h.size; omega, by omega⟩), cel_put6 h.z _ _ _ _ _ _, aside_put6 _ _ _ _ _ _ _ _⟩
theorem bm_start (w : World) (i f : Int) (q a n r : Value) (hN : w.heap.size = N) :
    Bm w ((w.alloc (.cells #[.int .i64 i, .int .i64 f, q, a, n, r] 25)).alloc (.cells #[.int .i64 0, .int .i64 0, .slice none 0 0, .slice none 0 0, .slice none 0 0, .slice none 0 0] 25)) N i f q a n r := by
  subst hN
  have hz := cel_new6 (w.alloc (.cells #[.int .i64 i, .int .i64 f, q, a, n, r] 25)) (.int .i64 0) (.int .i64 0) (.slice none 0 0) (.slice none 0 0) (.slice none 0 0) (.slice none 0 0) 25
  rw [World.size_alloc] at hz
  exact ⟨((Below.refl _ _).alloc (Nat.le_refl _) _).alloc (by simp) _, (cel_new6 w (.int .i64 i) (.int .i64 f) q a n r 25).below (by simp) ((Below.refl _ _).alloc (Nat.le_refl _) _), hz, by simp⟩
end
theorem OwnM.aside {G : Nat → Prop} {w w' : World} {B : Nat} {v : Value} {m : Ms} (h : OwnM w B v m) (ha : Aside G w w') (hG : ∀ k, B ≤ k → ¬ G k) : OwnM w' B v m := by
  obtain ⟨q, a, n, r, rfl, h1, h2, h3, h4⟩ := h
  exact ⟨q, a, n, r, rfl, row_aside h1 ha fun k hk => hG k (World.ownsRow.lt h1 k hk).1, row_aside h2 ha fun k hk => hG k (World.ownsRow.lt h2 k hk).1, row_aside h3 ha fun k hk => hG k (World.ownsRow.lt h3 k hk).1, row_aside h4 ha fun k hk => hG k (World.ownsRow.lt h4 k hk).1⟩
/-- No name and no data is too long to be copied, or read. -/
def Mild (m : Ms) : Prop := (m.q.length + m.an.length + m.ns.length + m.ar.length ≤ 900000) ∧ (∀ x ∈ m.q, x.n.length ≤ 900000) ∧ (∀ x ∈ m.an, x.n.length ≤ 900000 ∧ x.d.length ≤ 900000) ∧
  (∀ x ∈ m.ns, x.n.length ≤ 900000 ∧ x.d.length ≤ 900000) ∧ (∀ x ∈ m.ar, x.n.length ≤ 900000 ∧ x.d.length ≤ 900000)
theorem noL_mem {l : List Rc} {x : Rc} (h : x ∈ noL l) : x ∈ l := (List.mem_filter.mp h).1
theorem noL_len (l : List Rc) : (noL l).length ≤ l.length := List.length_filter_le _ _
theorem Mild.st {m : Ms} (h : Mild m) : Mild (stM m) := by
  obtain ⟨h1, h2, h3, h4, h5⟩ := h
  have e1 := noL_len m.an
  have e2 := noL_len m.ns
  have e3 := noL_len m.ar
  exact ⟨by unfold stM; simp only; omega, h2, fun x hx => h3 x (noL_mem hx), fun x hx => h4 x (noL_mem hx), fun x hx => h5 x (noL_mem hx)⟩
theorem ownMild_any {w : World} {hi : Nat} {u : Value} {m : Ms} (h : Mg w hi u m) (h1 : hi ≤ w.heap.size) (hm : Mild m) :
    Calls Tryz.prog 22 #[u] w (fun e w' => ∃ v, e = .returned v ∧ OwnM w' w.heap.size v m ∧ Below w.heap.size w w') :=
  own_any h h1 hm.1 (fun x hx => Nat.le_trans (hm.2.1 x hx) (by decide)) (fun x hx => ⟨Nat.le_trans (hm.2.2.1 x hx).1 (by decide), Nat.le_trans (hm.2.2.1 x hx).2 (by decide)⟩) (fun x hx => ⟨Nat.le_trans (hm.2.2.2.1 x hx).1 (by decide), Nat.le_trans (hm.2.2.2.1 x hx).2 (by decide)⟩)
    (fun x hx => ⟨Nat.le_trans (hm.2.2.2.2 x hx).1 (by decide), Nat.le_trans (hm.2.2.2.2 x hx).2 (by decide)⟩)

set_option maxHeartbeats 4000000 in
theorem strip_any {w : World} {hi : Nat} {u : Value} {m : Ms} (h : Mg w hi u m) (h1 : hi ≤ w.heap.size) (hm : Mild m) :
    Calls Tryz.prog 12 #[u] w (fun e w' => ∃ v, e = .returned v ∧ OwnM w' w.heap.size v (stM m) ∧ Below w.heap.size w w') := by
  have hms := hm.st
  obtain ⟨i0, f0, l, lan, lns, lar⟩ := m
  obtain ⟨q, a, n, r, rfl, hq, h2, h3, h4⟩ := h
  unfold stM at hms ⊢
  have hl := hm.1
  simp only at hl hms hq h2 h3 h4 ⊢
  obtain ⟨N, hN⟩ : ∃ g, w.heap.size = g := ⟨_, rfl⟩
  have HCA := Lib.hid (fun wx (hb : Below N w wx) => others_any (Lst.below h2 hb (by omega)) (Nat.le_trans (by omega : hi ≤ N) (by have := hb.size; omega)) (by omega))
  have HCN := Lib.hid (fun wx (hb : Below N w wx) => others_any (Lst.below h3 hb (by omega)) (Nat.le_trans (by omega : hi ≤ N) (by have := hb.size; omega)) (by omega))
  have HCR := Lib.hid (fun wx (hb : Below N w wx) => others_any (Lst.below h4 hb (by omega)) (Nat.le_trans (by omega : hi ≤ N) (by have := hb.size; omega)) (by omega))
  have HQ := Lib.hid (fun wx (hb : Below N w wx) => Lst.below hq hb (by omega : hi ≤ N))
  have HMS := Lib.hid hms
  obtain ⟨xa, xc, rfl⟩ := Lst.shape hq
  obtain ⟨aa, ac, rfl⟩ := Lst.shape h2
  obtain ⟨na, nc, rfl⟩ := Lst.shape h3
  obtain ⟨ra, rc, rfl⟩ := Lst.shape h4
  obtain ⟨la, hla⟩ : ∃ i, lan.length = i := ⟨_, rfl⟩
  obtain ⟨ln, hln⟩ : ∃ i, lns.length = i := ⟨_, rfl⟩
  obtain ⟨lr, hlr⟩ : ∃ i, lar.length = i := ⟨_, rfl⟩
  rw [hla] at HCA
  rw [hln] at HCN
  rw [hlr] at HCR
  rw [hla, hln, hlr]
  have HHI := Lib.hid (show hi ≤ N by omega)
  have HL := Lib.hid hl
  have HLA := Lib.hid (show (noL lan).length ≤ 900000 by have := noL_len lan; omega)
  have HLNS := Lib.hid (show (noL lns).length ≤ 900000 by have := noL_len lns; omega)
  have HLR := Lib.hid (show (noL lar).length ≤ 900000 by have := noL_len lar; omega)
  have HP := Lib.hid ((bm_start w i0 f0 (.slice xa l.length xc) (.slice aa la ac) (.slice na ln nc) (.slice ra lr rc) hN).later (Below.refl _ _).drew)
  clear hq h2 h3 h4 h1 hm hl hms hla hln hlr
  go_enter Tryz.func12, Tryz.ntmps12
  go_wp2_with fail
  refine wp_region_tilk (S := (fun wx => wx.cell? ⟨N, 3, none⟩ = some (.slice aa la ac) ∧ wx.cell? ⟨N, 4, none⟩ = some (.slice na ln nc) ∧ wx.cell? ⟨N, 5, none⟩ = some (.slice ra lr rc))) [10, 11, 12, 13, 14] (by kernel_rfl) ⟨HP.out.x.c 3 (by simp), HP.out.x.c 4 (by simp), HP.out.x.c 5 (by simp)⟩ (fun hHeld => ?_)
  refine tilk_take (i := 0) (oi := { dst := some 3, op := Op.fieldAddr 25 (Operand.tmp 1) 3, type := 0, pos := "edns.go:51", after := #[], guard := none }) (v := ?_) rfl (by kernel_rfl) (by kernel_rfl) (by kernel_rfl) (fun _ _ _ h => h) (Or.inl ⟨by rfl, ?_⟩) (by assumption) ?_
  rotate_left 1
  · intro w hSw; (try dsimp only at hSw); go_simp; try (with_reducible rfl)
  try simp only [Act.put, List.setIfInBounds_toArray, List.set_cons_zero, List.set_cons_succ]
  refine tilk_take (i := 1) (oi := { dst := some 4, op := Op.load 23 (Operand.tmp 3), type := 23, pos := "edns.go:51", after := #[{ on := 0, ground := Ground.data }], guard := none }) (v := ?_) rfl (by kernel_rfl) (by kernel_rfl) (by kernel_rfl) (fun _ _ _ h => h) (Or.inl ⟨by rfl, ?_⟩) (by assumption) ?_
  rotate_left 1
  · intro w hSw; (try dsimp only at hSw); go_simp; try (with_reducible rfl)
  try simp only [Act.put, List.setIfInBounds_toArray, List.set_cons_zero, List.set_cons_succ]
  refine tilk_take (i := 3) (oi := { dst := some 6, op := Op.fieldAddr 25 (Operand.tmp 1) 4, type := 0, pos := "edns.go:51", after := #[], guard := none }) (v := ?_) rfl (by kernel_rfl) (by kernel_rfl) (by kernel_rfl) (fun _ _ _ h => h) (Or.inl ⟨by rfl, ?_⟩) (by assumption) ?_
  rotate_left 1
  · intro w hSw; (try dsimp only at hSw); go_simp; try (with_reducible rfl)
  try simp only [Act.put, List.setIfInBounds_toArray, List.set_cons_zero, List.set_cons_succ]
  refine tilk_take (i := 4) (oi := { dst := some 7, op := Op.load 23 (Operand.tmp 6), type := 23, pos := "edns.go:51", after := #[{ on := 3, ground := Ground.data }], guard := none }) (v := ?_) rfl (by kernel_rfl) (by kernel_rfl) (by kernel_rfl) (fun _ _ _ h => h) (Or.inl ⟨by rfl, ?_⟩) (by assumption) ?_
  rotate_left 1
  · intro w hSw; (try dsimp only at hSw); go_simp; try (with_reducible rfl)
  try simp only [Act.put, List.setIfInBounds_toArray, List.set_cons_zero, List.set_cons_succ]
  refine tilk_take (i := 6) (oi := { dst := some 9, op := Op.fieldAddr 25 (Operand.tmp 1) 5, type := 0, pos := "edns.go:51", after := #[], guard := none }) (v := ?_) rfl (by kernel_rfl) (by kernel_rfl) (by kernel_rfl) (fun _ _ _ h => h) (Or.inl ⟨by rfl, ?_⟩) (by assumption) ?_
  rotate_left 1
  · intro w hSw; (try dsimp only at hSw); go_simp; try (with_reducible rfl)
  try simp only [Act.put, List.setIfInBounds_toArray, List.set_cons_zero, List.set_cons_succ]
  refine tilk_take (i := 7) (oi := { dst := some 10, op := Op.load 23 (Operand.tmp 9), type := 23, pos := "edns.go:51", after := #[{ on := 6, ground := Ground.data }], guard := none }) (v := ?_) rfl (by kernel_rfl) (by kernel_rfl) (by kernel_rfl) (fun _ _ _ h => h) (Or.inl ⟨by rfl, ?_⟩) (by assumption) ?_
  rotate_left 1
  · intro w hSw; (try dsimp only at hSw); go_simp; try (with_reducible rfl)
  try simp only [Act.put, List.setIfInBounds_toArray, List.set_cons_zero, List.set_cons_succ]
  refine tilk_ready (rs := [2]) (by kernel_rfl) (by simp) ?_
  refine TilkAll.cons (o := { dst := some 5, op := Op.call { callee := Callee.value (Operand.func 26), args := #[Operand.tmp 4], argTypes := #[23] }, type := 23, pos := "edns.go:51", after := #[{ on := 1, ground := Ground.data }], guard := none }) rfl (fun K hK => ?_) (TilkAll.nil)
  go_simp
  refine (HCA.out _ HP.out.bel).mono ?_; rintro e w1 ⟨va, rfl, ho, hb⟩
  obtain ⟨ava, cva, rfl⟩ := ho.shape
  have HA := Lib.hid (show Kp w1 (N + 2) _ _ from ho.base HP.out.size)
  replace HP := Lib.hid (HP.out.later hb)
  clear ho hb
  try go_wp2_with fail
  refine hK.out _ _ ⟨HP.out.x.c 3 (by simp), HP.out.x.c 4 (by simp), HP.out.x.c 5 (by simp)⟩ (fun hHeld => ?_)
  clear hK K
  try simp only [Act.put, List.setIfInBounds_toArray, List.set_cons_zero, List.set_cons_succ]
  refine tilk_take (i := 9) (oi := { dst := some 12, op := Op.fieldAddr 25 (Operand.tmp 1) 3, type := 0, pos := "edns.go:51", after := #[{ on := 0, ground := Ground.phase }, { on := 1, ground := Ground.phase }, { on := 2, ground := Ground.phase }, { on := 3, ground := Ground.phase }, { on := 4, ground := Ground.phase }, { on := 5, ground := Ground.textOnly Departure.lateStoresUnsure }, { on := 6, ground := Ground.phase }, { on := 7, ground := Ground.phase }, { on := 8, ground := Ground.textOnly Departure.lateStoresUnsure }], guard := none }) (v := ?_) rfl (by kernel_rfl) (by kernel_rfl) (by kernel_rfl) (fun _ _ _ h => h) (Or.inl ⟨by rfl, ?_⟩) (by assumption) ?_
  rotate_left 1
  · intro w hSw; (try dsimp only at hSw); go_simp; try (with_reducible rfl)
  try simp only [Act.put, List.setIfInBounds_toArray, List.set_cons_zero, List.set_cons_succ]
  refine tilk_ready (rs := [5]) (by kernel_rfl) (by simp) ?_
  refine TilkAll.cons (o := { dst := some 8, op := Op.call { callee := Callee.value (Operand.func 26), args := #[Operand.tmp 7], argTypes := #[23] }, type := 23, pos := "edns.go:51", after := #[{ on := 4, ground := Ground.data }, { on := 2, ground := Ground.chain }], guard := none }) rfl (fun K hK => ?_) (TilkAll.nil)
  go_simp
  refine (HCN.out _ HP.out.bel).mono ?_; rintro e w2 ⟨vn, rfl, ho, hb⟩
  obtain ⟨avn, cvn, rfl⟩ := ho.shape
  have HNN2 := Lib.hid (show Kp w2 (N + 2) _ _ from ho.base HP.out.size)
  replace HP := Lib.hid (HP.out.later hb)
  replace HA := Lib.hid (HA.out.below hb)
  clear ho hb
  try go_wp2_with fail
  refine hK.out _ _ ⟨HP.out.x.c 3 (by simp), HP.out.x.c 4 (by simp), HP.out.x.c 5 (by simp)⟩ (fun hHeld => ?_)
  clear hK K
  try simp only [Act.put, List.setIfInBounds_toArray, List.set_cons_zero, List.set_cons_succ]
  refine tilk_ready (rs := [8]) (by kernel_rfl) (by simp) ?_
  refine TilkAll.cons (o := { dst := some 11, op := Op.call { callee := Callee.value (Operand.func 26), args := #[Operand.tmp 10], argTypes := #[23] }, type := 23, pos := "edns.go:51", after := #[{ on := 7, ground := Ground.data }, { on := 5, ground := Ground.chain }], guard := none }) rfl (fun K hK => ?_) (TilkAll.nil)
  go_simp
  refine (HCR.out _ HP.out.bel).mono ?_; rintro e w3 ⟨vr, rfl, ho, hb⟩
  obtain ⟨avr, cvr, rfl⟩ := ho.shape
  have HR := Lib.hid (show Kp w3 (N + 2) _ _ from ho.base HP.out.size)
  replace HP := Lib.hid (HP.out.later hb)
  replace HA := Lib.hid (HA.out.below hb)
  replace HNN2 := Lib.hid (HNN2.out.below hb)
  clear ho hb
  try go_wp2_with fail
  refine hK.out _ _ ⟨HP.out.x.c 3 (by simp), HP.out.x.c 4 (by simp), HP.out.x.c 5 (by simp)⟩ (fun hHeld => ?_)
  clear hK K
  try simp only [Act.put, List.setIfInBounds_toArray, List.set_cons_zero, List.set_cons_succ]
  refine tilk_ready (rs := [10]) (by kernel_rfl) (by simp) ?_
  refine TilkAll.last (i := 10) (o := { dst := none, op := Op.store 23 (Operand.tmp 12) (Operand.tmp 5), type := 0, pos := "edns.go:51", after := #[{ on := 9, ground := Ground.data }, { on := 2, ground := Ground.data }, { on := 8, ground := Ground.chain }, { on := 0, ground := Ground.phase }, { on := 1, ground := Ground.phase }, { on := 2, ground := Ground.phase }, { on := 3, ground := Ground.phase }, { on := 4, ground := Ground.phase }, { on := 5, ground := Ground.textOnly Departure.lateStoresUnsure }, { on := 6, ground := Ground.phase }, { on := 7, ground := Ground.phase }, { on := 8, ground := Ground.textOnly Departure.lateStoresUnsure }], guard := none }) rfl (fun K hK => ?_) (TilkAll.nil)
  obtain ⟨r0, r1, r2, r3, r4, r5⟩ := HP.out.x.six
  have fz := HP.out.x.fz
  go_simp
  clear r0 r1 r2 r3 r4 r5 fz
  replace HP := Lib.hid (HP.out.put3 (.slice ava (noL lan).length cva))
  replace HA := Lib.hid (HA.out.aside (bm_side _ N 3 (.slice ava (noL lan).length cva)) (fun k hk => by omega))
  replace HNN2 := Lib.hid (HNN2.out.aside (bm_side _ N 3 (.slice ava (noL lan).length cva)) (fun k hk => by omega))
  replace HR := Lib.hid (HR.out.aside (bm_side _ N 3 (.slice ava (noL lan).length cva)) (fun k hk => by omega))
  refine hK.out _ _ trivial (fun hHeld => ?_)
  clear hK K
  try simp only [Act.put, List.setIfInBounds_toArray, List.set_cons_zero, List.set_cons_succ]
  refine tilk_ready (rs := [11]) (by kernel_rfl) (by simp) ?_
  refine TilkAll.last (i := 11) (o := { dst := some 13, op := Op.fieldAddr 25 (Operand.tmp 1) 4, type := 0, pos := "edns.go:51", after := #[{ on := 0, ground := Ground.phase }, { on := 1, ground := Ground.phase }, { on := 2, ground := Ground.phase }, { on := 3, ground := Ground.phase }, { on := 4, ground := Ground.phase }, { on := 5, ground := Ground.phase }, { on := 6, ground := Ground.phase }, { on := 7, ground := Ground.phase }, { on := 8, ground := Ground.textOnly Departure.lateStoresUnsure }, { on := 9, ground := Ground.phase }, { on := 10, ground := Ground.phase }], guard := none }) rfl (fun K hK => ?_) (TilkAll.nil)
  go_simp
  refine hK.out _ _ trivial (fun hHeld => ?_)
  clear hK K
  try simp only [Act.put, List.setIfInBounds_toArray, List.set_cons_zero, List.set_cons_succ]
  refine tilk_ready (rs := [12]) (by kernel_rfl) (by simp) ?_
  refine TilkAll.last (i := 12) (o := { dst := none, op := Op.store 23 (Operand.tmp 13) (Operand.tmp 8), type := 0, pos := "edns.go:51", after := #[{ on := 11, ground := Ground.data }, { on := 5, ground := Ground.data }, { on := 10, ground := Ground.chain }, { on := 0, ground := Ground.phase }, { on := 1, ground := Ground.phase }, { on := 2, ground := Ground.phase }, { on := 3, ground := Ground.phase }, { on := 4, ground := Ground.phase }, { on := 5, ground := Ground.phase }, { on := 6, ground := Ground.phase }, { on := 7, ground := Ground.phase }, { on := 8, ground := Ground.textOnly Departure.lateStoresUnsure }, { on := 9, ground := Ground.phase }, { on := 10, ground := Ground.phase }], guard := none }) rfl (fun K hK => ?_) (TilkAll.nil)
  obtain ⟨r0, r1, r2, r3, r4, r5⟩ := HP.out.x.six
  have fz := HP.out.x.fz
  go_simp
  clear r0 r1 r2 r3 r4 r5 fz
  replace HP := Lib.hid (HP.out.put4 (.slice avn (noL lns).length cvn))
  replace HA := Lib.hid (HA.out.aside (bm_side _ N 4 (.slice avn (noL lns).length cvn)) (fun k hk => by omega))
  replace HNN2 := Lib.hid (HNN2.out.aside (bm_side _ N 4 (.slice avn (noL lns).length cvn)) (fun k hk => by omega))
  replace HR := Lib.hid (HR.out.aside (bm_side _ N 4 (.slice avn (noL lns).length cvn)) (fun k hk => by omega))
  refine hK.out _ _ trivial (fun hHeld => ?_)
  clear hK K
  try simp only [Act.put, List.setIfInBounds_toArray, List.set_cons_zero, List.set_cons_succ]
  refine tilk_ready (rs := [13]) (by kernel_rfl) (by simp) ?_
  refine TilkAll.last (i := 13) (o := { dst := some 14, op := Op.fieldAddr 25 (Operand.tmp 1) 5, type := 0, pos := "edns.go:51", after := #[{ on := 0, ground := Ground.phase }, { on := 1, ground := Ground.phase }, { on := 2, ground := Ground.phase }, { on := 3, ground := Ground.phase }, { on := 4, ground := Ground.phase }, { on := 5, ground := Ground.phase }, { on := 6, ground := Ground.phase }, { on := 7, ground := Ground.phase }, { on := 8, ground := Ground.phase }, { on := 9, ground := Ground.phase }, { on := 10, ground := Ground.phase }, { on := 11, ground := Ground.phase }, { on := 12, ground := Ground.phase }], guard := none }) rfl (fun K hK => ?_) (TilkAll.nil)
  go_simp
  refine hK.out _ _ trivial (fun hHeld => ?_)
  clear hK K
  try simp only [Act.put, List.setIfInBounds_toArray, List.set_cons_zero, List.set_cons_succ]
  refine tilk_ready (rs := [14]) (by kernel_rfl) (by simp) ?_
  refine TilkAll.last (i := 14) (o := { dst := none, op := Op.store 23 (Operand.tmp 14) (Operand.tmp 11), type := 0, pos := "edns.go:51", after := #[{ on := 13, ground := Ground.data }, { on := 8, ground := Ground.data }, { on := 12, ground := Ground.chain }, { on := 0, ground := Ground.phase }, { on := 1, ground := Ground.phase }, { on := 2, ground := Ground.phase }, { on := 3, ground := Ground.phase }, { on := 4, ground := Ground.phase }, { on := 5, ground := Ground.phase }, { on := 6, ground := Ground.phase }, { on := 7, ground := Ground.phase }, { on := 8, ground := Ground.phase }, { on := 9, ground := Ground.phase }, { on := 10, ground := Ground.phase }, { on := 11, ground := Ground.phase }, { on := 12, ground := Ground.phase }], guard := none }) rfl (fun K hK => ?_) (TilkAll.nil)
  obtain ⟨r0, r1, r2, r3, r4, r5⟩ := HP.out.x.six
  have fz := HP.out.x.fz
  go_simp
  clear r0 r1 r2 r3 r4 r5 fz
  replace HP := Lib.hid (HP.out.put5 (.slice avr (noL lar).length cvr))
  replace HA := Lib.hid (HA.out.aside (bm_side _ N 5 (.slice avr (noL lar).length cvr)) (fun k hk => by omega))
  replace HNN2 := Lib.hid (HNN2.out.aside (bm_side _ N 5 (.slice avr (noL lar).length cvr)) (fun k hk => by omega))
  replace HR := Lib.hid (HR.out.aside (bm_side _ N 5 (.slice avr (noL lar).length cvr)) (fun k hk => by omega))
  refine hK.out _ _ trivial (fun hHeld => ?_)
  clear hK K
  try simp only [Act.put, List.setIfInBounds_toArray, List.set_cons_zero, List.set_cons_succ]
  refine tilk_done (by kernel_rfl) ?_ _
  clear hHeld
  obtain ⟨WE, hWE⟩ : ∃ X, ((w3.setCell ⟨N, 3, none⟩ (.slice ava (noL lan).length cva)).setCell ⟨N, 4, none⟩ (.slice avn (noL lns).length cvn)).setCell ⟨N, 5, none⟩ (.slice avr (noL lar).length cvr) = X := ⟨_, rfl⟩
  rw [hWE] at HP HA HNN2 HR ⊢
  clear hWE
  have hse := HP.out.size
  obtain ⟨r0, r1, r2, r3, r4, r5⟩ := HP.out.x.six
  obtain ⟨z0, z1, z2, z3, z4, z5⟩ := HP.out.z.six
  have fy := HP.out.z.fz
  have hmg : Mg WE WE.heap.size (.agg #[.int .i64 i0, .int .i64 f0, .slice xa l.length xc, .slice ava (noL lan).length cva, .slice avn (noL lns).length cvn, .slice avr (noL lar).length cvr]) ⟨i0, f0, l, noL lan, noL lns, noL lar⟩ :=
    ⟨_, _, _, _, rfl, (HQ.out _ HP.out.bel).wide (by have := HP.out.size; have := HHI.out; omega), HA.out.sr (by have := HLA.out; omega), HNN2.out.sr (by have := HLNS.out; omega), HR.out.sr (by have := HLR.out; omega)⟩
  have HOW := Lib.hid (ownMild_any hmg (Nat.le_refl _) HMS.out)
  clear hmg HA HNN2 HR HCA HCN HCR
  go_wp2_with fail
  refine HOW.out.mono ?_; rintro e w7 ⟨v, rfl, ho, hb⟩
  replace HP := Lib.hid (HP.out.later hb)
  have HO := Lib.hid ho
  have HSE := Lib.hid (show N + 2 ≤ WE.heap.size by assumption)
  obtain ⟨o1, o2, o3, o4, rfl, j1, j2, j3, j4⟩ := ho
  obtain ⟨b1, e1, rfl⟩ := row_shape j1
  obtain ⟨b2, e2, rfl⟩ := row_shape j2
  obtain ⟨b3, e3, rfl⟩ := row_shape j3
  obtain ⟨b4, e4, rfl⟩ := row_shape j4
  clear r0 r1 r2 r3 r4 r5 z0 z1 z2 z3 z4 z5 fy hb j1 j2 j3 j4
  obtain ⟨z0, z1, z2, z3, z4, z5⟩ := HP.out.z.six
  have fy := HP.out.z.fz
  go_wp2_with fail
  clear z0 z1 z2 z3 z4 z5 fy
  have hk := HP.out.fin (.int .i64 i0) (.int .i64 f0) (.slice b1 l.length e1) (.slice b2 (noL lan).length e2) (.slice b3 (noL lns).length e3) (.slice b4 (noL lar).length e4)
  obtain ⟨m0, m1, m2, m3, m4, m5⟩ := hk.2.1.six
  have HF := Lib.hid (And.intro hk.1 (HO.out.aside hk.2.2 (fun k hk => by have := HSE.out; omega)))
  unfold put6 at m0 m1 m2 m3 m4 m5 HF
  clear hk
  refine bodyPost_ret (v := .agg #[.int .i64 i0, .int .i64 f0, .slice b1 l.length e1, .slice b2 (noL lan).length e2, .slice b3 (noL lns).length e3, .slice b4 (noL lar).length e4]) (by simp [results, Tryz.results12, go_sem, m0, m1, m2, m3, m4, m5]) rfl ⟨_, rfl, ?_, ?_⟩
  · first | exact HF.out.2.base (by have := HSE.out; omega) | (rw [hN]; exact HF.out.2.base (by have := HSE.out; omega))
  · first | exact HF.out.1 | (rw [hN]; exact HF.out.1)
end Go.Proofs.YtpdaekgldgoalaaGreat

/-
  The record of what is said: two, record.
-/
namespace Go.Proofs.YtpdaekgldgoalaaGreat
open Go.RowKit Go.Shelf
set_option linter.unusedVariables false
set_option linter.unusedSimpArgs false
set_option maxRecDepth 100000

theorem b2_len (n : Int) : (b2 n).length = 2 := rfl
theorem otB_len (x : Ot) : (otB x).length = 4 + x.d.length := by unfold otB; rw [List.length_append, List.length_append, b2_len, b2_len]; omega
theorem otsB_len : ∀ l : List Ot, (otsB l).length = szO l
  | [] => rfl
  | x :: r => by
    have ih := otsB_len r
    have e : otsB (x :: r) = otB x ++ otsB r := rfl
    rw [e, List.length_append, otB_len, ih]
    simp [szO]
theorem otsB_app (a b : List Ot) : otsB (a ++ b) = otsB a ++ otsB b := List.flatMap_append
theorem otsB_one (x : Ot) : otsB [x] = b2 x.c ++ (b2 x.d.length ++ x.d) := by simp [otsB, otB]

/-- Two bytes of a number that fits into them. -/
theorem two9_any (n : Int) (w : World) (h0 : 0 ≤ n) (h1 : n ≤ 65535) : Calls Tryz.prog 36 #[.int .i64 n] w fun e w' =>
    ∃ g, e = .returned (.slice (some ⟨g, 0, none⟩) 2 2) ∧ (∀ j, j < (b2 n).length → w'.cell? ⟨g, j, none⟩ = some (.int .u8 (((b2 n).getD j 0).toNat : Nat))) ∧ w.heap.size ≤ g ∧ Below w.heap.size w w' := by
  have H := Lib.hid (put16_any n w)
  go_enter Tryz.func36, Tryz.ntmps36
  go_wp2_with fail
  refine H.out.mono ?_; rintro e w1 ⟨v, g, rfl, ho, hg, _, hb⟩
  have eL : putL2 n = [n / 256, n % 256] := by unfold putL2; rw [if_pos ⟨h0, h1⟩]
  rw [eL] at ho
  rcases ho with ⟨_, h⟩ | ⟨rfl, hcell⟩
  · cases h
  · have HB := Lib.hid hb
    have HC := Lib.hid (show ∀ j, j < (b2 n).length → w1.cell? ⟨g, j, none⟩ = some (.int .u8 (((b2 n).getD j 0).toNat : Nat)) by
      intro j hj
      rw [b2_len] at hj
      have e1 : (UInt8.ofNat (n / 256).toNat).toNat = (n / 256).toNat := by rw [UInt8.toNat_ofNat']; omega
      have e2 : (UInt8.ofNat (n % 256).toNat).toNat = (n % 256).toNat := by rw [UInt8.toNat_ofNat']; omega
      have a1 : ((n / 256).toNat : Int) = n / 256 := by omega
      have a2 : ((n % 256).toNat : Int) = n % 256 := by omega
      match j, hj with
      | 0, _ => simp [World.cell?, hcell, b2, e1, a1]
      | 1, _ => simp [World.cell?, hcell, b2, e2, a2])
    clear hb hcell
    go_wp2_with fail
    go_ret
    exact ⟨g, rfl, HC.out, hg, HB.out⟩

/-- The record in its box while its data are being made. -/
structure Rcd (w wr : World) (N : Nat) (es T : Int) (v : Value) (b : List UInt8) : Prop where
  bel : Below N w wr
  x : Cel wr (N + 2) [.string ⟨#[0]⟩, .int .i64 41, .int .i64 es, .int .i64 T, .string ⟨#[]⟩]
  z : Cel wr (N + 1) [.string ⟨#[]⟩, .int .i64 0, .int .i64 0, .int .i64 0, .string ⟨#[]⟩]
  own : OwnU wr (N + 3) v b
  size : N + 3 ≤ wr.heap.size
section
variable {w wr w' : World} {N : Nat} {es T : Int} {v : Value} {b : List UInt8}
theorem Rcd.later (h : Rcd w wr N es T v b) (hb : Below wr.heap.size wr w') : Rcd w w' N es T v b :=
  ⟨below_aside h.bel (Aside.of_all hb : Aside (fun _ => False) wr w') (fun k hk => ⟨by have := h.size; omega, id⟩), h.x.below (by simp) hb, h.z.below (by simp) hb, h.own.below hb, Nat.le_trans h.size hb.size⟩
theorem Rcd.grown {v' : Value} {b' : List UInt8} (h : Rcd w wr N es T v b) (hg : wr.grownBy w' v.ownBlock) (ho : OwnU w' (N + 3) v' b') : Rcd w w' N es T v' b' := by
  have ha : Aside (fun k => N + 3 ≤ k) wr w' := Aside.grown hg fun k hk => h.own.row k hk
  exact ⟨below_aside h.bel ha (fun k hk => ⟨by have := h.size; omega, by omega⟩), h.x.aside (by simp) ha (by omega), h.z.aside (by simp) ha (by omega), ho, Nat.le_trans h.size ha.size⟩
theorem Rcd.app (h : Rcd w wr N es T v b) (l : List UInt8) (g c : Nat) (hx : ∀ j, j < l.length → wr.cell? ⟨g, j, none⟩ = some (.int .u8 ((l.getD j 0).toNat : Nat))) (hb : b.length + l.length ≤ 1000000) :
    ∃ a' c' w', (Builtin.append_ #[43, 43] 43 #[v, .slice (some ⟨g, 0, none⟩) l.length c]).run Tryz.prog wr = .ok (.slice a' (b.length + l.length) c') w' ∧ Rcd w w' N es T (.slice a' (b.length + l.length) c') (b ++ l) ∧ Aside (fun k => v.ownBlock = some k) wr w' := by
  obtain ⟨a', c', w', h1, h2, h3⟩ := run_appU (N + 3) v b l g c h.own hx hb h.size
  exact ⟨a', c', w', h1, h.grown h3 h2, Aside.grown h3 fun _ hk => hk⟩
theorem Rcd.appS (h : Rcd w wr N es T v b) (l : List UInt8) (hb : b.length + l.length ≤ 1000000) :
    ∃ a' c' w', (Builtin.append_ #[43, 9] 43 #[v, .string (bs l)]).run Tryz.prog wr = .ok (.slice a' (b.length + l.length) c') w' ∧ Rcd w w' N es T (.slice a' (b.length + l.length) c') (b ++ l) := by
  obtain ⟨a', c', w', h1, h2, h3⟩ := run_appS (N + 3) v b l h.own hb h.size
  exact ⟨a', c', w', h1, h.grown h3 h2⟩
end
theorem cel_pair (w : World) (a b : Value) (T : TypeId) : Cel (w.alloc (.cells #[a, b] T)) w.heap.size [a, b] := ⟨fun j hj => by
    match j, hj with
    | 0, _ => simp [go_sem]
    | 1, _ => simp [go_sem], fun j => by simp [go_sem]⟩
theorem Cel.two {w : World} {q : Nat} {a b : Value} (h : Cel w q [a, b]) : w.cell? ⟨q, 0, none⟩ = some a ∧ w.cell? ⟨q, 1, none⟩ = some b := ⟨h.c 0 (by simp), h.c 1 (by simp)⟩

/-- An option in a box. -/
def Obx (w : World) (g : Nat) (x : Ot) : Prop := w.heap[g]? = some (.cells #[.int .i64 x.c, .string (bs x.d)] 58)
section
variable {w w' : World} {g : Nat} {x : Ot}
theorem Obx.lt (h : Obx w g x) : g < w.heap.size := (Array.getElem?_eq_some_iff.mp h).1
theorem Obx.aside {G : Nat → Prop} (h : Obx w g x) (ha : Aside G w w') (hG : ¬ G g) : Obx w' g x := (ha.block g h.lt hG).trans h
theorem Obx.below (h : Obx w g x) (hb : Below w.heap.size w w') : Obx w' g x := h.aside (Aside.of_all hb : Aside (fun _ => False) w w') id
theorem Obx.two (h : Obx w g x) : w.cell? ⟨g, 0, none⟩ = some (.int .i64 x.c) ∧ w.cell? ⟨g, 1, none⟩ = some (.string (bs x.d)) := by
  unfold Obx at h
  exact ⟨by simp [World.cell?, h], by simp [World.cell?, h]⟩
theorem Obx.new (w : World) (x : Ot) : Obx (w.alloc (.cells #[.int .i64 x.c, .string (bs x.d)] 58)) w.heap.size x := World.alloc_heap_new w _
theorem Obx.apart {B : Nat} {v : Value} {l : List UInt8} (h : Obx w g x) (ho : OwnU w B v l) : ¬ v.ownBlock = some g := by
  rcases ho.2 with ⟨rfl, _⟩ | ⟨g', cap, cur, fz, rfl, _, hh, _⟩
  · simp [Value.ownBlock]
  · intro he
    have e : g' = g := by simpa [Value.ownBlock] using he
    subst e
    unfold Obx at h
    rw [h] at hh
    injection hh with hh
    injection hh with _ hh
    cases hh
end

/-- The parts of a TTL. -/
theorem ttl_or (x v : Int) (x0 : 0 ≤ x) (x1 : x ≤ 127) (v0 : 0 ≤ v) (v1 : v ≤ 255) : bits .or .i64 (x * 16777216) (v * 65536) = x * 16777216 + v * 65536 := by
  show IntKind.i64.wrap ((BitVec.ofInt 64 (x * 16777216) ||| BitVec.ofInt 64 (v * 65536)).toNat : Nat) = x * 16777216 + v * 65536
  have e1 : (BitVec.ofInt 64 (x * 16777216)).toNat = 2 ^ 24 * x.toNat := by rw [BitVec.toNat_ofInt]; omega
  have e2 : (BitVec.ofInt 64 (v * 65536)).toNat = (v * 65536).toNat := by rw [BitVec.toNat_ofInt]; omega
  rw [BitVec.toNat_or, e1, e2, ← Nat.two_pow_add_eq_or_of_lt (by omega), IntKind.wrap_i64]
  omega
theorem ttl_or2 (x v : Int) (x0 : 0 ≤ x) (x1 : x ≤ 127) (v0 : 0 ≤ v) (v1 : v ≤ 255) : bits .or .i64 (x * 16777216 + v * 65536) 32768 = x * 16777216 + v * 65536 + 32768 := by
  show IntKind.i64.wrap ((BitVec.ofInt 64 (x * 16777216 + v * 65536) ||| BitVec.ofInt 64 32768).toNat : Nat) = x * 16777216 + v * 65536 + 32768
  have e1 : (BitVec.ofInt 64 (x * 16777216 + v * 65536)).toNat = 2 ^ 16 * (x * 256 + v).toNat := by rw [BitVec.toNat_ofInt]; omega
  have e2 : (BitVec.ofInt 64 32768).toNat = 32768 := by decide
  rw [BitVec.toNat_or, e1, e2, ← Nat.two_pow_add_eq_or_of_lt (by omega), IntKind.wrap_i64]
  omega
theorem chkE_in {e : Ed} (h : chkE e = 0) : (0 ≤ e.s ∧ e.s ≤ 65535) ∧ (0 ≤ e.x ∧ e.x ≤ 127) ∧ (0 ≤ e.v ∧ e.v ≤ 255) ∧ (∀ x ∈ e.o, 0 ≤ x.c ∧ x.c ≤ 65535) ∧ szO e.o ≤ 65535 := by
  unfold chkE at h
  split at h
  · rename_i hc
    obtain ⟨h0, h1, h2, h3⟩ := hc
    unfold bnd at h0 h1 h2
    simp only [Bool.and_eq_true, decide_eq_true_eq] at h0 h1 h2
    refine ⟨h0, h1, h2, fun x hx => ?_, ?_⟩
    · have := List.all_eq_true.mp h3 x hx
      unfold bnd at this
      simpa using this
    · split at h
      · cases h
      · omega
  · cases h
theorem szO_mem {l : List Ot} {x : Ot} (h : x ∈ l) : x.d.length + 4 ≤ szO l := by
  induction l with
  | nil => cases h
  | cons y r ih =>
    have e : szO (y :: r) = 4 + y.d.length + szO r := by simp [szO]
    rcases List.mem_cons.mp h with rfl | h
    · omega
    · have := ih h; omega

set_option maxHeartbeats 4000000 in
theorem record_any {w : World} {hi : Nat} {u : Value} {e : Ed} (h : Eg w hi u e) (h1 : hi ≤ w.heap.size) (hc : chkE e = 0) :
    Calls Tryz.prog 21 #[u] w (Tells w (.agg #[.string (bs (edR e).n), .int .i64 (edR e).t, .int .i64 (edR e).c, .int .i64 (edR e).l, .string (bs (edR e).d)])) := by
  obtain ⟨hin0, hin1, hin2, hin3, hsz⟩ := chkE_in hc
  obtain ⟨o, rfl, hs⟩ := h
  obtain ⟨es, ex, ev, eb, l⟩ := e
  unfold edR
  simp only at hs hin0 hin1 hin2 hin3 hsz ⊢
  obtain ⟨TT, hTT⟩ : ∃ T, ex * 16777216 + ev * 65536 + (if eb = true then 32768 else 0) = T := ⟨_, rfl⟩
  obtain ⟨DD, hDD⟩ : ∃ d, otsB l = d := ⟨_, rfl⟩
  rw [hTT, hDD]
  have HDD := Lib.hid hDD
  have hwa : wrap64 (ex * 16777216) = ex * 16777216 := IntWalk.wrap64_in _ ⟨by omega, by omega⟩
  have hwb : wrap64 (ev * 65536) = ev * 65536 := IntWalk.wrap64_in _ ⟨by omega, by omega⟩
  have hor := ttl_or ex ev hin1.1 hin1.2 hin2.1 hin2.2
  have hor2 := ttl_or2 ex ev hin1.1 hin1.2 hin2.1 hin2.2
  obtain ⟨A, hA⟩ : ∃ A, ex * 16777216 = A := ⟨_, rfl⟩
  obtain ⟨Bv, hBv⟩ : ∃ A, ev * 65536 = A := ⟨_, rfl⟩
  obtain ⟨T, hT⟩ : ∃ A, ex * 16777216 + ev * 65536 = A := ⟨_, rfl⟩
  obtain ⟨T2, hT2⟩ : ∃ A, ex * 16777216 + ev * 65536 + 32768 = A := ⟨_, rfl⟩
  rw [hT2, hT] at hor2
  rw [hT, hA, hBv] at hor
  have HTT := Lib.hid (show TT = if eb = true then T2 else T by rw [← hTT, ← hT2, ← hT]; cases eb <;> simp)
  rw [hA] at hwa
  rw [hBv] at hwb
  have HN := Lib.hid (Lst.len hs)
  have HS := Lib.hid (show SO w hi o l from hs)
  have HI3 := Lib.hid hin3
  have HSZ := Lib.hid hsz
  obtain ⟨a, c, rfl⟩ := Lst.shape hs
  obtain ⟨N, hN⟩ : ∃ N, w.heap.size = N := ⟨_, rfl⟩
  have HHI := Lib.hid (show hi ≤ N by omega)
  clear hs h1 hc hin0 hin1 hin2 hin3 hsz hTT hDD hT hT2
  cases eb with
  | true =>
    replace HTT := Lib.hid (show TT = T2 from HTT.out)
    have hx0 := cel_new w (.int .i64 es) (.int .i64 ex) (.int .i64 ev) (.bool true) (.slice a l.length c) 28
    have hz0 := cel_new (w.alloc (.cells #[.int .i64 es, .int .i64 ex, .int .i64 ev, .bool true, .slice a l.length c] 28)) (.string ⟨#[]⟩) (.int .i64 0) (.int .i64 0) (.int .i64 0) (.string ⟨#[]⟩) 52
    have hy0 := cel_new ((w.alloc (.cells #[.int .i64 es, .int .i64 ex, .int .i64 ev, .bool true, .slice a l.length c] 28)).alloc (.cells #[.string ⟨#[]⟩, .int .i64 0, .int .i64 0, .int .i64 0, .string ⟨#[]⟩] 52)) (.string ⟨#[0]⟩) (.int .i64 41) (.int .i64 es) (.int .i64 T2) (.string ⟨#[]⟩) 52
    have hbl : Below w.heap.size w (((w.alloc (.cells #[.int .i64 es, .int .i64 ex, .int .i64 ev, .bool true, .slice a l.length c] 28)).alloc (.cells #[.string ⟨#[]⟩, .int .i64 0, .int .i64 0, .int .i64 0, .string ⟨#[]⟩] 52)).alloc (.cells #[.string ⟨#[0]⟩, .int .i64 41, .int .i64 es, .int .i64 T2, .string ⟨#[]⟩] 52)) := (((Below.refl _ _).alloc (Nat.le_refl _) _).alloc (by simp) _).alloc (by simp; omega) _
    have hz1 := hz0.below (by simp) ((Below.refl _ _).alloc (Nat.le_refl _) (.cells #[.string ⟨#[0]⟩, .int .i64 41, .int .i64 es, .int .i64 T2, .string ⟨#[]⟩] 52))
    simp only [World.size_alloc] at hz1 hy0
    rw [hN] at hz1 hy0 hbl
    have HP := Lib.hid (show Rcd w (((w.alloc (.cells #[.int .i64 es, .int .i64 ex, .int .i64 ev, .bool true, .slice a l.length c] 28)).alloc (.cells #[.string ⟨#[]⟩, .int .i64 0, .int .i64 0, .int .i64 0, .string ⟨#[]⟩] 52)).alloc (.cells #[.string ⟨#[0]⟩, .int .i64 41, .int .i64 es, .int .i64 T2, .string ⟨#[]⟩] 52)) N es T2 (.slice none 0 0) [] from ⟨hbl, hy0, hz1, OwnU.nil _ _, by simp; omega⟩)
    clear hx0 hz0 hy0 hbl hz1
    go_enter Tryz.func21, Tryz.ntmps21
    go_wp2_with fail
    clear hwa hwb hor hor2 hA hBv
    go_loopg [4, 26] l.length (fun g v4 v26 wr => ∃ k : Nat, k + g = l.length ∧ v26 = .int .i64 k ∧ Hid (Rcd w wr N es T2 v4 (otsB (l.take k))))
    case atStart => exact ⟨0, by omega, rfl, by first | exact HP | (rw [hN]; exact HP)⟩
    case round =>
      clear HP
      obtain ⟨k, hk, rfl, HP⟩ := hrel
      have hlen := HN.out
      by_cases hlt : k < l.length
      · obtain ⟨b, off, c2', he, hb, hc⟩ := HS.out.at_ k hlt
        injection he with he hn3 hc3
        clear hn3 hc3
        subst he
        obtain ⟨p0, p1⟩ := hc.keep fun o => HP.out.bel.cell (p := ⟨b, o, none⟩) (Nat.lt_of_lt_of_le hb HHI.out)
        have htk : l.take (k + 1) = l.take k ++ [l[k]] := by rw [List.take_add_one, List.getElem?_eq_getElem hlt]; rfl
        have hin := HI3.out l[k] (List.getElem_mem hlt)
        have hds := szO_mem (List.getElem_mem hlt)
        have hsz1 : szO (l.take k) + szO (l.drop k) = szO l := by rw [← szO_app, List.take_append_drop]
        obtain ⟨x, hx⟩ : ∃ x, l[k] = x := ⟨_, rfl⟩
        rw [hx] at p0 p1 htk hin hds
        have hszl := HSZ.out
        have HTK := Lib.hid (show otsB (l.take (k + 1)) = otsB (l.take k) ++ (b2 x.c ++ (b2 x.d.length ++ x.d)) by rw [htk, otsB_app, otsB_one])
        have hbl := otsB_len (l.take k)
        obtain ⟨bb, hbb⟩ : ∃ b, otsB (l.take k) = b := ⟨_, rfl⟩
        rw [hbb] at HP HTK hbl
        have HL := Lib.hid (show bb.length ≤ 65535 ∧ x.d.length ≤ 65535 by omega)
        have HC1 := Lib.hid (fun wx => two9_any x.c wx hin.1 hin.2)
        have HC2 := Lib.hid (fun wx => two9_any (x.d.length : Nat) wx (by omega) (by omega))
        have hdsz : (bs x.d).size = x.d.length := bs_size x.d
        obtain ⟨g, hg⟩ : ∃ g, wr.heap.size = g := ⟨_, rfl⟩
        have HQ := Lib.hid (show Obx (wr.alloc (.cells #[.int .i64 x.c, .string (bs x.d)] 58)) g x by rw [← hg]; exact Obx.new wr x)
        replace HP := Lib.hid (HP.out.later ((Below.refl wr.heap.size wr).alloc (Nat.le_refl _) (.cells #[.int .i64 x.c, .string (bs x.d)] 58)))
        obtain ⟨av, cv, rfl, _⟩ := HP.out.own.shape
        clear hc hx hb hin hds hsz1 hszl hbl hbb htk
        go_wp2_with fail
        refine (HC1.out _).mono ?_; rintro e w3 ⟨g3, rfl, hc3, hg3, hb⟩
        replace HP := Lib.hid (HP.out.later hb)
        replace HQ := Lib.hid (HQ.out.below hb)
        obtain ⟨a4, c4, w4, hr4, hp4, ha4⟩ := HP.out.app (b2 x.c) g3 2 hc3 (by have := HL.out.1; rw [b2_len]; omega)
        rw [b2_len] at hr4 hp4
        have HR4 := Lib.hid hr4
        replace HQ := Lib.hid (HQ.out.aside ha4 (HQ.out.apart HP.out.own))
        replace HP := Lib.hid hp4
        clear hb hc3 hg3 hr4 hp4 ha4
        obtain ⟨q0, q1⟩ := HQ.out.two
        go_wp2_with (at_builtin; refine wpList_append_run (.tmp 30) (.tmp 33) 43 43 rfl rfl rfl rfl HR4.out ?_)
        refine (HC2.out _).mono ?_; rintro e w5 ⟨g5, rfl, hc5, hg5, hb⟩
        replace HP := Lib.hid (HP.out.later hb)
        replace HQ := Lib.hid (HQ.out.below hb)
        have hbl2 : (bb ++ b2 x.c).length = bb.length + 2 := by rw [List.length_append, b2_len]
        obtain ⟨a6, c6, w6, hr6, hp6, ha6⟩ := HP.out.app (b2 (x.d.length : Nat)) g5 2 hc5 (by have := HL.out.1; rw [hbl2, b2_len]; omega)
        rw [b2_len, hbl2] at hr6 hp6
        have HR6 := Lib.hid hr6
        replace HQ := Lib.hid (HQ.out.aside ha6 (HQ.out.apart HP.out.own))
        replace HP := Lib.hid hp6
        have hbl3 : ((bb ++ b2 x.c) ++ b2 (x.d.length : Nat)).length = bb.length + 2 + 2 := by rw [List.length_append, hbl2, b2_len]
        obtain ⟨a7, c7, w7, hr7, hp7⟩ := HP.out.appS x.d (by have := HL.out; rw [hbl3]; omega)
        rw [hbl3] at hr7 hp7
        have HR7 := Lib.hid hr7
        have HP7 := Lib.hid (show Rcd w w7 N es T2 (.slice a7 (bb.length + 2 + 2 + x.d.length) c7) (otsB (l.take (k + 1))) by rw [HTK.out, ← List.append_assoc, ← List.append_assoc]; exact hp7)
        clear q0 q1 hb hc5 hg5 hbl2 hr6 hp6 ha6 hbl3 hr7 hp7 HP
        obtain ⟨q0, q1⟩ := HQ.out.two
        clear HQ
        go_wp2_with (first | (at_builtin; refine wpList_append_run (.tmp 35) (.tmp 39) 43 43 rfl rfl rfl rfl HR6.out ?_) | (at_builtin; refine wpList_append_run (.tmp 41) (.tmp 43) 43 9 rfl rfl rfl rfl HR7.out ?_))
        go_roundg (l.length - (k + 1))
        case measure => omega
        case rel => exact ⟨k + 1, by omega, by go_num, HP7⟩
      · have t1 : ¬ ((k : Int) < l.length) := by omega
        have hkl : l.take k = l := List.take_of_length_le (by omega)
        rw [hkl, HDD.out] at HP
        obtain ⟨av, cv, rfl, _⟩ := HP.out.own.shape
        have HBK := Lib.hid (back_U HP.out.own)
        obtain ⟨x0, x1, x2, x3, x4⟩ := HP.out.x.five
        obtain ⟨z0, z1, z2, z3, z4⟩ := HP.out.z.five
        have fx := HP.out.x.fz
        have fz := HP.out.z.fz
        have hconv := HBK.out
        clear hkl
        go_wp2_with fail
        clear x0 x1 x2 x3 x4 z0 z1 z2 z3 z4 fx fz hconv
        have hst : Aside (fun k => k = N + 2) wr (wr.setCell ⟨N + 2, 4, none⟩ (.string (bs DD))) := Aside.setCell wr (p := ⟨N + 2, 4, none⟩) _ rfl
        have hz5 := HP.out.z.aside (by simp) hst (by omega)
        have hk := cel_put5 hz5 (.string ⟨#[0]⟩) (.int .i64 41) (.int .i64 es) (.int .i64 T2) (.string (bs DD))
        have hst2 := aside_put5 (wr.setCell ⟨N + 2, 4, none⟩ (.string (bs DD))) (N + 1) (.string ⟨#[0]⟩) (.int .i64 41) (.int .i64 es) (.int .i64 T2) (.string (bs DD))
        have hbF := below_aside (below_aside HP.out.bel hst (fun k hk => ⟨by have := HP.out.size; omega, by omega⟩)) hst2 (fun k hk => ⟨by have := HP.out.size; have := hst.size; omega, by omega⟩)
        obtain ⟨m0, m1, m2, m3, m4⟩ := hk.five
        unfold put5 at m0 m1 m2 m3 m4 hbF
        refine bodyPost_ret (v := .agg #[.string ⟨#[0]⟩, .int .i64 41, .int .i64 es, .int .i64 T2, .string (bs DD)]) (by simp [results, Tryz.results21, go_sem, m0, m1, m2, m3, m4]) rfl ⟨?_, ?_⟩
        · rw [HTT.out]; rfl
        · first | exact hbF | (rw [hN]; exact hbF)
  | false =>
    replace HTT := Lib.hid (show TT = T from HTT.out)
    have hx0 := cel_new w (.int .i64 es) (.int .i64 ex) (.int .i64 ev) (.bool false) (.slice a l.length c) 28
    have hz0 := cel_new (w.alloc (.cells #[.int .i64 es, .int .i64 ex, .int .i64 ev, .bool false, .slice a l.length c] 28)) (.string ⟨#[]⟩) (.int .i64 0) (.int .i64 0) (.int .i64 0) (.string ⟨#[]⟩) 52
    have hy0 := cel_new ((w.alloc (.cells #[.int .i64 es, .int .i64 ex, .int .i64 ev, .bool false, .slice a l.length c] 28)).alloc (.cells #[.string ⟨#[]⟩, .int .i64 0, .int .i64 0, .int .i64 0, .string ⟨#[]⟩] 52)) (.string ⟨#[0]⟩) (.int .i64 41) (.int .i64 es) (.int .i64 T) (.string ⟨#[]⟩) 52
    have hbl : Below w.heap.size w (((w.alloc (.cells #[.int .i64 es, .int .i64 ex, .int .i64 ev, .bool false, .slice a l.length c] 28)).alloc (.cells #[.string ⟨#[]⟩, .int .i64 0, .int .i64 0, .int .i64 0, .string ⟨#[]⟩] 52)).alloc (.cells #[.string ⟨#[0]⟩, .int .i64 41, .int .i64 es, .int .i64 T, .string ⟨#[]⟩] 52)) := (((Below.refl _ _).alloc (Nat.le_refl _) _).alloc (by simp) _).alloc (by simp; omega) _
    have hz1 := hz0.below (by simp) ((Below.refl _ _).alloc (Nat.le_refl _) (.cells #[.string ⟨#[0]⟩, .int .i64 41, .int .i64 es, .int .i64 T, .string ⟨#[]⟩] 52))
    simp only [World.size_alloc] at hz1 hy0
    rw [hN] at hz1 hy0 hbl
    have HP := Lib.hid (show Rcd w (((w.alloc (.cells #[.int .i64 es, .int .i64 ex, .int .i64 ev, .bool false, .slice a l.length c] 28)).alloc (.cells #[.string ⟨#[]⟩, .int .i64 0, .int .i64 0, .int .i64 0, .string ⟨#[]⟩] 52)).alloc (.cells #[.string ⟨#[0]⟩, .int .i64 41, .int .i64 es, .int .i64 T, .string ⟨#[]⟩] 52)) N es T (.slice none 0 0) [] from ⟨hbl, hy0, hz1, OwnU.nil _ _, by simp; omega⟩)
    clear hx0 hz0 hy0 hbl hz1
    go_enter Tryz.func21, Tryz.ntmps21
    go_wp2_with fail
    clear hwa hwb hor hor2 hA hBv
    go_loopg [4, 26] l.length (fun g v4 v26 wr => ∃ k : Nat, k + g = l.length ∧ v26 = .int .i64 k ∧ Hid (Rcd w wr N es T v4 (otsB (l.take k))))
    case atStart => exact ⟨0, by omega, rfl, by first | exact HP | (rw [hN]; exact HP)⟩
    case round =>
      clear HP
      obtain ⟨k, hk, rfl, HP⟩ := hrel
      have hlen := HN.out
      by_cases hlt : k < l.length
      · obtain ⟨b, off, c2', he, hb, hc⟩ := HS.out.at_ k hlt
        injection he with he hn3 hc3
        clear hn3 hc3
        subst he
        obtain ⟨p0, p1⟩ := hc.keep fun o => HP.out.bel.cell (p := ⟨b, o, none⟩) (Nat.lt_of_lt_of_le hb HHI.out)
        have htk : l.take (k + 1) = l.take k ++ [l[k]] := by rw [List.take_add_one, List.getElem?_eq_getElem hlt]; rfl
        have hin := HI3.out l[k] (List.getElem_mem hlt)
        have hds := szO_mem (List.getElem_mem hlt)
        have hsz1 : szO (l.take k) + szO (l.drop k) = szO l := by rw [← szO_app, List.take_append_drop]
        obtain ⟨x, hx⟩ : ∃ x, l[k] = x := ⟨_, rfl⟩
        rw [hx] at p0 p1 htk hin hds
        have hszl := HSZ.out
        have HTK := Lib.hid (show otsB (l.take (k + 1)) = otsB (l.take k) ++ (b2 x.c ++ (b2 x.d.length ++ x.d)) by rw [htk, otsB_app, otsB_one])
        have hbl := otsB_len (l.take k)
        obtain ⟨bb, hbb⟩ : ∃ b, otsB (l.take k) = b := ⟨_, rfl⟩
        rw [hbb] at HP HTK hbl
        have HL := Lib.hid (show bb.length ≤ 65535 ∧ x.d.length ≤ 65535 by omega)
        have HC1 := Lib.hid (fun wx => two9_any x.c wx hin.1 hin.2)
        have HC2 := Lib.hid (fun wx => two9_any (x.d.length : Nat) wx (by omega) (by omega))
        have hdsz : (bs x.d).size = x.d.length := bs_size x.d
        obtain ⟨g, hg⟩ : ∃ g, wr.heap.size = g := ⟨_, rfl⟩
        have HQ := Lib.hid (show Obx (wr.alloc (.cells #[.int .i64 x.c, .string (bs x.d)] 58)) g x by rw [← hg]; exact Obx.new wr x)
        replace HP := Lib.hid (HP.out.later ((Below.refl wr.heap.size wr).alloc (Nat.le_refl _) (.cells #[.int .i64 x.c, .string (bs x.d)] 58)))
        obtain ⟨av, cv, rfl, _⟩ := HP.out.own.shape
        clear hc hx hb hin hds hsz1 hszl hbl hbb htk
        go_wp2_with fail
        refine (HC1.out _).mono ?_; rintro e w3 ⟨g3, rfl, hc3, hg3, hb⟩
        replace HP := Lib.hid (HP.out.later hb)
        replace HQ := Lib.hid (HQ.out.below hb)
        obtain ⟨a4, c4, w4, hr4, hp4, ha4⟩ := HP.out.app (b2 x.c) g3 2 hc3 (by have := HL.out.1; rw [b2_len]; omega)
        rw [b2_len] at hr4 hp4
        have HR4 := Lib.hid hr4
        replace HQ := Lib.hid (HQ.out.aside ha4 (HQ.out.apart HP.out.own))
        replace HP := Lib.hid hp4
        clear hb hc3 hg3 hr4 hp4 ha4
        obtain ⟨q0, q1⟩ := HQ.out.two
        go_wp2_with (at_builtin; refine wpList_append_run (.tmp 30) (.tmp 33) 43 43 rfl rfl rfl rfl HR4.out ?_)
        refine (HC2.out _).mono ?_; rintro e w5 ⟨g5, rfl, hc5, hg5, hb⟩
        replace HP := Lib.hid (HP.out.later hb)
        replace HQ := Lib.hid (HQ.out.below hb)
        have hbl2 : (bb ++ b2 x.c).length = bb.length + 2 := by rw [List.length_append, b2_len]
        obtain ⟨a6, c6, w6, hr6, hp6, ha6⟩ := HP.out.app (b2 (x.d.length : Nat)) g5 2 hc5 (by have := HL.out.1; rw [hbl2, b2_len]; omega)
        rw [b2_len, hbl2] at hr6 hp6
        have HR6 := Lib.hid hr6
        replace HQ := Lib.hid (HQ.out.aside ha6 (HQ.out.apart HP.out.own))
        replace HP := Lib.hid hp6
        have hbl3 : ((bb ++ b2 x.c) ++ b2 (x.d.length : Nat)).length = bb.length + 2 + 2 := by rw [List.length_append, hbl2, b2_len]
        obtain ⟨a7, c7, w7, hr7, hp7⟩ := HP.out.appS x.d (by have := HL.out; rw [hbl3]; omega)
        rw [hbl3] at hr7 hp7
        have HR7 := Lib.hid hr7
        have HP7 := Lib.hid (show Rcd w w7 N es T (.slice a7 (bb.length + 2 + 2 + x.d.length) c7) (otsB (l.take (k + 1))) by rw [HTK.out, ← List.append_assoc, ← List.append_assoc]; exact hp7)
        clear q0 q1 hb hc5 hg5 hbl2 hr6 hp6 ha6 hbl3 hr7 hp7 HP
        obtain ⟨q0, q1⟩ := HQ.out.two
        clear HQ
        go_wp2_with (first | (at_builtin; refine wpList_append_run (.tmp 35) (.tmp 39) 43 43 rfl rfl rfl rfl HR6.out ?_) | (at_builtin; refine wpList_append_run (.tmp 41) (.tmp 43) 43 9 rfl rfl rfl rfl HR7.out ?_))
        go_roundg (l.length - (k + 1))
        case measure => omega
        case rel => exact ⟨k + 1, by omega, by go_num, HP7⟩
      · have t1 : ¬ ((k : Int) < l.length) := by omega
        have hkl : l.take k = l := List.take_of_length_le (by omega)
        rw [hkl, HDD.out] at HP
        obtain ⟨av, cv, rfl, _⟩ := HP.out.own.shape
        have HBK := Lib.hid (back_U HP.out.own)
        obtain ⟨x0, x1, x2, x3, x4⟩ := HP.out.x.five
        obtain ⟨z0, z1, z2, z3, z4⟩ := HP.out.z.five
        have fx := HP.out.x.fz
        have fz := HP.out.z.fz
        have hconv := HBK.out
        clear hkl
        go_wp2_with fail
        clear x0 x1 x2 x3 x4 z0 z1 z2 z3 z4 fx fz hconv
        have hst : Aside (fun k => k = N + 2) wr (wr.setCell ⟨N + 2, 4, none⟩ (.string (bs DD))) := Aside.setCell wr (p := ⟨N + 2, 4, none⟩) _ rfl
        have hz5 := HP.out.z.aside (by simp) hst (by omega)
        have hk := cel_put5 hz5 (.string ⟨#[0]⟩) (.int .i64 41) (.int .i64 es) (.int .i64 T) (.string (bs DD))
        have hst2 := aside_put5 (wr.setCell ⟨N + 2, 4, none⟩ (.string (bs DD))) (N + 1) (.string ⟨#[0]⟩) (.int .i64 41) (.int .i64 es) (.int .i64 T) (.string (bs DD))
        have hbF := below_aside (below_aside HP.out.bel hst (fun k hk => ⟨by have := HP.out.size; omega, by omega⟩)) hst2 (fun k hk => ⟨by have := HP.out.size; have := hst.size; omega, by omega⟩)
        obtain ⟨m0, m1, m2, m3, m4⟩ := hk.five
        unfold put5 at m0 m1 m2 m3 m4 hbF
        refine bodyPost_ret (v := .agg #[.string ⟨#[0]⟩, .int .i64 41, .int .i64 es, .int .i64 T, .string (bs DD)]) (by simp [results, Tryz.results21, go_sem, m0, m1, m2, m3, m4]) rfl ⟨?_, ?_⟩
        · rw [HTT.out]; rfl
        · first | exact hbF | (rw [hN]; exact hbF)
end Go.Proofs.YtpdaekgldgoalaaGreat

/-
  A range over a function, over an iterator that yields any values: what the iterator keeps and what it turns, a caller's invariant, a body (as wip/name Rf, of texts).
-/
namespace Go.Proofs.YtpdaekgldgoalaaGreat
open Go.RowKit
set_option linter.unusedVariables false
set_option maxRecDepth 100000

/-- What an iterator over values does, whatever loop calls it: it yields xs, one behind the other, if it is not stopped; then it returns, or panics with fin. It leans on the blocks K, and on what H tells of its own; it turns blocks of G alone, and asks St of the world in which it begins. -/
def SeqV (P : Program) (gf : Nat) (lb : Array Value) (K G : Nat → Prop) (H : Obj → Prop) (xs : List (Array Value)) (fin : Option (List PanicEntry)) (St : World → Prop) : Prop :=
  ∀ (l : Nat) (J Jx : Nat → World → Prop) (W : World),
    (∀ k A B, J k A → Aside G A B → J k B) →
    (∀ k A x, xs[k]? = some x → J k A → YieldAt Fence.wide 0 P l x A fun e B =>
      (e = .returned (.bool true) ∧ J (k + 1) B ∧ A.heap.size ≤ B.heap.size ∧ (∀ b, K b → B.heap[b]? = A.heap[b]?) ∧ ∀ (b : Nat) (o : Obj), A.heap[b]? = some o → H o → B.heap[b]? = some o) ∨ (e = .returned (.bool false) ∧ Jx (k + 1) B)) →
    St W → J 0 W →
    CallsIn Fence.wide 0 P gf (#[.func (.yield l) #[] #[]] ++ lb) W (SeqEnd xs.length fin J Jx)

/-- How a round's body may be left. -/
def roundV (M : Nat → Prop) (H : Obj → Prop) (k : Nat) (I : Nat → World → Prop) (Ix : Code → Nat → World → Prop) (W : World) : Exit → Act → World → Prop
  | .normal, _, W' => Aside M W W' ∧ (∀ (b : Nat) (o : Obj), W.heap[b]? = some o → H o → W'.heap[b]? = some o) ∧ I (k + 1) W'
  | .ret, _, W' => Aside M W W' ∧ Ix .ret (k + 1) W'
  | .exit id, _, W' => Aside M W W' ∧ Ix (.exit id) (k + 1) W'
  | .goto t, _, W' => Aside M W W' ∧ Ix (.goto t) (k + 1) W'
  | .panic _, _, _ => False
  | .outgrown, _, _ => False

theorem wp_rangeFunc_V {α : Type} {enc : α → Array Value} {P : Program} {gf : Nat} {lb : Array Value} {K G M : Nat → Prop} {H : Obj → Prop} {ys : List α} {fin : Option (List PanicEntry)} {St : World → Prop}
    {g : Operand} {ps : Array Tmp} {assign body : Code} {Q : Exit → Act → World → Prop} {a : Act} {w : World} {D : Nat} (hD : w.heap.size = D)
    (hg : a.eval g = .func (.func gf) #[] lb) (eg : ∀ args w, (callFunc gf args).run P w = .ok (.enter gf args) w)
    (hseq : SeqV P gf lb K G H (ys.map enc) fin St) (hHl : ∀ r, ¬ H (.loop r)) (hSt : St w) (hStK : ∀ A B, St A → (∀ b, K b → B.heap[b]? = A.heap[b]?) → A.heap.size ≤ B.heap.size → St B)
    (hK : ∀ b, K b → b < D) (hM : ∀ b, M b → ¬ K b ∧ b ≠ D ∧ b ≠ D + 1) (hGK : ∀ b, G b → K b) (hps : ∀ y, (enc y).size = ps.size)
    (I : Nat → World → Prop) (Ix : Code → Nat → World → Prop)
    (hI : ∀ k A B, I k A → Aside (fun b => G b ∨ b = D ∨ b = D + 1) A B → I k B)
    (hIx : ∀ c k A B, Ix c k A → Aside (fun b => G b ∨ b = D ∨ b = D + 1) A B → Ix c k B)
    (h0 : I 0 w) (a₁ : α → World → Act) (wa : α → World → World) (hwa : ∀ y W, Below W.heap.size W (wa y W))
    (hassign : ∀ (l k : Nat) (x : α) (W : World) (K : Act → World → Prop), ys[k]? = some x → K (a₁ x W) (wa x W) →
      assign.wpIn (Fence.wide.inRound l) 0 P (Exit.then K (fun _ _ _ => False)) { tmps := (ps.zip (enc x)).foldl (fun t (p, v) => t.setIfInBounds p v) a.tmps, defers := [] } W)
    (hbody : ∀ (l k : Nat) (x : α) (W V : World) (o : Obj), ys[k]? = some x → D + 2 ≤ W.heap.size → V = (wa x W).putObj (D + 1) o → I k V → body.wpIn (Fence.wide.inRound l) 0 P (roundV M H k I Ix V) (a₁ x W) V)
    (hdone : fin = none → ∀ W, I ys.length W → D + 2 ≤ W.heap.size → W.heap[D]? = some (.deferred (some [])) → Q .normal { a with defers := { target := .collected D, args := #[] } :: a.defers } W)
    (hstop : ∀ c k W, k ≤ ys.length → Ix c k W → W.heap[D]? = some (.deferred (some [])) → c.wp P Q { a with defers := { target := .collected D, args := #[] } :: a.defers } W)
    (hpanic : ∀ ch, fin = some ch → ∀ W, I ys.length W → W.heap[D]? = some (.deferred (some [])) → Q (.panic ch) { a with defers := { target := .collected D, args := #[] } :: a.defers } W) :
    (Code.rangeFunc g ps assign body).wp P Q a w := by
  subst hD
  refine (wpIn_wide (n := 0)).1 (wpIn_rangeFunc ?_)
  intro fn hfn
  obtain ⟨rec, hrec⟩ : ∃ rec : LoopState → Option Code → Loop, rec = fun st pe => { state := st, pending := pe, fn, tmps := a.tmps, params := ps, assign, body, defers := w.heap.size } := ⟨_, rfl⟩
  obtain ⟨W1, hW1⟩ : ∃ W1, (w.alloc (.deferred (some []))).alloc (.loop (rec .ready none)) = W1 := ⟨_, rfl⟩
  have hs1 : W1.heap.size = w.heap.size + 2 := by rw [← hW1]; simp
  have hL1 : W1.heap[w.heap.size + 1]? = some (.loop (rec .ready none)) := by
    rw [← hW1]; have := World.alloc_heap_new (w.alloc (.deferred (some []))) (.loop (rec .ready none)); rwa [World.size_alloc] at this
  have hK1 : W1.heap[w.heap.size]? = some (.deferred (some [])) := by
    rw [← hW1]; exact (Below.heap_alloc _ _ _ (by simp)).trans (World.alloc_heap_new w _)
  have hA1 : ∀ G, Aside G w W1 := fun G => by rw [← hW1]; exact (Aside.alloc _ _).trans (Aside.alloc _ _)
  refine ⟨w.heap.size + 1, [{ target := .collected w.heap.size, args := #[] }], W1, { target := .fn (.func gf) lb, args := #[.func (.yield (w.heap.size + 1)) #[] #[]] }, W1, gf,
    #[.func (.yield (w.heap.size + 1)) #[] #[]] ++ lb, W1, ?_, ?_, ?_, ?_, (fun h => by simp [Fence.wide] at h), ?_⟩
  · rw [← hW1, hrec]; exact run_enterLoop_outer _ _ _ _ _
  · simp only [resolve, hg]
    simp [go_sem]
  · intro f' _; trivial
  · simp [invoke, go_sem, eg]
  · have hStep : ∀ (I : World → Prop), (∀ A B, I A → Aside (fun b => G b ∨ b = w.heap.size ∨ b = w.heap.size + 1) A B → I B) → ∀ A (o : Obj), I A → I (A.putObj (w.heap.size + 1) o) :=
      fun I h A o ha => h _ _ ha (Aside.putObj _ _ (.inr (.inr rfl)))
    have hSt1 : St W1 := hStK _ _ hSt (fun b hb => (hA1 (fun _ => False)).block b (hK b hb) (fun h => h)) (hA1 (fun _ => False)).size
    refine (hseq (w.heap.size + 1)
      (fun k W => I k W ∧ w.heap.size + 2 ≤ W.heap.size ∧ W.heap[w.heap.size + 1]? = some (.loop (rec .ready none)) ∧ W.heap[w.heap.size]? = some (.deferred (some [])))
      (fun k W => ∃ c, Ix c k W ∧ W.heap[w.heap.size + 1]? = some (.loop (rec .done (some c))) ∧ W.heap[w.heap.size]? = some (.deferred (some [])))
      W1
      (fun k A B hs hab => by
        obtain ⟨h1, h2, h3, h4⟩ := hs
        have hlo : ∀ b, G b → b < w.heap.size := fun b hb => hK b (hGK b hb)
        exact ⟨hI k A B h1 (hab.mono fun b _ hb => .inl hb), Nat.le_trans h2 hab.size, (hab.block _ (by omega) (fun e => by have := hlo _ e; omega)).trans h3, (hab.block _ (by omega) (fun e => by have := hlo _ e; omega)).trans h4⟩)
      ?_ hSt1 ⟨hI _ _ _ h0 (hA1 _), by omega, hL1, hK1⟩).mono ?_
    · -- one round
      rintro k W x hx ⟨hi, hsz, hl, hk⟩
      rw [List.getElem?_map] at hx
      obtain ⟨x, hxk, rfl⟩ := Option.map_eq_some_iff.mp hx
      have hlt : w.heap.size + 1 < W.heap.size := by omega
      have hy := run_yield (P := P) (args := enc x) hl (by rw [hrec]; simp [hps x])
      rw [hrec] at hy
      have hbw := hwa x W
      obtain ⟨W', hW'⟩ : ∃ W', wa x W = W' := ⟨_, rfl⟩
      rw [hW'] at hbw
      have hl' : W'.heap[w.heap.size + 1]? = some (.loop (rec .ready none)) := (hbw.block _ hlt).trans hl
      have hk' : W'.heap[w.heap.size]? = some (.deferred (some [])) := (hbw.block _ (by omega)).trans hk
      have hs' := hbw.size
      refine ⟨fn, _, assign, body, hy, roundIn_of_wpIn hfn (hassign _ k x W _ hxk ?_)⟩
      rw [hW']
      refine ⟨_, run_beginRound hl' (by rw [hrec]), ?_⟩
      obtain ⟨W2, hW2⟩ : ∃ W2, W'.putObj (w.heap.size + 1) (.loop { rec .ready none with state := .busy }) = W2 := ⟨_, rfl⟩
      have hs2 : W2.heap.size = W'.heap.size := by rw [← hW2]; simp
      have hl2 : W2.heap[w.heap.size + 1]? = some (.loop { rec .ready none with state := .busy }) := by rw [← hW2]; exact World.putObj_heap_same (by omega)
      have hk2 : W2.heap[w.heap.size]? = some (.deferred (some [])) := by rw [← hW2]; exact (World.putObj_heap_other (by omega)).trans hk'
      have hi2 : I k W2 := by rw [← hW2]; exact hStep _ (hI k) _ _ (hI k _ _ hi (Aside.of_all hbw))
      have hK2 : ∀ b, K b → W2.heap[b]? = W.heap[b]? := fun b hb => by rw [← hW2]; exact (World.putObj_heap_other (by have := hK b hb; omega)).trans (hbw.block b (by have := hK b hb; omega))
      rw [show W'.putObj (w.heap.size + 1) (.loop { rec .ready none with state := .busy }) = W2 from hW2]
      refine wpIn_mono (hbody _ k x W W2 _ hxk hsz (by rw [hW']; exact hW2.symm) hi2) ?_
      have fin : ∀ (jump : Option Code) (W3 : World), Aside M W2 W3 →
          (Instr.endRound (w.heap.size + 1) jump).run P W3 = .ok (.bool jump.isNone) (W3.putObj (w.heap.size + 1) (.loop (rec (if jump.isNone then .ready else .done) jump))) ∧
          W2.heap.size ≤ W3.heap.size ∧
          (W3.putObj (w.heap.size + 1) (.loop (rec (if jump.isNone then .ready else .done) jump))).heap[w.heap.size + 1]? = some (.loop (rec (if jump.isNone then .ready else .done) jump)) ∧
          (W3.putObj (w.heap.size + 1) (.loop (rec (if jump.isNone then .ready else .done) jump))).heap[w.heap.size]? = some (.deferred (some [])) ∧
          ∀ b, K b → (W3.putObj (w.heap.size + 1) (.loop (rec (if jump.isNone then .ready else .done) jump))).heap[b]? = W.heap[b]? := fun jump W3 h3 => by
        have hm : ∀ b, b = w.heap.size + 1 ∨ b = w.heap.size ∨ K b → ¬ M b := fun b hb hm => by
          have := hM b hm
          rcases hb with e | e | e
          · exact this.2.2 e
          · exact this.2.1 e
          · exact this.1 e
        have hl3 := (h3.block _ (by omega) (hm _ (.inl rfl))).trans hl2
        have hk3 := (h3.block _ (by omega) (hm _ (.inr (.inl rfl)))).trans hk2
        have := run_endRound (P := P) jump hl3
        rw [hrec] at this ⊢
        refine ⟨this, h3.size, World.putObj_heap_same (Array.getElem?_eq_some_iff.1 hl3).1, (World.putObj_heap_other (by omega)).trans hk3, fun b hb => ?_⟩
        have hb1 := hK b hb
        exact (World.putObj_heap_other (by omega)).trans ((h3.block b (by omega) (hm _ (.inr (.inr hb)))).trans (hK2 b hb))
      rintro e a3 W3 hp
      cases e with
      | normal =>
        obtain ⟨ha3, hh3, hi3⟩ := hp
        obtain ⟨hr, hs3, hl4, hk4, hK4⟩ := fin none W3 ha3
        refine ⟨_, _, hr, .inl ⟨rfl, ⟨hStep _ (hI _) _ _ hi3, by simp; omega, hl4, hk4⟩, by simp; omega, hK4, fun b o hb ho => ?_⟩⟩
        have hne : b ≠ w.heap.size + 1 := by
          rintro rfl
          rw [hl] at hb
          injection hb with hb
          subst hb
          exact hHl _ ho
        have hlt2 : b < W.heap.size := (Array.getElem?_eq_some_iff.mp hb).1
        have hb2 : W2.heap[b]? = some o := by rw [← hW2]; exact (World.putObj_heap_other hne).trans ((hbw.block b hlt2).trans hb)
        exact (World.putObj_heap_other hne).trans (hh3 b o hb2 ho)
      | ret =>
        obtain ⟨ha3, hi3⟩ := hp
        obtain ⟨hr, hs3, hl4, hk4, hK4⟩ := fin (some .ret) W3 ha3
        exact ⟨_, _, hr, .inr ⟨rfl, .ret, hStep _ (hIx _ _) _ _ hi3, hl4, hk4⟩⟩
      | exit id =>
        obtain ⟨ha3, hi3⟩ := hp
        obtain ⟨hr, hs3, hl4, hk4, hK4⟩ := fin (some (.exit id)) W3 ha3
        exact ⟨_, _, hr, .inr ⟨rfl, .exit id, hStep _ (hIx _ _) _ _ hi3, hl4, hk4⟩⟩
      | goto t =>
        obtain ⟨ha3, hi3⟩ := hp
        obtain ⟨hr, hs3, hl4, hk4, hK4⟩ := fin (some (.goto t)) W3 ha3
        exact ⟨_, _, hr, .inr ⟨rfl, .goto t, hStep _ (hIx _ _) _ _ hi3, hl4, hk4⟩⟩
      | panic ch => exact hp.elim
      | outgrown => exact hp.elim
    · -- behind the iterator
      rintro e W2 (⟨hf, ⟨v, rfl⟩, hi, hsz, hl, hk⟩ | ⟨⟨v, rfl⟩, k, hk0, c, hi, hl, hk⟩ | ⟨ch, hf, rfl, hi, hsz, hl, hk⟩)
      · rw [List.length_map] at hi
        refine ⟨none, _, ?_, hdone hf _ (hStep _ (hI _) _ (.loop { rec .ready none with state := .exhausted }) hi) (by simp; omega) ((World.putObj_heap_other (by omega)).trans hk)⟩
        have := run_endLoop (P := P) hl (by rw [hrec]; simp)
        rw [hrec] at this ⊢; exact this
      · rw [List.length_map] at hk0
        refine ⟨some c, _, ?_, (wpIn_wide (n := 0)).2 (hstop c k _ hk0 (hStep _ (hIx c k) _ (.loop { rec .done (some c) with state := .exhausted }) hi) ((World.putObj_heap_other (by omega)).trans hk))⟩
        have := run_endLoop (P := P) hl (by rw [hrec]; simp)
        rw [hrec] at this ⊢; exact this
      · rw [List.length_map] at hi
        exact hpanic ch hf _ hi hk

end Go.Proofs.YtpdaekgldgoalaaGreat
