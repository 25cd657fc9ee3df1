/-
  A message without what it says besides: Strip.
-/
import Derived.Test.YteegekpanadmkaaGreatS15
import Derived.Test.YteegekpanadmkaaGreatS14
import Derived.Test.YteegekpanadmkaaGreatS16
namespace Go.Proofs.YteegekpanadmkaaGreat
open Go.RowKit Go.Shelf
set_option linter.unusedVariables false
set_option linter.unusedSimpArgs false
set_option maxRecDepth 100000

/-- A message in its box, and the answer's box. -/
structure Bm (w wr : World) (N : Nat) (i f : Int) (q a n r : Value) : Prop where
  bel : Below N w wr
  x : Cel wr N [.int .i64 i, .int .i64 f, q, a, n, r]
  z : Cel wr (N + 1) [.int .i64 0, .int .i64 0, .slice none 0 0, .slice none 0 0, .slice none 0 0, .slice none 0 0]
  size : N + 2 ≤ wr.heap.size
section
variable {w wr w' : World} {N : Nat} {i f : Int} {q a n r : Value} {hi : Nat} {m : Ms}
theorem Bm.later (h : Bm w wr N i f q a n r) (hb : Below wr.heap.size wr w') : Bm w w' N i f q a n r :=
  ⟨below_aside h.bel (Aside.of_all hb : Aside (fun _ => False) wr w') (fun k hk => ⟨by have := h.size; omega, id⟩), h.x.below (by simp) hb, h.z.below (by simp) hb, Nat.le_trans h.size hb.size⟩
theorem bm_side (wr : World) (N o : Nat) (v : Value) : Aside (fun k => k = N) wr (wr.setCell ⟨N, o, none⟩ v) := Aside.setCell wr (p := ⟨N, o, none⟩) _ rfl
theorem Bm.put3 (h : Bm w wr N i f q a n r) (v : Value) : Bm w (wr.setCell ⟨N, 3, none⟩ v) N i f q v n r :=
  ⟨below_aside h.bel (bm_side _ _ _ _) (fun k hk => ⟨by have := h.size; omega, by omega⟩), h.x.set (o := 3) (by simp) v, h.z.other (a := ⟨N, 3, none⟩) (by show N ≠ N + 1; omega) _, Nat.le_trans h.size (bm_side wr N 3 v).size⟩
theorem Bm.put4 (h : Bm w wr N i f q a n r) (v : Value) : Bm w (wr.setCell ⟨N, 4, none⟩ v) N i f q a v r :=
  ⟨below_aside h.bel (bm_side _ _ _ _) (fun k hk => ⟨by have := h.size; omega, by omega⟩), h.x.set (o := 4) (by simp) v, h.z.other (a := ⟨N, 4, none⟩) (by show N ≠ N + 1; omega) _, Nat.le_trans h.size (bm_side wr N 4 v).size⟩
theorem Bm.put5 (h : Bm w wr N i f q a n r) (v : Value) : Bm w (wr.setCell ⟨N, 5, none⟩ v) N i f q a n v :=
  ⟨below_aside h.bel (bm_side _ _ _ _) (fun k hk => ⟨by have := h.size; omega, by omega⟩), h.x.set (o := 5) (by simp) v, h.z.other (a := ⟨N, 5, none⟩) (by show N ≠ N + 1; omega) _, Nat.le_trans h.size (bm_side wr N 5 v).size⟩
/-- What is put into the answer's box at last. -/
theorem Bm.fin (h : Bm w wr N i f q a n r) (v0 v1 v2 v3 v4 v5 : Value) : Below N w (put6 wr (N + 1) v0 v1 v2 v3 v4 v5) ∧ Cel (put6 wr (N + 1) v0 v1 v2 v3 v4 v5) (N + 1) [v0, v1, v2, v3, v4, v5] ∧ Aside (fun k => k = N + 1) wr (put6 wr (N + 1) v0 v1 v2 v3 v4 v5) :=
  ⟨below_aside h.bel (aside_put6 _ _ _ _ _ _ _ _) (fun k hk => ⟨by have := h.size; omega, by omega⟩), cel_put6 h.z _ _ _ _ _ _, aside_put6 _ _ _ _ _ _ _ _⟩
theorem bm_start (w : World) (i f : Int) (q a n r : Value) (hN : w.heap.size = N) :
    Bm w ((w.alloc (.cells #[.int .i64 i, .int .i64 f, q, a, n, r] 25)).alloc (.cells #[.int .i64 0, .int .i64 0, .slice none 0 0, .slice none 0 0, .slice none 0 0, .slice none 0 0] 25)) N i f q a n r := by
  subst hN
  have hz := cel_new6 (w.alloc (.cells #[.int .i64 i, .int .i64 f, q, a, n, r] 25)) (.int .i64 0) (.int .i64 0) (.slice none 0 0) (.slice none 0 0) (.slice none 0 0) (.slice none 0 0) 25
  rw [World.size_alloc] at hz
  exact ⟨((Below.refl _ _).alloc (Nat.le_refl _) _).alloc (by simp) _, (cel_new6 w (.int .i64 i) (.int .i64 f) q a n r 25).below (by simp) ((Below.refl _ _).alloc (Nat.le_refl _) _), hz, by simp⟩
end
theorem OwnM.aside {G : Nat → Prop} {w w' : World} {B : Nat} {v : Value} {m : Ms} (h : OwnM w B v m) (ha : Aside G w w') (hG : ∀ k, B ≤ k → ¬ G k) : OwnM w' B v m := by
  obtain ⟨q, a, n, r, rfl, h1, h2, h3, h4⟩ := h
  exact ⟨q, a, n, r, rfl, row_aside h1 ha fun k hk => hG k (World.ownsRow.lt h1 k hk).1, row_aside h2 ha fun k hk => hG k (World.ownsRow.lt h2 k hk).1, row_aside h3 ha fun k hk => hG k (World.ownsRow.lt h3 k hk).1, row_aside h4 ha fun k hk => hG k (World.ownsRow.lt h4 k hk).1⟩
/-- No name and no data is too long to be copied, or read. -/
def Mild (m : Ms) : Prop := (m.q.length + m.an.length + m.ns.length + m.ar.length ≤ 900000) ∧ (∀ x ∈ m.q, x.n.length ≤ 900000) ∧ (∀ x ∈ m.an, x.n.length ≤ 900000 ∧ x.d.length ≤ 900000) ∧
  (∀ x ∈ m.ns, x.n.length ≤ 900000 ∧ x.d.length ≤ 900000) ∧ (∀ x ∈ m.ar, x.n.length ≤ 900000 ∧ x.d.length ≤ 900000)
theorem noL_mem {l : List Rc} {x : Rc} (h : x ∈ noL l) : x ∈ l := (List.mem_filter.mp h).1
theorem noL_len (l : List Rc) : (noL l).length ≤ l.length := List.length_filter_le _ _
theorem Mild.st {m : Ms} (h : Mild m) : Mild (stM m) := by
  obtain ⟨h1, h2, h3, h4, h5⟩ := h
  have e1 := noL_len m.an
  have e2 := noL_len m.ns
  have e3 := noL_len m.ar
  exact ⟨by unfold stM; simp only; omega, h2, fun x hx => h3 x (noL_mem hx), fun x hx => h4 x (noL_mem hx), fun x hx => h5 x (noL_mem hx)⟩
theorem ownMild_any {w : World} {hi : Nat} {u : Value} {m : Ms} (h : Mg w hi u m) (h1 : hi ≤ w.heap.size) (hm : Mild m) :
    Calls Tryz.prog 54 #[u] w (fun e w' => ∃ v, e = .returned v ∧ OwnM w' w.heap.size v m ∧ Below w.heap.size w w') :=
  own_any h h1 hm.1 (fun x hx => Nat.le_trans (hm.2.1 x hx) (by decide)) (fun x hx => ⟨Nat.le_trans (hm.2.2.1 x hx).1 (by decide), Nat.le_trans (hm.2.2.1 x hx).2 (by decide)⟩) (fun x hx => ⟨Nat.le_trans (hm.2.2.2.1 x hx).1 (by decide), Nat.le_trans (hm.2.2.2.1 x hx).2 (by decide)⟩)
    (fun x hx => ⟨Nat.le_trans (hm.2.2.2.2 x hx).1 (by decide), Nat.le_trans (hm.2.2.2.2 x hx).2 (by decide)⟩)

set_option maxHeartbeats 4000000 in
theorem strip_any {w : World} {hi : Nat} {u : Value} {m : Ms} (h : Mg w hi u m) (h1 : hi ≤ w.heap.size) (hm : Mild m) :
    Calls Tryz.prog 25 #[u] w (fun e w' => ∃ v, e = .returned v ∧ OwnM w' w.heap.size v (stM m) ∧ Below w.heap.size w w') := by
  have hms := hm.st
  obtain ⟨i0, f0, l, lan, lns, lar⟩ := m
  obtain ⟨q, a, n, r, rfl, hq, h2, h3, h4⟩ := h
  unfold stM at hms ⊢
  have hl := hm.1
  simp only at hl hms hq h2 h3 h4 ⊢
  obtain ⟨N, hN⟩ : ∃ g, w.heap.size = g := ⟨_, rfl⟩
  have HCA := Lib.hid (fun wx (hb : Below N w wx) => others_any (Lst.below h2 hb (by omega)) (Nat.le_trans (by omega : hi ≤ N) (by have := hb.size; omega)) (by omega))
  have HCN := Lib.hid (fun wx (hb : Below N w wx) => others_any (Lst.below h3 hb (by omega)) (Nat.le_trans (by omega : hi ≤ N) (by have := hb.size; omega)) (by omega))
  have HCR := Lib.hid (fun wx (hb : Below N w wx) => others_any (Lst.below h4 hb (by omega)) (Nat.le_trans (by omega : hi ≤ N) (by have := hb.size; omega)) (by omega))
  have HQ := Lib.hid (fun wx (hb : Below N w wx) => Lst.below hq hb (by omega : hi ≤ N))
  have HMS := Lib.hid hms
  obtain ⟨xa, xc, rfl⟩ := Lst.shape hq
  obtain ⟨aa, ac, rfl⟩ := Lst.shape h2
  obtain ⟨na, nc, rfl⟩ := Lst.shape h3
  obtain ⟨ra, rc, rfl⟩ := Lst.shape h4
  obtain ⟨la, hla⟩ : ∃ i, lan.length = i := ⟨_, rfl⟩
  obtain ⟨ln, hln⟩ : ∃ i, lns.length = i := ⟨_, rfl⟩
  obtain ⟨lr, hlr⟩ : ∃ i, lar.length = i := ⟨_, rfl⟩
  rw [hla] at HCA
  rw [hln] at HCN
  rw [hlr] at HCR
  rw [hla, hln, hlr]
  have HHI := Lib.hid (show hi ≤ N by omega)
  have HL := Lib.hid hl
  have HLA := Lib.hid (show (noL lan).length ≤ 900000 by have := noL_len lan; omega)
  have HLNS := Lib.hid (show (noL lns).length ≤ 900000 by have := noL_len lns; omega)
  have HLR := Lib.hid (show (noL lar).length ≤ 900000 by have := noL_len lar; omega)
  have HP := Lib.hid ((bm_start w i0 f0 (.slice xa l.length xc) (.slice aa la ac) (.slice na ln nc) (.slice ra lr rc) hN).later (Below.refl _ _).drew)
  clear hq h2 h3 h4 h1 hm hl hms hla hln hlr
  go_enter Tryz.func25, Tryz.ntmps25
  go_wp2_with fail
  refine wp_region_tilk (S := (fun wx => wx.cell? ⟨N, 3, none⟩ = some (.slice aa la ac) ∧ wx.cell? ⟨N, 4, none⟩ = some (.slice na ln nc) ∧ wx.cell? ⟨N, 5, none⟩ = some (.slice ra lr rc))) [10, 11, 12, 13, 14] (by kernel_rfl) ⟨HP.out.x.c 3 (by simp), HP.out.x.c 4 (by simp), HP.out.x.c 5 (by simp)⟩ (fun hHeld => ?_)
  refine tilk_take (i := 0) (oi := { dst := some 3, op := Op.fieldAddr 25 (Operand.tmp 1) 3, type := 0, pos := "edns.go:51", after := #[], guard := none }) (v := ?_) rfl (by kernel_rfl) (by kernel_rfl) (by kernel_rfl) (fun _ _ _ h => h) (Or.inl ⟨by rfl, ?_⟩) (by assumption) ?_
  rotate_left 1
  · intro w hSw; (try dsimp only at hSw); go_simp; try (with_reducible rfl)
  try simp only [Act.put, List.setIfInBounds_toArray, List.set_cons_zero, List.set_cons_succ]
  refine tilk_take (i := 1) (oi := { dst := some 4, op := Op.load 23 (Operand.tmp 3), type := 23, pos := "edns.go:51", after := #[{ on := 0, ground := Ground.data }], guard := none }) (v := ?_) rfl (by kernel_rfl) (by kernel_rfl) (by kernel_rfl) (fun _ _ _ h => h) (Or.inl ⟨by rfl, ?_⟩) (by assumption) ?_
  rotate_left 1
  · intro w hSw; (try dsimp only at hSw); go_simp; try (with_reducible rfl)
  try simp only [Act.put, List.setIfInBounds_toArray, List.set_cons_zero, List.set_cons_succ]
  refine tilk_take (i := 3) (oi := { dst := some 6, op := Op.fieldAddr 25 (Operand.tmp 1) 4, type := 0, pos := "edns.go:51", after := #[], guard := none }) (v := ?_) rfl (by kernel_rfl) (by kernel_rfl) (by kernel_rfl) (fun _ _ _ h => h) (Or.inl ⟨by rfl, ?_⟩) (by assumption) ?_
  rotate_left 1
  · intro w hSw; (try dsimp only at hSw); go_simp; try (with_reducible rfl)
  try simp only [Act.put, List.setIfInBounds_toArray, List.set_cons_zero, List.set_cons_succ]
  refine tilk_take (i := 4) (oi := { dst := some 7, op := Op.load 23 (Operand.tmp 6), type := 23, pos := "edns.go:51", after := #[{ on := 3, ground := Ground.data }], guard := none }) (v := ?_) rfl (by kernel_rfl) (by kernel_rfl) (by kernel_rfl) (fun _ _ _ h => h) (Or.inl ⟨by rfl, ?_⟩) (by assumption) ?_
  rotate_left 1
  · intro w hSw; (try dsimp only at hSw); go_simp; try (with_reducible rfl)
  try simp only [Act.put, List.setIfInBounds_toArray, List.set_cons_zero, List.set_cons_succ]
  refine tilk_take (i := 6) (oi := { dst := some 9, op := Op.fieldAddr 25 (Operand.tmp 1) 5, type := 0, pos := "edns.go:51", after := #[], guard := none }) (v := ?_) rfl (by kernel_rfl) (by kernel_rfl) (by kernel_rfl) (fun _ _ _ h => h) (Or.inl ⟨by rfl, ?_⟩) (by assumption) ?_
  rotate_left 1
  · intro w hSw; (try dsimp only at hSw); go_simp; try (with_reducible rfl)
  try simp only [Act.put, List.setIfInBounds_toArray, List.set_cons_zero, List.set_cons_succ]
  refine tilk_take (i := 7) (oi := { dst := some 10, op := Op.load 23 (Operand.tmp 9), type := 23, pos := "edns.go:51", after := #[{ on := 6, ground := Ground.data }], guard := none }) (v := ?_) rfl (by kernel_rfl) (by kernel_rfl) (by kernel_rfl) (fun _ _ _ h => h) (Or.inl ⟨by rfl, ?_⟩) (by assumption) ?_
  rotate_left 1
  · intro w hSw; (try dsimp only at hSw); go_simp; try (with_reducible rfl)
  try simp only [Act.put, List.setIfInBounds_toArray, List.set_cons_zero, List.set_cons_succ]
  refine tilk_ready (rs := [2]) (by kernel_rfl) (by simp) ?_
  refine TilkAll.cons (o := { dst := some 5, op := Op.call { callee := Callee.value (Operand.func 53), args := #[Operand.tmp 4], argTypes := #[23] }, type := 23, pos := "edns.go:51", after := #[{ on := 1, ground := Ground.data }], guard := none }) rfl (fun K hK => ?_) (TilkAll.nil)
  go_simp
  refine (HCA.out _ HP.out.bel).mono ?_; rintro e w1 ⟨va, rfl, ho, hb⟩
  obtain ⟨ava, cva, rfl⟩ := ho.shape
  have HA := Lib.hid (show Kp w1 (N + 2) _ _ from ho.base HP.out.size)
  replace HP := Lib.hid (HP.out.later hb)
  clear ho hb
  try go_wp2_with fail
  refine hK.out _ _ ⟨HP.out.x.c 3 (by simp), HP.out.x.c 4 (by simp), HP.out.x.c 5 (by simp)⟩ (fun hHeld => ?_)
  clear hK K
  try simp only [Act.put, List.setIfInBounds_toArray, List.set_cons_zero, List.set_cons_succ]
  refine tilk_take (i := 9) (oi := { dst := some 12, op := Op.fieldAddr 25 (Operand.tmp 1) 3, type := 0, pos := "edns.go:51", after := #[{ on := 0, ground := Ground.phase }, { on := 1, ground := Ground.phase }, { on := 2, ground := Ground.phase }, { on := 3, ground := Ground.phase }, { on := 4, ground := Ground.phase }, { on := 5, ground := Ground.textOnly Departure.lateStoresUnsure }, { on := 6, ground := Ground.phase }, { on := 7, ground := Ground.phase }, { on := 8, ground := Ground.textOnly Departure.lateStoresUnsure }], guard := none }) (v := ?_) rfl (by kernel_rfl) (by kernel_rfl) (by kernel_rfl) (fun _ _ _ h => h) (Or.inl ⟨by rfl, ?_⟩) (by assumption) ?_
  rotate_left 1
  · intro w hSw; (try dsimp only at hSw); go_simp; try (with_reducible rfl)
  try simp only [Act.put, List.setIfInBounds_toArray, List.set_cons_zero, List.set_cons_succ]
  refine tilk_ready (rs := [5]) (by kernel_rfl) (by simp) ?_
  refine TilkAll.cons (o := { dst := some 8, op := Op.call { callee := Callee.value (Operand.func 53), args := #[Operand.tmp 7], argTypes := #[23] }, type := 23, pos := "edns.go:51", after := #[{ on := 4, ground := Ground.data }, { on := 2, ground := Ground.chain }], guard := none }) rfl (fun K hK => ?_) (TilkAll.nil)
  go_simp
  refine (HCN.out _ HP.out.bel).mono ?_; rintro e w2 ⟨vn, rfl, ho, hb⟩
  obtain ⟨avn, cvn, rfl⟩ := ho.shape
  have HNN2 := Lib.hid (show Kp w2 (N + 2) _ _ from ho.base HP.out.size)
  replace HP := Lib.hid (HP.out.later hb)
  replace HA := Lib.hid (HA.out.below hb)
  clear ho hb
  try go_wp2_with fail
  refine hK.out _ _ ⟨HP.out.x.c 3 (by simp), HP.out.x.c 4 (by simp), HP.out.x.c 5 (by simp)⟩ (fun hHeld => ?_)
  clear hK K
  try simp only [Act.put, List.setIfInBounds_toArray, List.set_cons_zero, List.set_cons_succ]
  refine tilk_ready (rs := [8]) (by kernel_rfl) (by simp) ?_
  refine TilkAll.cons (o := { dst := some 11, op := Op.call { callee := Callee.value (Operand.func 53), args := #[Operand.tmp 10], argTypes := #[23] }, type := 23, pos := "edns.go:51", after := #[{ on := 7, ground := Ground.data }, { on := 5, ground := Ground.chain }], guard := none }) rfl (fun K hK => ?_) (TilkAll.nil)
  go_simp
  refine (HCR.out _ HP.out.bel).mono ?_; rintro e w3 ⟨vr, rfl, ho, hb⟩
  obtain ⟨avr, cvr, rfl⟩ := ho.shape
  have HR := Lib.hid (show Kp w3 (N + 2) _ _ from ho.base HP.out.size)
  replace HP := Lib.hid (HP.out.later hb)
  replace HA := Lib.hid (HA.out.below hb)
  replace HNN2 := Lib.hid (HNN2.out.below hb)
  clear ho hb
  try go_wp2_with fail
  refine hK.out _ _ ⟨HP.out.x.c 3 (by simp), HP.out.x.c 4 (by simp), HP.out.x.c 5 (by simp)⟩ (fun hHeld => ?_)
  clear hK K
  try simp only [Act.put, List.setIfInBounds_toArray, List.set_cons_zero, List.set_cons_succ]
  refine tilk_ready (rs := [10]) (by kernel_rfl) (by simp) ?_
  refine TilkAll.last (i := 10) (o := { dst := none, op := Op.store 23 (Operand.tmp 12) (Operand.tmp 5), type := 0, pos := "edns.go:51", after := #[{ on := 9, ground := Ground.data }, { on := 2, ground := Ground.data }, { on := 8, ground := Ground.chain }, { on := 0, ground := Ground.phase }, { on := 1, ground := Ground.phase }, { on := 2, ground := Ground.phase }, { on := 3, ground := Ground.phase }, { on := 4, ground := Ground.phase }, { on := 5, ground := Ground.textOnly Departure.lateStoresUnsure }, { on := 6, ground := Ground.phase }, { on := 7, ground := Ground.phase }, { on := 8, ground := Ground.textOnly Departure.lateStoresUnsure }], guard := none }) rfl (fun K hK => ?_) (TilkAll.nil)
  obtain ⟨r0, r1, r2, r3, r4, r5⟩ := HP.out.x.six
  have fz := HP.out.x.fz
  go_simp
  clear r0 r1 r2 r3 r4 r5 fz
  replace HP := Lib.hid (HP.out.put3 (.slice ava (noL lan).length cva))
  replace HA := Lib.hid (HA.out.aside (bm_side _ N 3 (.slice ava (noL lan).length cva)) (fun k hk => by omega))
  replace HNN2 := Lib.hid (HNN2.out.aside (bm_side _ N 3 (.slice ava (noL lan).length cva)) (fun k hk => by omega))
  replace HR := Lib.hid (HR.out.aside (bm_side _ N 3 (.slice ava (noL lan).length cva)) (fun k hk => by omega))
  refine hK.out _ _ trivial (fun hHeld => ?_)
  clear hK K
  try simp only [Act.put, List.setIfInBounds_toArray, List.set_cons_zero, List.set_cons_succ]
  refine tilk_ready (rs := [11]) (by kernel_rfl) (by simp) ?_
  refine TilkAll.last (i := 11) (o := { dst := some 13, op := Op.fieldAddr 25 (Operand.tmp 1) 4, type := 0, pos := "edns.go:51", after := #[{ on := 0, ground := Ground.phase }, { on := 1, ground := Ground.phase }, { on := 2, ground := Ground.phase }, { on := 3, ground := Ground.phase }, { on := 4, ground := Ground.phase }, { on := 5, ground := Ground.phase }, { on := 6, ground := Ground.phase }, { on := 7, ground := Ground.phase }, { on := 8, ground := Ground.textOnly Departure.lateStoresUnsure }, { on := 9, ground := Ground.phase }, { on := 10, ground := Ground.phase }], guard := none }) rfl (fun K hK => ?_) (TilkAll.nil)
  go_simp
  refine hK.out _ _ trivial (fun hHeld => ?_)
  clear hK K
  try simp only [Act.put, List.setIfInBounds_toArray, List.set_cons_zero, List.set_cons_succ]
  refine tilk_ready (rs := [12]) (by kernel_rfl) (by simp) ?_
  refine TilkAll.last (i := 12) (o := { dst := none, op := Op.store 23 (Operand.tmp 13) (Operand.tmp 8), type := 0, pos := "edns.go:51", after := #[{ on := 11, ground := Ground.data }, { on := 5, ground := Ground.data }, { on := 10, ground := Ground.chain }, { on := 0, ground := Ground.phase }, { on := 1, ground := Ground.phase }, { on := 2, ground := Ground.phase }, { on := 3, ground := Ground.phase }, { on := 4, ground := Ground.phase }, { on := 5, ground := Ground.phase }, { on := 6, ground := Ground.phase }, { on := 7, ground := Ground.phase }, { on := 8, ground := Ground.textOnly Departure.lateStoresUnsure }, { on := 9, ground := Ground.phase }, { on := 10, ground := Ground.phase }], guard := none }) rfl (fun K hK => ?_) (TilkAll.nil)
  obtain ⟨r0, r1, r2, r3, r4, r5⟩ := HP.out.x.six
  have fz := HP.out.x.fz
  go_simp
  clear r0 r1 r2 r3 r4 r5 fz
  replace HP := Lib.hid (HP.out.put4 (.slice avn (noL lns).length cvn))
  replace HA := Lib.hid (HA.out.aside (bm_side _ N 4 (.slice avn (noL lns).length cvn)) (fun k hk => by omega))
  replace HNN2 := Lib.hid (HNN2.out.aside (bm_side _ N 4 (.slice avn (noL lns).length cvn)) (fun k hk => by omega))
  replace HR := Lib.hid (HR.out.aside (bm_side _ N 4 (.slice avn (noL lns).length cvn)) (fun k hk => by omega))
  refine hK.out _ _ trivial (fun hHeld => ?_)
  clear hK K
  try simp only [Act.put, List.setIfInBounds_toArray, List.set_cons_zero, List.set_cons_succ]
  refine tilk_ready (rs := [13]) (by kernel_rfl) (by simp) ?_
  refine TilkAll.last (i := 13) (o := { dst := some 14, op := Op.fieldAddr 25 (Operand.tmp 1) 5, type := 0, pos := "edns.go:51", after := #[{ on := 0, ground := Ground.phase }, { on := 1, ground := Ground.phase }, { on := 2, ground := Ground.phase }, { on := 3, ground := Ground.phase }, { on := 4, ground := Ground.phase }, { on := 5, ground := Ground.phase }, { on := 6, ground := Ground.phase }, { on := 7, ground := Ground.phase }, { on := 8, ground := Ground.phase }, { on := 9, ground := Ground.phase }, { on := 10, ground := Ground.phase }, { on := 11, ground := Ground.phase }, { on := 12, ground := Ground.phase }], guard := none }) rfl (fun K hK => ?_) (TilkAll.nil)
  go_simp
  refine hK.out _ _ trivial (fun hHeld => ?_)
  clear hK K
  try simp only [Act.put, List.setIfInBounds_toArray, List.set_cons_zero, List.set_cons_succ]
  refine tilk_ready (rs := [14]) (by kernel_rfl) (by simp) ?_
  refine TilkAll.last (i := 14) (o := { dst := none, op := Op.store 23 (Operand.tmp 14) (Operand.tmp 11), type := 0, pos := "edns.go:51", after := #[{ on := 13, ground := Ground.data }, { on := 8, ground := Ground.data }, { on := 12, ground := Ground.chain }, { on := 0, ground := Ground.phase }, { on := 1, ground := Ground.phase }, { on := 2, ground := Ground.phase }, { on := 3, ground := Ground.phase }, { on := 4, ground := Ground.phase }, { on := 5, ground := Ground.phase }, { on := 6, ground := Ground.phase }, { on := 7, ground := Ground.phase }, { on := 8, ground := Ground.phase }, { on := 9, ground := Ground.phase }, { on := 10, ground := Ground.phase }, { on := 11, ground := Ground.phase }, { on := 12, ground := Ground.phase }], guard := none }) rfl (fun K hK => ?_) (TilkAll.nil)
  obtain ⟨r0, r1, r2, r3, r4, r5⟩ := HP.out.x.six
  have fz := HP.out.x.fz
  go_simp
  clear r0 r1 r2 r3 r4 r5 fz
  replace HP := Lib.hid (HP.out.put5 (.slice avr (noL lar).length cvr))
  replace HA := Lib.hid (HA.out.aside (bm_side _ N 5 (.slice avr (noL lar).length cvr)) (fun k hk => by omega))
  replace HNN2 := Lib.hid (HNN2.out.aside (bm_side _ N 5 (.slice avr (noL lar).length cvr)) (fun k hk => by omega))
  replace HR := Lib.hid (HR.out.aside (bm_side _ N 5 (.slice avr (noL lar).length cvr)) (fun k hk => by omega))
  refine hK.out _ _ trivial (fun hHeld => ?_)
  clear hK K
  try simp only [Act.put, List.setIfInBounds_toArray, List.set_cons_zero, List.set_cons_succ]
  refine tilk_done (by kernel_rfl) ?_ _
  clear hHeld
  obtain ⟨WE, hWE⟩ : ∃ X, ((w3.setCell ⟨N, 3, none⟩ (.slice ava (noL lan).length cva)).setCell ⟨N, 4, none⟩ (.slice avn (noL lns).length cvn)).setCell ⟨N, 5, none⟩ (.slice avr (noL lar).length cvr) = X := ⟨_, rfl⟩
  rw [hWE] at HP HA HNN2 HR ⊢
  clear hWE
  have hse := HP.out.size
  obtain ⟨r0, r1, r2, r3, r4, r5⟩ := HP.out.x.six
  obtain ⟨z0, z1, z2, z3, z4, z5⟩ := HP.out.z.six
  have fy := HP.out.z.fz
  have hmg : Mg WE WE.heap.size (.agg #[.int .i64 i0, .int .i64 f0, .slice xa l.length xc, .slice ava (noL lan).length cva, .slice avn (noL lns).length cvn, .slice avr (noL lar).length cvr]) ⟨i0, f0, l, noL lan, noL lns, noL lar⟩ :=
    ⟨_, _, _, _, rfl, (HQ.out _ HP.out.bel).wide (by have := HP.out.size; have := HHI.out; omega), HA.out.sr (by have := HLA.out; omega), HNN2.out.sr (by have := HLNS.out; omega), HR.out.sr (by have := HLR.out; omega)⟩
  have HOW := Lib.hid (ownMild_any hmg (Nat.le_refl _) HMS.out)
  clear hmg HA HNN2 HR HCA HCN HCR
  go_wp2_with fail
  refine HOW.out.mono ?_; rintro e w7 ⟨v, rfl, ho, hb⟩
  replace HP := Lib.hid (HP.out.later hb)
  have HO := Lib.hid ho
  have HSE := Lib.hid (show N + 2 ≤ WE.heap.size by assumption)
  obtain ⟨o1, o2, o3, o4, rfl, j1, j2, j3, j4⟩ := ho
  obtain ⟨b1, e1, rfl⟩ := row_shape j1
  obtain ⟨b2, e2, rfl⟩ := row_shape j2
  obtain ⟨b3, e3, rfl⟩ := row_shape j3
  obtain ⟨b4, e4, rfl⟩ := row_shape j4
  clear r0 r1 r2 r3 r4 r5 z0 z1 z2 z3 z4 z5 fy hb j1 j2 j3 j4
  obtain ⟨z0, z1, z2, z3, z4, z5⟩ := HP.out.z.six
  have fy := HP.out.z.fz
  go_wp2_with fail
  clear z0 z1 z2 z3 z4 z5 fy
  have hk := HP.out.fin (.int .i64 i0) (.int .i64 f0) (.slice b1 l.length e1) (.slice b2 (noL lan).length e2) (.slice b3 (noL lns).length e3) (.slice b4 (noL lar).length e4)
  obtain ⟨m0, m1, m2, m3, m4, m5⟩ := hk.2.1.six
  have HF := Lib.hid (And.intro hk.1 (HO.out.aside hk.2.2 (fun k hk => by have := HSE.out; omega)))
  unfold put6 at m0 m1 m2 m3 m4 m5 HF
  clear hk
  refine bodyPost_ret (v := .agg #[.int .i64 i0, .int .i64 f0, .slice b1 l.length e1, .slice b2 (noL lan).length e2, .slice b3 (noL lns).length e3, .slice b4 (noL lar).length e4]) (by simp [results, Tryz.results25, go_sem, m0, m1, m2, m3, m4, m5]) rfl ⟨_, rfl, ?_, ?_⟩
  · first | exact HF.out.2.base (by have := HSE.out; omega) | (rw [hN]; exact HF.out.2.base (by have := HSE.out; omega))
  · first | exact HF.out.1 | (rw [hN]; exact HF.out.1)
end Go.Proofs.YteegekpanadmkaaGreat

/-
  A sheet's message, with so many entries left out.
-/
namespace Go.Proofs.YteegekpanadmkaaGreat
open Go.RowKit Go.Shelf
set_option linter.unusedVariables false
set_option linter.unusedSimpArgs false
set_option maxRecDepth 100000

section
variable {w w' : World} {B p b : Nat} {i f : Int} {E : List En} {ord : List Nat} {va vo : Value} {O : List Bool}
theorem Wd.aside {G : Nat → Prop} (h : Wd w B p b i f E ord va vo O) (ha : Aside G w w') (hp : ¬ G p) (hb : ¬ G b) (hG : ∀ g, vo.ownBlock = some g → ¬ G g) (hv : ∀ g, va.ownBlock = some g → ¬ G g) : Wd w' B p b i f E ord va vo O := by
  obtain ⟨h1, h2, h3, h4, h5⟩ := h
  refine ⟨h1.aside (by simp) ha hp, h2, row_aside h3 ha hv, h4, ?_⟩
  rcases h5 with h5 | ⟨c, g, d, e1, e2, e3⟩
  · exact .inl h5
  · exact .inr ⟨c, g, d, e1, e2, e3.aside ha (hG g (by rw [e2]; rfl))⟩
theorem Wd.below (h : Wd w B p b i f E ord va vo O) (hb : Below w.heap.size w w') : Wd w' B p b i f E ord va vo O := by
  obtain ⟨h1, h2, h3, h4, h5⟩ := h
  refine ⟨h1.below (by simp) hb, h2, row_below h3 hb, h4, ?_⟩
  rcases h5 with h5 | ⟨c, g, d, e1, e2, e3⟩
  · exact .inl h5
  · exact .inr ⟨c, g, d, e1, e2, e3.aside (Aside.of_all hb : Aside (fun _ => False) w w') id⟩
theorem Wd.lts (h : Wd w B p b i f E ord va vo O) : p < w.heap.size := h.1.lt (by simp)
/-- A mark is set. -/
theorem Wd.set (h : Wd w B p b i f E ord va vo O) {x : Nat} (hx : x < E.length) (o : Bool) : w.cell? ⟨b, x * 10, none⟩ = some (.int .i64 E[x].k) ∧ (∃ o0, w.cell? ⟨b, x * 10 + 9, none⟩ = some (.bool o0)) ∧ w.frozen? ⟨b, x * 10 + 9, none⟩ = false ∧ b < w.heap.size ∧ p ≠ b ∧
    Wd (w.setCell ⟨b, x * 10 + 9, none⟩ (.bool o)) B p b i f E ord va vo (O.set x o) := by
  obtain ⟨h1, h2, h3, h4, h5⟩ := h
  rcases h5 with ⟨h5, _⟩ | ⟨c, g, d, rfl, rfl, e3⟩
  · omega
  · have ho : O[x]? = some O[x] := List.getElem?_eq_getElem (by omega)
    have c0 := h3.at_ x hx _ ho 0 (by omega)
    have c9 := h3.at_ x hx _ ho 9 (by omega)
    have hbl := World.ownsRow.lt h3 b rfl
    have h2s : Aside (fun k => k = b) w (w.setCell ⟨b, x * 10 + 9, none⟩ (.bool o)) := Aside.setCell _ (p := ⟨b, x * 10 + 9, none⟩) _ rfl
    have hst := (World.ownsRow.stored h3 (x * 10 + 9) (.bool o)).1
    rw [acE_set E O x hx o h2] at hst
    have hbg : ¬ g = b := fun e => row_apart h3 e3 (by decide) b rfl (by rw [e]; rfl)
    refine ⟨c0, ⟨O[x], c9⟩, World.ownsRow.frozenAt h3 _, hbl.2, by omega, h1.aside (by simp) h2s (by omega), by simpa using h2, hst, h4, .inr ⟨c, g, d, rfl, rfl, e3.aside h2s hbg⟩⟩
end
/-- What is told of a sheet. -/
def WoPost (w : World) (B p b : Nat) (i f : Int) (E : List En) (ord : List Nat) (n : Nat) (e : Ending) (w' : World) : Prop :=
  ∃ v, e = .returned v ∧ Sht w' B p b i f E ord ∧ OwnX w' w.heap.size v (gath (fun x => decide (x ∈ ord.take n)) 0 E ⟨i, flG (kOf E) (ord.take n) f, [], [], [], []⟩) ∧ Aside (fun k => k = b) w w'

set_option maxHeartbeats 4000000 in
theorem without_any {w : World} {B p b : Nat} {i f : Int} {E : List En} {ord : List Nat} (h : Sht w B p b i f E ord) (hm : Mrg (kOf E) ord (List.range E.length).reverse) (hE : E.length ≤ 100000) (hB : B ≤ w.heap.size) (hbw : b < w.heap.size) (h0 : 0 ≤ f) (h1 : f ≤ 65535) (n : Nat) (hn : n ≤ 1000000) :
    Calls Tryz.prog 34 #[.pointer (some ⟨p, 0, none⟩), .int .i64 n] w (WoPost w B p b i f E ord n) := by
  obtain ⟨va, vo, O0, hW⟩ := h
  obtain ⟨R, hR⟩ : ∃ R, w.heap.size = R := ⟨_, rfl⟩
  have hpR : p < R := by have := hW.lts; omega
  obtain ⟨s0, s1, s2, s3⟩ := (show w.cell? ⟨p, 0, none⟩ = some (.int .i64 i) ∧ w.cell? ⟨p, 1, none⟩ = some (.int .i64 f) ∧ w.cell? ⟨p, 2, none⟩ = some va ∧ w.cell? ⟨p, 3, none⟩ = some vo from ⟨hW.1.c 0 (by simp), hW.1.c 1 (by simp), hW.1.c 2 (by simp), hW.1.c 3 (by simp)⟩)
  have hWa : ∃ a c, va = .slice a E.length c := row_shape hW.2.2.1
  have hWo : ∃ a c, vo = .slice a E.length c := by
    rcases hW.2.2.2.2 with ⟨e1, e2⟩ | ⟨c, g, d, _, e2, _⟩
    · exact ⟨none, 0, by rw [e1]; exact e2⟩
    · exact ⟨_, _, e2⟩
  obtain ⟨aa, ac, rfl⟩ := hWa
  obtain ⟨oa, oc, rfl⟩ := hWo
  obtain ⟨NE, hNE⟩ : ∃ k, E.length = k := ⟨_, rfl⟩
  rw [hNE] at s2 s3
  have HW := Lib.hid hW
  have HM := Lib.hid hm
  have HN := Lib.hid (show E.length = NE ∧ NE ≤ 100000 ∧ B ≤ R ∧ b < R ∧ w.heap.size = R from ⟨hNE, by omega, by omega, by omega, hR⟩)
  have HF := Lib.hid (And.intro h0 h1)
  have HVB := Lib.hid (show (∀ g, (Value.slice oa E.length oc).ownBlock = some g → g < R) ∧ (∀ g, (Value.slice aa E.length ac).ownBlock = some g → g < R) from ⟨fun g hg => by
    rcases hW.2.2.2.2 with ⟨_, e2⟩ | ⟨c, g', d, _, e2, e3⟩
    · rw [e2] at hg; simp [Value.ownBlock] at hg
    · rw [e2] at hg; simp [Value.ownBlock] at hg; have := e3.lt.2; omega, fun g hg => by have := (World.ownsRow.lt hW.2.2.1 g hg).2; omega⟩)
  clear hW hm h0 h1 hE hB hbw
  go_enter Tryz.func34, Tryz.ntmps34
  go_wp2_with fail
  go_region
  go_wp2_with fail
  obtain ⟨W0, hW0⟩ : ∃ X, ((w.alloc (.cells #[.int .i64 0, .int .i64 0, .slice none 0 0, .slice none 0 0, .slice none 0 0, .slice none 0 0] 25)).alloc (.cells #[.int .i64 i, .int .i64 f, .slice none 0 0, .slice none 0 0, .slice none 0 0, .slice none 0 0] 25)).drew = X := ⟨_, rfl⟩
  rw [hW0]
  have hb0 : Below w.heap.size w W0 := by rw [← hW0]; exact (((Below.refl _ _).alloc (Nat.le_refl _) _).alloc (by simp) _).drew
  have hz0 : Cel W0 R [.int .i64 0, .int .i64 0, .slice none 0 0, .slice none 0 0, .slice none 0 0, .slice none 0 0] := by
    rw [← hW0, ← hR]
    exact (cel_new6 w (.int .i64 0) (.int .i64 0) (.slice none 0 0) (.slice none 0 0) (.slice none 0 0) (.slice none 0 0) 25).below (by simp) (((Below.refl _ _).alloc (Nat.le_refl _) _).drew)
  have hm0 : Cel W0 (R + 1) [.int .i64 i, .int .i64 f, .slice none 0 0, .slice none 0 0, .slice none 0 0, .slice none 0 0] := by
    have := cel_new6 (w.alloc (.cells #[.int .i64 0, .int .i64 0, .slice none 0 0, .slice none 0 0, .slice none 0 0, .slice none 0 0] 25)) (.int .i64 i) (.int .i64 f) (.slice none 0 0) (.slice none 0 0) (.slice none 0 0) (.slice none 0 0) 25
    rw [World.size_alloc, hR] at this
    rw [← hW0]
    exact ⟨this.c, this.fz⟩
  have hsz0 : W0.heap.size = R + 2 := by rw [← hW0, ← hR]; simp [World.drewN, World.drew]
  have H0 := Lib.hid (And.intro (HW.out.below hb0) (And.intro hz0 (And.intro hm0 (And.intro (Aside.of_all hb0 : Aside (fun k => k = b) w W0) hsz0))))
  clear hW0 hb0 hz0 hm0 hsz0 s0 s1 s2 s3
  go_loopg [24] NE (fun kx s wr => ∃ (j : Nat) (O : List Bool), j + kx = NE ∧ s = .int .i64 j ∧ Hid (Wd wr B p b i f E ord (.slice aa E.length ac) (.slice oa E.length oc) O ∧ (∀ t x, t < j → ord[t]? = some x → O[x]? = some (decide (t < n))) ∧
    Cel wr R [.int .i64 0, .int .i64 0, .slice none 0 0, .slice none 0 0, .slice none 0 0, .slice none 0 0] ∧ Cel wr (R + 1) [.int .i64 i, .int .i64 (flG (kOf E) ((ord.take n).take j) f), .slice none 0 0, .slice none 0 0, .slice none 0 0, .slice none 0 0] ∧ Aside (fun k => k = b) w wr ∧ R + 2 ≤ wr.heap.size))
  case atStart => exact ⟨0, O0, by omega, rfl, Lib.hid ⟨H0.out.1, fun t x h => by omega, H0.out.2.1, by simpa [flG] using H0.out.2.2.1, H0.out.2.2.2.1, by rw [H0.out.2.2.2.2]; exact Nat.le_refl _⟩⟩
  case round =>
    clear H0
    obtain ⟨j, O, hj, rfl, HH⟩ := hrel
    by_cases hlt : j < NE
    · obtain ⟨k1, k2, k3, k4, k5, k6⟩ := HH.out
      have hEN := HN.out.1
      have hol : ord.length = NE := by have := HM.out.1.length_eq; rw [List.length_reverse, List.length_range] at this; omega
      have hxo : ord[j]? = some (ord[j]'(by omega)) := List.getElem?_eq_getElem (by omega)
      obtain ⟨x, hx⟩ : ∃ x, ord[j]'(by omega) = x := ⟨_, rfl⟩
      rw [hx] at hxo
      have hxN : x < E.length := by
        have : x ∈ (List.range E.length).reverse := HM.out.1.mem_iff.mp (by rw [← hx]; exact List.getElem_mem _)
        simpa using this
      obtain ⟨c, g, d, hva, hvo, hP⟩ : ∃ c g d, Value.slice aa E.length ac = .slice (some ⟨b, 0, none⟩) E.length c ∧ Value.slice oa E.length oc = .slice (some ⟨g, 0, none⟩) E.length d ∧ Pr wr B b g d E.length ord := by
        rcases k1.2.2.2.2 with ⟨e1, _⟩ | h
        · omega
        · exact h
      injection hvo with hvo _ hvo2
      subst hvo; subst hvo2
      clear hva
      have c1 := hP.at_ j (by omega) x hxo
      obtain ⟨c0, ⟨o0, c9⟩, f9, hbw, hpb, hW2⟩ := k1.set hxN (decide (j < n))
      obtain ⟨kx, hkx⟩ : ∃ k, E[x].k = k := ⟨_, rfl⟩
      have hkO : kOf E x = kx := by rw [kOf_at hxN, hkx]
      rw [hkx] at c0
      have hbR := HN.out.2.2.2.1
      have h2s : Aside (fun k => k = b) wr (wr.setCell ⟨b, x * 10 + 9, none⟩ (.bool (decide (j < n)))) := Aside.setCell _ (p := ⟨b, x * 10 + 9, none⟩) _ rfl
      have hmark : ∀ t y, t < j + 1 → ord[t]? = some y → (O.set x (decide (j < n)))[y]? = some (decide (t < n)) := fun t y ht hy => by
        by_cases e : t = j
        · subst e
          rw [hxo] at hy
          injection hy with hy
          subst hy
          rw [List.getElem?_set_self (by rw [k1.2.1]; exact hxN)]
        · have hne : x ≠ y := fun e2 => by
            have hy2 := List.getElem?_eq_some_iff.mp hy
            have := List.pairwise_iff_getElem.mp HM.out.2 t j hy2.1 (by omega) (by omega)
            rw [hy2.2, hx, ← e2] at this
            exact Bef.irr this
          rw [List.getElem?_set, if_neg hne]
          exact k2 t y (by omega) hy
      have m1 : wr.cell? ⟨R + 1, 1, none⟩ = some (.int .i64 (flG (kOf E) ((ord.take n).take j) f)) := k4.c 1 (by simp)
      have fm : wr.frozen? ⟨R + 1, 1, none⟩ = false := k4.fz 1
      have HNEW := Lib.hid (And.intro hW2 (And.intro hmark (And.intro (k3.aside (by simp) h2s (by omega)) (And.intro (k4.aside (by simp) h2s (by omega)) (And.intro (k5.trans h2s) (Nat.le_trans k6 h2s.size))))))
      obtain ⟨F, hF⟩ : ∃ z, flG (kOf E) ((ord.take n).take j) f = z := ⟨_, rfl⟩
      rw [hF] at m1
      have hbM : b ≠ R + 1 := by omega
      have HTK := Lib.hid (show (j < n → (ord.take n).take (j + 1) = (ord.take n).take j ++ [x]) ∧ (¬ j < n → (ord.take n).take (j + 1) = (ord.take n).take j) from ⟨fun h => by
          rw [List.take_take, List.take_take, Nat.min_eq_left (by omega), Nat.min_eq_left (by omega), List.take_succ_eq_append_getElem (by omega), hx], fun h => by
          rw [List.take_take, List.take_take, Nat.min_eq_right (by omega), Nat.min_eq_right (by omega)]⟩)
      have HKF := Lib.hid (And.intro hkO hF)
      have b1 : j < E.length := by omega
      have b0 : NE ≤ 100000 := HN.out.2.1
      unfold pe at c1
      clear HH k1 k2 k3 k4 k5 k6 hW2 hmark h2s hP hkx hkO hx hol hEN hbR hF
      by_cases hjn : j < n
      · rw [show decide (j < n) = true by simpa using hjn] at HNEW
        have HC := Lib.hid (inAr_any (w := wr.setCell ⟨b, x * 10 + 9, none⟩ (.bool true)) (b := b) (o := x * 10) (k := kx) (by rw [World.cell?_setCell_other _ _ _ _ (by simp)]; exact c0))
        have mb : (wr.setCell ⟨b, x * 10 + 9, none⟩ (.bool true)).cell? ⟨R + 1, 1, none⟩ = some (.int .i64 F) := by rw [World.cell?_setCell_other _ _ _ _ (by first | (simp; done) | (simp; omega))]; exact m1
        have fb : (wr.setCell ⟨b, x * 10 + 9, none⟩ (.bool true)).frozen? ⟨R + 1, 1, none⟩ = false := by rw [World.frozen?_setCell]; exact fm
        obtain ⟨lt, hlt2⟩ : ∃ z, late kx = z := ⟨_, rfl⟩
        rw [hlt2] at HC
        have HLT := Lib.hid hlt2
        clear hlt2
        go_wp2_with fail
        refine HC.out.mono ?_; rintro en w1 ⟨rfl, rfl⟩
        cases lt with
        | true =>
          go_wp2_with fail
          go_roundg (NE - (j + 1))
          case rel =>
            have e := flG_more (κ := kOf E) (l := (ord.take n).take j) HF.out.1 HF.out.2 x
            rw [HKF.out.1, HLT.out, if_pos rfl, HKF.out.2, ← HTK.out.1 hjn] at e
            obtain ⟨k1, k2, k3, k4, k5, k6⟩ := HNEW.out
            have h3 : Aside (fun k => k = R + 1) (wr.setCell ⟨b, x * 10 + 9, none⟩ (.bool true)) ((wr.setCell ⟨b, x * 10 + 9, none⟩ (.bool true)).setCell ⟨R + 1, 1, none⟩ (.int .i64 (bits .or .i64 F 512))) := Aside.setCell _ (p := ⟨R + 1, 1, none⟩) _ rfl
            refine ⟨j + 1, _, by omega, by go_num, Lib.hid ⟨k1.aside h3 (by omega) (by have := HN.out; omega) (fun g hg => by have := HVB.out.1 g hg; omega) (fun g hg => by have := HVB.out.2 g hg; omega), k2, k3.aside (by simp) h3 (by omega), ?_, k5.onto h3 (fun k hk _ hg => by have := HN.out; omega), Nat.le_trans k6 h3.size⟩⟩
            rw [← e]
            exact k4.set (o := 1) (by simp) (.int .i64 (bits .or .i64 F 512))
          case measure => omega
        | false =>
          go_wp2_with fail
          go_roundg (NE - (j + 1))
          case rel =>
            have e := flG_more (κ := kOf E) (l := (ord.take n).take j) HF.out.1 HF.out.2 x
            rw [HKF.out.1, HLT.out, if_neg (by simp), ← HTK.out.1 hjn] at e
            exact ⟨j + 1, _, by omega, by go_num, Lib.hid ⟨HNEW.out.1, HNEW.out.2.1, HNEW.out.2.2.1, by rw [← e]; exact HNEW.out.2.2.2.1, HNEW.out.2.2.2.2.1, HNEW.out.2.2.2.2.2⟩⟩
          case measure => omega
      · rw [show decide (j < n) = false by simpa using hjn] at HNEW
        have hd : decide ((j : Int) < n) = false := by simpa using hjn
        go_wp2_with fail
        go_roundg (NE - (j + 1))
        case rel => exact ⟨j + 1, _, by omega, by go_num, Lib.hid ⟨HNEW.out.1, HNEW.out.2.1, HNEW.out.2.2.1, by rw [HTK.out.2 hjn]; exact HNEW.out.2.2.2.1, HNEW.out.2.2.2.2.1, HNEW.out.2.2.2.2.2⟩⟩
        case measure => omega
    · obtain rfl : j = NE := by omega
      obtain ⟨k1, k2, k3, k4, k5, k6⟩ := HH.out
      have hEN := HN.out.1
      have hol : ord.length = j := by have := HM.out.1.length_eq; rw [List.length_reverse, List.length_range] at this; omega
      rw [List.take_of_length_le (by rw [List.length_take]; omega)] at k4
      have hmk : ∀ x, x < j → O[x]? = some (decide (x ∈ ord.take n)) := fun x hx => by
        have hx2 : x ∈ ord := HM.out.1.mem_iff.mpr (by simp; omega)
        obtain ⟨t, ht, e⟩ := List.mem_iff_getElem.mp hx2
        have h2 : ord[t]? = some x := by rw [← e]; exact List.getElem?_eq_getElem ht
        rw [k2 t x (by omega) h2]
        congr 1
        simp only [decide_eq_decide]
        constructor
        · intro h
          exact List.mem_iff_getElem.mpr ⟨t, by rw [List.length_take]; omega, by rw [List.getElem_take]; exact e⟩
        · intro h
          obtain ⟨t2, ht2, e2⟩ := List.mem_iff_getElem.mp h
          rw [List.length_take] at ht2
          rw [List.getElem_take] at e2
          rcases Nat.lt_trichotomy t t2 with h3 | h3 | h3
          · have := List.pairwise_iff_getElem.mp HM.out.2 t t2 ht (by omega) h3
            rw [e, e2] at this
            exact absurd this Bef.irr
          · omega
          · have := List.pairwise_iff_getElem.mp HM.out.2 t2 t (by omega) ht h3
            rw [e, e2] at this
            exact absurd this Bef.irr
      obtain ⟨FL, hFL⟩ : ∃ z, flG (kOf E) (ord.take n) f = z := ⟨_, rfl⟩
      rw [hFL] at k4
      have HG0 := Lib.hid (show Gat wr (R + 1) (R + 2) ⟨i, FL, [], [], [], []⟩ (.slice none 0 0) (.slice none 0 0) (.slice none 0 0) (.slice none 0 0) from
        ⟨k4, World.ownsRow_nil _ _ _ _, World.ownsRow_nil _ _ _ _, World.ownsRow_nil _ _ _ _, World.ownsRow_nil _ _ _ _, dif_nil _, dif_nil _, dif_nil _, by omega, k6⟩)
      have HWD := Lib.hid (And.intro k1 (And.intro k3 (And.intro k5 hmk)))
      have HFL := Lib.hid hFL
      have s2 : wr.cell? ⟨p, 2, none⟩ = some (.slice aa j ac) := by rw [← hEN]; exact k1.1.c 2 (by simp)
      clear HH k1 k2 k3 k4 k5 hmk hFL hol
      go_wp2_with fail
      clear s2
      obtain ⟨w1, rfl⟩ : ∃ w1, w1 = wr := ⟨wr, rfl⟩
      go_loopg [54] j (fun kx s wy => ∃ (z : Nat) (q a n' r : Value), z + kx = j ∧ s = .int .i64 z ∧ Hid (Gat wy (R + 1) (R + 2) (gath (fun x => decide (x ∈ ord.take n)) 0 (E.take z) ⟨i, FL, [], [], [], []⟩) q a n' r ∧ Below (R + 1) w1 wy))
      case atStart => exact ⟨0, _, _, _, _, by omega, rfl, Lib.hid ⟨by simpa [gath] using HG0.out, Below.refl _ _⟩⟩
      case round =>
        clear HG0
        obtain ⟨z, q, a, n', r, hz, rfl, HG⟩ := hrel
        have hbR : b < R := HN.out.2.2.2.1
        by_cases hlz : z < j
        · have hzE : z < E.length := by omega
          obtain ⟨c, g, d, hva, _, _⟩ : ∃ c g d, Value.slice aa E.length ac = .slice (some ⟨b, 0, none⟩) E.length c ∧ Value.slice oa E.length oc = .slice (some ⟨g, 0, none⟩) E.length d ∧ Pr w1 B b g d E.length ord := by
            rcases HWD.out.1.2.2.2.2 with ⟨e1, _⟩ | h
            · omega
            · exact h
          injection hva with hva _ hva2
          subst hva; subst hva2
          have hO := HWD.out.2.2.2 z hlz
          have hAt : AtE wr b (z * 10) E[z] := ⟨_, fun i u hu => by
            have h9 : i < 10 := by have := (List.getElem?_eq_some_iff.mp hu).1; rw [ce_len] at this; exact this
            rw [HG.out.2.cell (p := ⟨b, z * 10 + i, none⟩) (by show b < R + 1; omega), OwnEn.at_ HWD.out.1.2.2.1 z hzE _ hO i h9]
            exact hu⟩
          have c9 : wr.cell? ⟨b, z * 10 + 9, none⟩ = some (.bool (decide (z ∈ ord.take n))) := by
            rw [HG.out.2.cell (p := ⟨b, z * 10 + 9, none⟩) (by show b < R + 1; omega), OwnEn.at_ HWD.out.1.2.2.1 z hzE _ hO 9 (by omega)]
            rfl
          have s2 : wr.cell? ⟨p, 2, none⟩ = some (.slice (some ⟨b, 0, none⟩) j ac) := by
            rw [HG.out.2.cell (p := ⟨p, 2, none⟩) (by show p < R + 1; omega), ← hEN]
            exact HWD.out.1.1.c 2 (by simp)
          have hmore := gath_more (fun x => decide (x ∈ ord.take n)) E z hzE ⟨i, FL, [], [], [], []⟩
          have HMO := Lib.hid hmore
          have htot := gath_tot (fun x => decide (x ∈ ord.take n)) (E.take z) 0 ⟨i, FL, [], [], [], []⟩
          have hjN : j ≤ 100000 := HN.out.2.1
          simp only [List.length_nil] at htot
          rw [List.length_take, Nat.min_eq_left (by omega)] at htot
          have HPUT := Lib.hid (putEn_any HG.out.1 hAt (by omega) (by omega))
          obtain ⟨dz, hdz⟩ : ∃ x, decide (z ∈ ord.take n) = x := ⟨_, rfl⟩
          rw [hdz] at c9
          have HDZ := Lib.hid hdz
          clear hO hAt hmore htot hdz
          cases dz with
          | true =>
            go_wp2_with fail
            go_roundg (j - (z + 1))
            case rel => exact ⟨z + 1, _, _, _, _, by omega, by go_num, Lib.hid ⟨by rw [HMO.out]; simp only [HDZ.out, if_true]; exact HG.out.1, HG.out.2⟩⟩
            case measure => omega
          | false =>
            go_wp2_with fail
            refine HPUT.out.mono ?_; rintro en w2 ⟨rfl, ⟨q', a', n'', r', hG⟩, hB⟩
            have HG2 := Lib.hid (And.intro hG hB)
            clear hG hB
            go_wp2_with fail
            go_roundg (j - (z + 1))
            case rel => exact ⟨z + 1, _, _, _, _, by omega, by go_num, Lib.hid ⟨by rw [HMO.out]; simp only [HDZ.out, Bool.false_eq_true, if_false]; exact HG2.out.1, HG.out.2.trans HG2.out.2⟩⟩
            case measure => omega
        · obtain rfl : z = j := by omega
          rw [List.take_of_length_le (l := E) (by omega)] at HG
          obtain ⟨GM, hGM⟩ : ∃ m, gath (fun x => decide (x ∈ ord.take n)) 0 E ⟨i, FL, [], [], [], []⟩ = m := ⟨_, rfl⟩
          rw [hGM] at HG
          have HGM := Lib.hid hGM
          obtain ⟨x0, x1, x2, x3, x4, x5⟩ := HG.out.1.x.six
          have hZ := HWD.out.2.1.aside (by simp) (Aside.of_below (G := fun k => R + 1 ≤ k) HG.out.2 (fun k _ h => by omega)) (by omega)
          obtain ⟨z0, z1, z2, z3, z4, z5⟩ := hZ.six
          have fz := hZ.fz
          obtain ⟨q1, q2, rfl⟩ := row_shape HG.out.1.oq
          obtain ⟨a1, a2, rfl⟩ := row_shape HG.out.1.oa
          obtain ⟨n1, n2, rfl⟩ := row_shape HG.out.1.on
          obtain ⟨r1, r2, rfl⟩ := row_shape HG.out.1.or
          have HZ := Lib.hid hZ
          clear hGM hZ
          go_wp2_with fail
          clear z0 z1 z2 z3 z4 z5 fz x0 x1 x2 x3 x4 x5
          have hc6 := cel_put6 HZ.out (.int .i64 GM.id) (.int .i64 GM.fl) (.slice q1 GM.q.length q2) (.slice a1 GM.an.length a2) (.slice n1 GM.ns.length n2) (.slice r1 GM.ar.length r2)
          have ha6 := aside_put6 wr R (.int .i64 GM.id) (.int .i64 GM.fl) (.slice q1 GM.q.length q2) (.slice a1 GM.an.length a2) (.slice n1 GM.ns.length n2) (.slice r1 GM.ar.length r2)
          have hA1 : Aside (fun k => R + 1 ≤ k) w1 wr := Aside.of_below HG.out.2 (fun k _ h => by omega)
          obtain ⟨m0, m1, m2, m3, m4, m5⟩ := hc6.six
          have HFIN := Lib.hid (And.intro ha6 hA1)
          unfold put6 at m0 m1 m2 m3 m4 m5 HFIN
          clear hc6 ha6 hA1
          refine bodyPost_ret (v := .agg #[.int .i64 GM.id, .int .i64 GM.fl, .slice q1 GM.q.length q2, .slice a1 GM.an.length a2, .slice n1 GM.ns.length n2, .slice r1 GM.ar.length r2]) (by simp [results, Tryz.results34, go_sem, m0, m1, m2, m3, m4, m5]) rfl ⟨_, rfl, ?_, ?_, ?_⟩
          · have h1 := HWD.out.1.aside HFIN.out.2 (by omega) (by omega) (fun g hg => by have := HVB.out.1 g hg; omega) (fun g hg => by have := HVB.out.2 g hg; omega)
            exact ⟨_, _, O, h1.aside HFIN.out.1 (by omega) (by omega) (fun g hg => by have := HVB.out.1 g hg; omega) (fun g hg => by have := HVB.out.2 g hg; omega)⟩
          · rw [HFL.out, HGM.out, hR]
            have h2 : ∀ {e : TypeId} {k nn : Nat} {v : Value} {xs : List Value}, wr.ownsRow (R + 2) e k v nn xs → ∀ g, v.ownBlock = some g → ¬ g = R := fun h g hg he => by have := (World.ownsRow.lt h g hg).1; omega
            exact ⟨_, _, _, _, rfl, row_base (row_aside HG.out.1.oq HFIN.out.1 (h2 HG.out.1.oq)) (by omega), row_base (row_aside HG.out.1.oa HFIN.out.1 (h2 HG.out.1.oa)) (by omega), row_base (row_aside HG.out.1.on HFIN.out.1 (h2 HG.out.1.on)) (by omega), row_base (row_aside HG.out.1.or HFIN.out.1 (h2 HG.out.1.or)) (by omega), HG.out.1.ar, HG.out.1.nr⟩
          · exact (HWD.out.2.2.1.onto HFIN.out.2 (fun k hk _ h => by omega)).onto HFIN.out.1 (fun k hk _ h => by omega)
end Go.Proofs.YteegekpanadmkaaGreat

/-
  The shortest names are put.
-/
namespace Go.Proofs.YteegekpanadmkaaGreat
open Go.RowKit Go.Shelf
set_option linter.unusedVariables false
set_option linter.unusedSimpArgs false
set_option maxRecDepth 100000

/-- The cells of a record, by another name. -/
abbrev cr_ := cr
theorem acr_put (A L : List Rc) (x : Rc) (k : Nat) (hk : A.length = k) : (acr (A ++ x :: L)).set (k * 5) (.string ⟨#[0]⟩) = acr (A ++ rt x :: L) := by
  subst hk
  rw [acr_app, acr_app, List.set_append_right _ _ (by rw [acr_len]; exact Nat.le_refl _), acr_len, Nat.sub_self]
  rfl
/-- What putting them comes to. -/
def BrPost (w : World) (B : Nat) (m : Ms) (e : Ending) (w' : World) : Prop := ∃ v, e = .returned (.tuple #[v, .int .i64 (moL m.ar)]) ∧ OwnM w' B v (brM m) ∧ Below B w w'

set_option maxHeartbeats 4000000 in
theorem bare_any {w : World} {B : Nat} {v : Value} {m : Ms} (h : OwnX w B v m) (hB : B ≤ w.heap.size) (hn : m.ar.length ≤ 100000) :
    Calls Tryz.prog 33 #[v] w (BrPost w B m) := by
  obtain ⟨i0, f0, lq, lan, lns, lar⟩ := m
  obtain ⟨q, a, n, r, rfl, hq, ha, hns, hr, hd1, hd2⟩ := h
  simp only at hq ha hns hr hn ⊢
  obtain ⟨qa, qc, rfl⟩ := row_shape hq
  obtain ⟨aa, ac, rfl⟩ := row_shape ha
  obtain ⟨na, nc, rfl⟩ := row_shape hns
  obtain ⟨ra, rc, rfl⟩ := row_shape hr
  obtain ⟨N, hN⟩ : ∃ N, w.heap.size = N := ⟨_, rfl⟩
  obtain ⟨cq, hcq⟩ : ∃ k, lq.length = k := ⟨_, rfl⟩
  obtain ⟨ca, hca⟩ : ∃ k, lan.length = k := ⟨_, rfl⟩
  obtain ⟨cn, hcn⟩ : ∃ k, lns.length = k := ⟨_, rfl⟩
  obtain ⟨cr, hcr⟩ : ∃ k, lar.length = k := ⟨_, rfl⟩
  have HROW := Lib.hid (fun h => row_some hr h)
  have HH := Lib.hid (And.intro hq (And.intro ha (And.intro hns (And.intro hr (And.intro hd1 hd2)))))
  rw [hcq, hca, hcn, hcr] at HH
  rw [hcr] at HROW
  rw [hcq, hca, hcn, hcr]
  have HL := Lib.hid (And.intro hcq (And.intro hca (And.intro hcn (And.intro hcr (And.intro hN hB)))))
  obtain ⟨W0, hW0⟩ : ∃ X, (w.alloc (.cells #[.int .i64 i0, .int .i64 f0, .slice qa cq qc, .slice aa ca ac, .slice na cn nc, .slice ra cr rc] 25)).alloc (.cells #[.int .i64 0, .int .i64 0, .slice none 0 0, .slice none 0 0, .slice none 0 0, .slice none 0 0] 25) = X := ⟨_, rfl⟩
  have hb0 : Below w.heap.size w W0 := by rw [← hW0]; exact ((Below.refl _ _).alloc (Nat.le_refl _) _).alloc (by simp) _
  have hx0 : Cel W0 N [.int .i64 i0, .int .i64 f0, .slice qa cq qc, .slice aa ca ac, .slice na cn nc, .slice ra cr rc] := by
    rw [← hW0, ← hN]
    exact (cel_new6 w _ _ _ _ _ _ 25).below (by simp) ((Below.refl _ _).alloc (Nat.le_refl _) _)
  have hz0 : Cel W0 (N + 1) [.int .i64 0, .int .i64 0, .slice none 0 0, .slice none 0 0, .slice none 0 0, .slice none 0 0] := by
    have := cel_new6 (w.alloc (.cells #[.int .i64 i0, .int .i64 f0, .slice qa cq qc, .slice aa ca ac, .slice na cn nc, .slice ra cr rc] 25)) (.int .i64 0) (.int .i64 0) (.slice none 0 0) (.slice none 0 0) (.slice none 0 0) (.slice none 0 0) 25
    rw [World.size_alloc, hN, hW0] at this
    exact this
  have H0 := Lib.hid (And.intro hb0 (And.intro hx0 hz0))
  have HW0 := Lib.hid hW0
  have hcr5 : cr ≤ 100000 := by omega
  clear hq ha hns hr hd1 hd2 hcq hca hcn hcr hB hb0 hx0 hz0 hW0
  go_enter Tryz.func33, Tryz.ntmps33
  go_wp2_with fail
  rw [HW0.out]
  clear HW0
  go_loopg [4, 5] cr (fun kx s t wr => ∃ (k : Nat) (A D : List Rc), k ≤ kx ∧ k ≤ cr ∧ s = .int .i64 (mors D : Nat) ∧ t = .int .i64 ((k : Int) - 1) ∧ mors D + k ≤ cr ∧
    Hid (lar = A ++ D ∧ A.length = k ∧ D.all isO = true ∧ OwnRc wr B (.slice ra cr rc) (A ++ D.map rt) ∧ Aside (fun k => (Value.slice ra cr rc).ownBlock = some k) W0 wr))
  case atStart => exact ⟨cr, lar, [], Nat.le_refl _, Nat.le_refl _, rfl, rfl, by simp [mors], Lib.hid ⟨by simp, HL.out.2.2.2.1, rfl, by rw [List.map_nil, List.append_nil]; exact row_below HH.out.2.2.2.1 H0.out.1, Aside.refl _ _⟩⟩
  case round =>
    obtain ⟨k, A, D, hk, hkr, rfl, rfl, hmD, HS⟩ := hrel
    have hlt0 := World.ownsRow.lt HH.out.2.2.2.1
    have hX := H0.out.2.1.aside (by simp) HS.out.2.2.2.2 (fun hg => by have := (hlt0 N hg).2; have := HL.out; omega)
    have hZ := H0.out.2.2.aside (by simp) HS.out.2.2.2.2 (fun hg => by have := (hlt0 (N + 1) hg).2; have := HL.out; omega)
    obtain ⟨x0, x1, x2, x3, x4, x5⟩ := hX.six
    obtain ⟨z0, z1, z2, z3, z4, z5⟩ := hZ.six
    have fz := hZ.fz
    have HZ := Lib.hid (And.intro hX hZ)
    clear hX hZ hlt0
    rcases Nat.eq_zero_or_pos k with h0 | h0
    · subst h0
      rw [show ((0 : Nat) : Int) - 1 = -1 from rfl]
      have HLAST := Lib.hid (show ∀ A' x, A = A' ++ [x] → isO x = false from fun A' x h => by have := HS.out.2.1; rw [h] at this; simp at this)
      go_wp2_with fail
      clear z0 z1 z2 z3 z4 z5 fz x0 x1 x2 x3 x4 x5
      have hc6 := cel_put6 HZ.out.2 (.int .i64 i0) (.int .i64 f0) (.slice qa cq qc) (.slice aa ca ac) (.slice na cn nc) (.slice ra cr rc)
      have ha6 := aside_put6 wr (N + 1) (.int .i64 i0) (.int .i64 f0) (.slice qa cq qc) (.slice aa ca ac) (.slice na cn nc) (.slice ra cr rc)
      obtain ⟨m0, m1, m2, m3, m4, m5⟩ := hc6.six
      have HFIN := Lib.hid ha6
      unfold put6 at m0 m1 m2 m3 m4 m5 HFIN
      clear hc6 ha6
      have hbr := br_parts A D HS.out.2.2.1 HLAST.out
      have hmo : moL lar = mors D := by rw [HS.out.1]; exact hbr.2
      refine bodyPost_ret (v := .tuple #[.agg #[.int .i64 i0, .int .i64 f0, .slice qa cq qc, .slice aa ca ac, .slice na cn nc, .slice ra cr rc], .int .i64 (mors D : Nat)]) (by simp [results, Tryz.results33, go_sem, m0, m1, m2, m3, m4, m5]) rfl ⟨_, by show _ = Ending.returned (.tuple #[_, .int .i64 ((moL lar : Nat) : Int)]); rw [hmo], ?_, ?_⟩
      · have hA : ∀ {l : List Rc} {v : Value}, OwnRc w B v l → (∀ k, v.ownBlock = some k → ¬ (Value.slice ra cr rc).ownBlock = some k) → OwnRc _ B v l := fun h hd => row_aside (row_aside (row_below h H0.out.1) HS.out.2.2.2.2 hd) HFIN.out (fun k hk he => by have := (World.ownsRow.lt h k hk).2; have := HL.out; omega)
        obtain ⟨g1, g2, g3, g4, g5, g6⟩ := HH.out
        have hq1 : OwnQn W0 B (.slice qa cq qc) lq := row_below g1 H0.out.1
        have hr1 := HS.out.2.2.2.1
        have hlr := World.ownsRow.lt g4
        refine ⟨_, _, _, _, rfl, row_aside (row_aside hq1 HS.out.2.2.2.2 (fun k hk hg => row_apart g1 g4 (by decide) k hk hg)) HFIN.out (fun k hk he => by have := (World.ownsRow.lt g1 k hk).2; have := HL.out; omega), hA g2 g5, hA g3 g6, ?_⟩
        show OwnRc _ B _ (brL lar)
        rw [HS.out.1, hbr.1]
        exact row_aside hr1 HFIN.out (fun k hk he => by have := (hlr k hk).2; have := HL.out; omega)
      · have hb := HL.out.2.2.2.2
        have h1 : Below B w W0 := H0.out.1.mono hb.2
        have hlr := World.ownsRow.lt HH.out.2.2.2.1
        exact below_aside (below_aside h1 HS.out.2.2.2.2 (fun k hk => ⟨by have := H0.out.1.size; omega, fun he => by have := (hlr k he).1; omega⟩)) HFIN.out (fun k hk => ⟨by have := H0.out.1.size; have := HS.out.2.2.2.2.size; omega, by omega⟩)
    · obtain ⟨k', rfl⟩ : ∃ k', k = k' + 1 := ⟨k - 1, by omega⟩
      rw [show ((k' + 1 : Nat) : Int) - 1 = (k' : Int) by omega]
      obtain ⟨A', x, hAx⟩ : ∃ l y, A = l ++ [y] := by
        have k2 := HS.out.2.1
        rcases List.eq_nil_or_concat A with rfl | ⟨l, y, rfl⟩
        · simp at k2
        · exact ⟨l, y, by simp⟩
      have hA' : A'.length = k' := by have k2 := HS.out.2.1; rw [hAx] at k2; simpa using k2
      obtain ⟨g, hg⟩ := HROW.out (by omega)
      injection hg with hg _ _
      subst hg
      have k4 := HS.out.2.2.2.1
      rw [hAx] at k4
      have hrow : OwnRc wr B (.slice (some ⟨g, 0, none⟩) cr rc) (A' ++ x :: D.map rt) := by simpa using k4
      have hcl : (A' ++ x :: D.map rt).length = cr := by have h1 := HL.out.2.2.2.1; rw [HS.out.1, hAx] at h1; simpa using h1
      have hrw : wr.ownsRow B 52 5 (.slice (some ⟨g, 0, none⟩) cr rc) cr (acr (A' ++ x :: D.map rt)) := by unfold OwnRc at hrow; rw [hcl] at hrow; exact hrow
      have hat : ∀ i u, (cr_ x)[i]? = some u → wr.cell? ⟨g, k' * 5 + i, none⟩ = some u := fun i u hu => by
        have h5 : i < 5 := (List.getElem?_eq_some_iff.mp hu).1
        rw [World.ownsRow.cellAt hrw _ (by omega)]
        exact flat_at (f := cr_) (k := 5) (fun _ => rfl) (A' ++ x :: D.map rt) k' (by rw [hcl]; omega) i u (by rw [List.getElem_append_right (by omega)]; simpa [hA'] using hu)
      have c0 := hat 0 _ rfl
      have c1 := hat 1 _ rfl
      rw [Nat.add_zero] at c0
      have fg := World.ownsRow.frozenAt hrw (k' * 5)
      have HX := Lib.hid (And.intro hAx (And.intro hA' (And.intro hrw hcl)))
      obtain ⟨xt, hxt⟩ : ∃ t, x.t = t := ⟨_, rfl⟩
      obtain ⟨xn, hxn⟩ : ∃ t, x.n = t := ⟨_, rfl⟩
      rw [hxt] at c1
      rw [hxn] at c0
      have HXN := Lib.hid (And.intro hxt hxn)
      have hkc : k' < cr := by omega
      clear hAx hA' k4 hrow hcl hrw hat hxt hxn
      by_cases h41 : xt = 41
      · subst h41
        have hmx : mors (x :: D) = mor x + mors D := by simp [mors]
        by_cases hxr : xn = [0]
        · have hls : ((bs xn).toList == [0]) = true := by rw [bs_toList]; simp [hxr]
          have hls2 : (!(bs xn).toList == [0]) = false := by rw [hls]; rfl
          have hr0 : rt x = x := by have := HXN.out.2; rw [hxr] at this; unfold rt; rw [← this]
          have hm0 : mor x = 0 := by unfold mor; rw [HXN.out.2, if_pos hxr]
          have HM0 := Lib.hid (And.intro hm0 hr0)
          clear hxr hm0 hr0
          go_wp2_with fail
          go_roundg k'
          case rel =>
            obtain ⟨hm0, hr0⟩ := HM0.out
            refine ⟨k', A', x :: D, Nat.le_refl _, by omega, ?_, by go_num, by rw [hmx, hm0]; omega, Lib.hid ⟨by rw [HS.out.1, HX.out.1]; simp, HX.out.2.1, ?_, ?_, HS.out.2.2.2.2⟩⟩
            · rw [hmx, hm0, Nat.zero_add]
            · rw [List.all_cons, HS.out.2.2.1, Bool.and_true]; unfold isO; rw [HXN.out.1]; rfl
            · rw [List.map_cons, hr0]
              unfold OwnRc
              rw [HX.out.2.2.2]
              exact HX.out.2.2.1
          case measure => omega
        · have hls : ((bs xn).toList == [0]) = false := by rw [bs_toList]; simpa using hxr
          have hls2 : (!(bs xn).toList == [0]) = true := by rw [hls]; rfl
          go_wp2_with fail
          go_roundg k'
          case rel =>
            have hm1 : mor x = 1 := by unfold mor; rw [HXN.out.2, if_neg hxr]
            have hcl2 : (A' ++ rt x :: D.map rt).length = cr := by have := HX.out.2.2.2; simpa using this
            refine ⟨k', A', x :: D, Nat.le_refl _, by omega, ?_, by go_num, ?_, Lib.hid ⟨by rw [HS.out.1, HX.out.1]; simp, HX.out.2.1, ?_, ?_, HS.out.2.2.2.2.trans (Aside.setCell _ (p := ⟨g, k' * 5, none⟩) _ rfl)⟩⟩
            · rw [hmx, hm1, Nat.add_comm]
              go_num
            · rw [hmx, hm1]; omega
            · rw [List.all_cons, HS.out.2.2.1, Bool.and_true]; unfold isO; rw [HXN.out.1]; rfl
            · rw [List.map_cons]
              unfold OwnRc
              rw [hcl2, ← acr_put A' (D.map rt) x k' HX.out.2.1]
              exact (World.ownsRow.stored HX.out.2.2.1 (k' * 5) (.string ⟨#[0]⟩)).1
          case measure => omega
      · have ht41 : (xt == 41) = false := by simpa using h41
        have HLAST := Lib.hid (show ∀ A' x, A = A' ++ [x] → isO x = false from fun A'' y h => by
          rw [HX.out.1] at h
          have := (List.append_inj' h rfl).2
          injection this with this
          rw [← this]
          unfold isO
          rw [HXN.out.1]
          simpa using h41)
        go_wp2_with fail
        clear z0 z1 z2 z3 z4 z5 fz x0 x1 x2 x3 x4 x5
        have hc6 := cel_put6 HZ.out.2 (.int .i64 i0) (.int .i64 f0) (.slice qa cq qc) (.slice aa ca ac) (.slice na cn nc) (.slice (some ⟨g, 0, none⟩) cr rc)
        have ha6 := aside_put6 wr (N + 1) (.int .i64 i0) (.int .i64 f0) (.slice qa cq qc) (.slice aa ca ac) (.slice na cn nc) (.slice (some ⟨g, 0, none⟩) cr rc)
        obtain ⟨m0, m1, m2, m3, m4, m5⟩ := hc6.six
        have HFIN := Lib.hid ha6
        unfold put6 at m0 m1 m2 m3 m4 m5 HFIN
        clear hc6 ha6
        have hbr := br_parts A D HS.out.2.2.1 HLAST.out
        have hmo : moL lar = mors D := by rw [HS.out.1]; exact hbr.2
        refine bodyPost_ret (v := .tuple #[.agg #[.int .i64 i0, .int .i64 f0, .slice qa cq qc, .slice aa ca ac, .slice na cn nc, .slice (some ⟨g, 0, none⟩) cr rc], .int .i64 (mors D : Nat)]) (by simp [results, Tryz.results33, go_sem, m0, m1, m2, m3, m4, m5]) rfl ⟨_, by show _ = Ending.returned (.tuple #[_, .int .i64 ((moL lar : Nat) : Int)]); rw [hmo], ?_, ?_⟩
        · have hA : ∀ {l : List Rc} {v : Value}, OwnRc w B v l → (∀ k, v.ownBlock = some k → ¬ (Value.slice (some ⟨g, 0, none⟩) cr rc).ownBlock = some k) → OwnRc _ B v l := fun h hd => row_aside (row_aside (row_below h H0.out.1) HS.out.2.2.2.2 hd) HFIN.out (fun k hk he => by have := (World.ownsRow.lt h k hk).2; have := HL.out; omega)
          obtain ⟨g1, g2, g3, g4, g5, g6⟩ := HH.out
          have hq1 : OwnQn W0 B (.slice qa cq qc) lq := row_below g1 H0.out.1
          have hr1 := HS.out.2.2.2.1
          have hlr := World.ownsRow.lt g4
          refine ⟨_, _, _, _, rfl, row_aside (row_aside hq1 HS.out.2.2.2.2 (fun k hk hg => row_apart g1 g4 (by decide) k hk hg)) HFIN.out (fun k hk he => by have := (World.ownsRow.lt g1 k hk).2; have := HL.out; omega), hA g2 g5, hA g3 g6, ?_⟩
          show OwnRc _ B _ (brL lar)
          rw [HS.out.1, hbr.1]
          exact row_aside hr1 HFIN.out (fun k hk he => by have := (hlr k hk).2; have := HL.out; omega)
        · have hb := HL.out.2.2.2.2
          have h1 : Below B w W0 := H0.out.1.mono hb.2
          have hlr := World.ownsRow.lt HH.out.2.2.2.1
          exact below_aside (below_aside h1 HS.out.2.2.2.2 (fun k hk => ⟨by have := H0.out.1.size; omega, fun he => by have := (hlr k he).1; omega⟩)) HFIN.out (fun k hk => ⟨by have := H0.out.1.size; have := HS.out.2.2.2.2.size; omega, by omega⟩)
end Go.Proofs.YteegekpanadmkaaGreat

/-
  What the search asks; the search.
-/
namespace Go.Proofs.YteegekpanadmkaaGreat
open Go.RowKit Go.Shelf
set_option linter.unusedVariables false
set_option linter.unusedSimpArgs false
set_option maxRecDepth 100000

/-- What the search asks of a number. -/
def srP (m : Ms) (size : Int) (n : Nat) : Bool := fitW (brM (mcut m n)) (size - (moL (mcut m n).ar : Nat))
/-- A sheet, and nothing but its marks has turned. -/
def StI (w0 : World) (B p b : Nat) (m : Ms) (ord : List Nat) (W : World) : Prop := Sht W B p b m.id m.fl (ents m) ord ∧ Aside (fun k => k = b) w0 W
theorem moL_le : ∀ (l : List Rc), moL l ≤ l.length
  | [] => Nat.le_refl _
  | x :: l => by
    have hm : ∀ (l : List Rc), mors l ≤ l.length := fun l => by
      induction l with
      | nil => simp [mors]
      | cons y l ih =>
        have : mors (y :: l) = mor y + mors l := by simp [mors]
        have h1 : mor y ≤ 1 := by unfold mor; split <;> omega
        rw [this, List.length_cons]; omega
    rw [moL]
    have := moL_le l
    split
    · exact hm _
    · rw [List.length_cons]; omega

/-- A sheet lies where it lay. -/
theorem Sht.keep {W w1 w2 : World} {B p b : Nat} {i f : Int} {E : List En} {ord : List Nat} (h : Sht W B p b i f E ord) (hpb : p ≠ b) (hbW : b < W.heap.size) (h1 : Sht w1 B p b i f E ord) (ha : Aside (fun k => k = b) W w1) (hb : Below W.heap.size w1 w2) : Sht w2 B p b i f E ord := by
  obtain ⟨va, vo, O, hW⟩ := h
  obtain ⟨va1, vo1, O1, hV⟩ := h1
  have pl := hW.lts
  have a2 : some va1 = some va := (hV.1.c 2 (by simp)).symm.trans (ha.cell_lt (hW.1.c 2 (by simp)) hpb)
  have a3 : some vo1 = some vo := (hV.1.c 3 (by simp)).symm.trans (ha.cell_lt (hW.1.c 3 (by simp)) hpb)
  injection a2 with a2
  injection a3 with a3
  subst a2 a3
  refine ⟨_, _, O1, hV.aside (G := fun k => W.heap.size ≤ k) (Aside.of_below hb (fun k hk hg => by omega)) (by omega) (by omega) ?_ (fun g hg => by have := (World.ownsRow.lt hW.2.2.1 g hg).2; omega)⟩
  intro g hg
  rcases hW.2.2.2.2 with ⟨_, h5⟩ | ⟨c, g2, d, e1, e2, e3⟩
  · rw [h5] at hg; cases hg
  · rw [e2] at hg
    have : g2 = g := by simpa [Value.ownBlock] using hg
    have := e3.lt
    omega

set_option maxHeartbeats 4000000 in
theorem ask_fit {w0 W : World} {B p b SB ZB : Nat} {m : Ms} {ord : List Nat} {size : Int} (hI : StI w0 B p b m ord W) (hm : Mrg (kOf (ents m)) ord (List.range (ents m).length).reverse) (hc : chkM m = 0) (hf : m.Fine) (ht : totM m ≤ 1100)
    (hB : B ≤ w0.heap.size) (hb : b < w0.heap.size) (hs : w0.cell? ⟨SB, 0, none⟩ = some (.pointer (some ⟨p, 0, none⟩))) (hz : w0.cell? ⟨ZB, 0, none⟩ = some (.int .i64 size)) (hpb : p ≠ b) (hsb : SB ≠ b) (hzb : ZB ≠ b) (h0 : 12 ≤ size) (h1 : size ≤ 65535) (n : Nat) (hn : n ≤ 1100) :
    Calls Tryz.prog 32 #[.int .i64 n, .pointer (some ⟨SB, 0, none⟩), .pointer (some ⟨ZB, 0, none⟩)] W fun e w' => e = .returned (.bool (srP m size n)) ∧ StI w0 B p b m ord w' := by
  obtain ⟨hsh, has⟩ := hI
  obtain ⟨_, _, f0, f1, _⟩ := chkM_ok hc
  have hel := ents_len m
  have htt := ht
  unfold totM at htt
  have hW := has.size
  have HKP := Lib.hid (fun (w1 w2 : World) => hsh.keep hpb (by omega : b < W.heap.size) (w1 := w1) (w2 := w2))
  have HWO := Lib.hid (without_any hsh hm (by omega) (by omega) (by omega) f0 f1 n (by omega))
  have c1 : W.cell? ⟨SB, 0, none⟩ = some (.pointer (some ⟨p, 0, none⟩)) := has.cell_lt hs hsb
  have HZ := Lib.hid (And.intro (has.cell_lt hz hzb) (And.intro hzb (And.intro has (And.intro hb hW))))
  have HM := Lib.hid (gath_mcut m hm n)
  have HC := Lib.hid (And.intro hc (And.intro hf ht))
  have hbl := moL_le (mcut m n).ar
  have hct := cut_tot m n
  have hal : (mcut m n).ar.length ≤ 1100 := by unfold totM at hct; omega
  clear hsh hm hc hf hb hs hz has hW htt hel f0 f1
  go_enter Tryz.func32, Tryz.ntmps32
  go_wp2_with fail
  refine HWO.out.mono ?_; rintro e w1 ⟨v, rfl, hsh, hox, has⟩
  rw [HM.out] at hox
  obtain ⟨c, hcc⟩ : ∃ c, mcut m n = c := ⟨_, rfl⟩
  rw [hcc] at hox hbl hal
  have hz1 : w1.cell? ⟨ZB, 0, none⟩ = some (.int .i64 size) := has.cell_lt HZ.out.1 HZ.out.2.1
  have HBR := Lib.hid (bare_any hox has.size (by omega))
  have hA1 := HZ.out.2.2.1.trans has
  have H1 := Lib.hid (And.intro hsh (And.intro hA1 (And.intro has (And.intro hz1 hcc))))
  clear hsh hox has hz1 hA1 c1 hcc
  go_wp2_with fail
  refine HBR.out.mono ?_; rintro e w2 ⟨v2, rfl, hom, hb2⟩
  obtain ⟨_, hf2, _⟩ := HC.out
  have hcf : (brM c).Fine := by rw [← H1.out.2.2.2.2]; exact br_fine (cut_fine hf2 n)
  have hct2 : totM (brM c) ≤ 1100 := by rw [br_tot, ← H1.out.2.2.2.2]; omega
  have hmg := hom.mg (by unfold totM at hct2; omega)
  obtain ⟨q, a, n', r, rfl, hq, ha, hn', hr⟩ := hom
  obtain ⟨qa, qc, rfl⟩ := row_shape hq
  obtain ⟨aa, ac, rfl⟩ := row_shape ha
  obtain ⟨na, nc, rfl⟩ := row_shape hn'
  obtain ⟨ra, rc, rfl⟩ := row_shape hr
  obtain ⟨u, hu⟩ : ∃ u, brM c = u := ⟨_, rfl⟩
  obtain ⟨mo, hmo⟩ : ∃ k, moL c.ar = k := ⟨_, rfl⟩
  have hsr : srP m size n = fitW u (size - (mo : Int)) := by unfold srP; rw [H1.out.2.2.2.2, hu, hmo]
  rw [hu] at hmg hcf hct2 ⊢
  rw [hmo]
  have HSR := Lib.hid hsr
  have hmo1 : mo ≤ 1100 := by omega
  have hzW : ZB < W.heap.size := World.block_lt_of_cell? W _ HZ.out.1
  have z2 : w2.cell? ⟨ZB, 0, none⟩ = some (.int .i64 size) := (World.cell?_of_block (w := w1) (a := ⟨ZB, 0, none⟩) (hb2.block ZB hzW)).trans H1.out.2.2.2.1
  obtain ⟨i0, hi0⟩ : ∃ i, u.id = i := ⟨_, rfl⟩
  obtain ⟨f0, hf0⟩ : ∃ i, u.fl = i := ⟨_, rfl⟩
  obtain ⟨lq, hlq⟩ : ∃ i, u.q.length = i := ⟨_, rfl⟩
  obtain ⟨la, hla⟩ : ∃ i, u.an.length = i := ⟨_, rfl⟩
  obtain ⟨ln, hln⟩ : ∃ i, u.ns.length = i := ⟨_, rfl⟩
  obtain ⟨lr, hlr⟩ : ∃ i, u.ar.length = i := ⟨_, rfl⟩
  rw [hi0, hf0, hlq, hla, hln, hlr] at hmg ⊢
  have hb3 : Below w2.heap.size w2 (w2.alloc (.cells #[.int .i64 i0, .int .i64 f0, .slice qa lq qc, .slice aa la ac, .slice na ln nc, .slice ra lr rc] 25)) := (Below.refl _ _).alloc (Nat.le_refl _) _
  have hlt2 : ZB < w2.heap.size := World.block_lt_of_cell? w2 _ z2
  have z3 : (w2.alloc (.cells #[.int .i64 i0, .int .i64 f0, .slice qa lq qc, .slice aa la ac, .slice na ln nc, .slice ra lr rc] 25)).cell? ⟨ZB, 0, none⟩ = some (.int .i64 size) := (World.cell?_of_block (w := w2) (a := ⟨ZB, 0, none⟩) (hb3.block ZB hlt2)).trans z2
  obtain ⟨d, hd⟩ : ∃ d, size - (mo : Int) = d := ⟨_, rfl⟩
  have hdw : IntKind.i64.wrap (size - (mo : Int)) = d := by rw [IntWalk.i64_in _ (by omega)]; exact hd

  have hd1 : -2000 ≤ d := by omega
  have hd2 : d ≤ 65535 := by omega
  have HWT := Lib.hid (written_any (hmg.later hb3) (by rw [World.size_alloc]; omega) hcf (by unfold totM at hct2; omega) d)
  have HB := Lib.hid (And.intro hb2 hb3)
  clear hmg hq ha hn' hr hi0 hf0 hlq hla hln hlr hb2 hb3 hcf hct2 hu hmo hsr HWO HM hbl hct hal z2
  go_wp2_with fail
  refine HWT.out.mono ?_; rintro e w4 ⟨v4, rfl, hb4, _⟩
  have hb4 : Below W.heap.size w1 w4 := by
    have hs := HB.out.1.size
    have := H1.out.2.2.1.size
    exact (HB.out.1.trans (HB.out.2.mono (by omega))).trans (hb4.mono (by rw [World.size_alloc]; omega))
  have HE := Lib.hid (And.intro (HKP.out w1 w4 H1.out.1 H1.out.2.2.1 hb4) ((H1.out.2.1.trans (Aside.refl _ _)).onto (Aside.of_below (G := fun k => W.heap.size ≤ k) hb4 (fun k hk hg => by omega)) (fun k hk hg => by have := HZ.out.2.2.2.2; omega)))
  clear hb4
  go_wp2_with fail
  go_ret
  exact ⟨by rw [HSR.out, hd]; rfl, HE.out⟩
end Go.Proofs.YteegekpanadmkaaGreat

/-
  The search, by what is asked of a number.
-/
namespace Go.Proofs.YteegekpanadmkaaGreat
open Go.RowKit Go.Shelf
set_option linter.unusedVariables false
set_option linter.unusedSimpArgs false
set_option maxRecDepth 100000

set_option maxHeartbeats 4000000 in
theorem search_any {I : World → Prop} {p : Nat → Bool} {u1 u2 : Value} {N : Nat} {W : World} (hI : I W) (hN : N ≤ 100000) (hA : ∀ (w : World) (n : Nat), n < N → I w → Calls Tryz.prog 32 #[.int .i64 n, u1, u2] w fun e w' => e = .returned (.bool (p n)) ∧ I w') (hp : ∀ i j, i ≤ j → j < N → p i = true → p j = true) :
    Calls Tryz.prog 31 #[.int .i64 N, .func (.func 32) #[] #[u1, u2]] W fun e w' => ∃ r : Nat, e = .returned (.int .i64 r) ∧ r ≤ N ∧ (∀ t, t < r → p t = false) ∧ (∀ t, r ≤ t → t < N → p t = true) ∧ I w' := by
  have HA := Lib.hid hA
  have HP := Lib.hid hp
  have HI := Lib.hid hI
  clear hA hp hI
  go_enter Tryz.func31, Tryz.ntmps31
  go_wp2
  go_loopg [5, 6] N (fun kx s t wr => ∃ i j : Nat, j ≤ i + kx ∧ i ≤ j ∧ j ≤ N ∧ s = .int .i64 i ∧ t = .int .i64 j ∧ Hid ((∀ t, t < i → p t = false) ∧ (∀ t, j ≤ t → t < N → p t = true) ∧ I wr))
  case atStart => exact ⟨0, N, by omega, by omega, Nat.le_refl _, rfl, rfl, Lib.hid ⟨fun t h => by omega, fun t h1 h2 => by omega, HI.out⟩⟩
  case round =>
    obtain ⟨i, j, hk, hij, hjz, rfl, rfl, HH⟩ := hrel
    by_cases hlt : i < j
    · obtain ⟨hh, hhd⟩ : ∃ k, k = (i + j) / 2 := ⟨_, rfl⟩
      have hd : ((i : Int) + (j : Int)) / 2 = (hh : Int) := by omega
      have h1 : i ≤ hh := by omega
      have h2 : hh < j := by omega
      have HD := Lib.hid hhd
      have HL := Lib.hid (HA.out wr hh (by omega) HH.out.2.2)
      clear hhd
      go_wp2_with fail
      refine HL.out.mono ?_; rintro e w2 ⟨rfl, hi2⟩
      have HI2 := Lib.hid hi2
      clear hi2
      rcases hpv : p hh with _ | _
      · have HPV := Lib.hid hpv
        clear hpv
        go_wp2
        go_roundg (j - (hh + 1))
        case rel =>
          refine ⟨hh + 1, j, by omega, by omega, hjz, by go_num, rfl, Lib.hid ⟨fun t ht => ?_, HH.out.2.1, HI2.out⟩⟩
          rcases hq : p t with _ | _
          · rfl
          · exact (HP.out t hh (by omega) (by omega) hq).symm.trans HPV.out
        case measure => omega
      · have HPV := Lib.hid hpv
        clear hpv
        go_wp2
        go_roundg (hh - i)
        case rel => exact ⟨i, hh, by omega, by omega, by omega, rfl, rfl, Lib.hid ⟨HH.out.1, fun t h3 h4 => HP.out hh t h3 h4 HPV.out, HI2.out⟩⟩
        case measure => omega
    · obtain rfl : i = j := by omega
      go_wp2
      go_ret
      exact ⟨i, rfl, by omega, HH.out.1, HH.out.2.1, HH.out.2.2⟩
end Go.Proofs.YteegekpanadmkaaGreat

/-
  A message in so many bytes.
-/
namespace Go.Proofs.YteegekpanadmkaaGreat
open Go.RowKit Go.Shelf
set_option linter.unusedVariables false
set_option linter.unusedSimpArgs false
set_option maxRecDepth 100000

/-- A message's bytes, at most so many; how many entries were left out; why not. -/
def fitA (m : Ms) (size : Int) : Option (List UInt8) × Nat × Int := if chkM m ≠ 0 then (none, 0, chkM m) else if size < 12 ∨ 65535 < size then (none, 0, 5) else ((wrM (mcut m (fitN m size))).1, fitN m size, 0)
def FitPost (w : World) (R : Option (List UInt8) × Nat × Int) (e : Ending) (w' : World) : Prop := ∃ v, e = .returned (.tuple #[v, .int .i64 (R.2.1 : Nat), .int .i64 R.2.2]) ∧ OwnB w' w.heap.size v (R.1.getD []) ∧ Below w.heap.size w w'

theorem OwnX.mg {w : World} {B : Nat} {v : Value} {m : Ms} (h : OwnX w B v m) (hn : m.q.length + m.an.length + m.ns.length + m.ar.length ≤ 100000) : Mg w w.heap.size v m := by
  obtain ⟨q, a, n, r, rfl, hq, ha, hns, hr, hd1, hd2⟩ := h
  exact OwnM.mg ⟨q, a, n, r, rfl, hq, ha, hns, hr⟩ (by omega)

theorem StI.later {w0 W W' : World} {B p b : Nat} {m : Ms} {ord : List Nat} (h : StI w0 B p b m ord W) (hpb : p ≠ b) (hb : b < w0.heap.size) (hbl : Below W.heap.size W W') : StI w0 B p b m ord W' :=
  ⟨h.1.keep hpb (by have := h.2.size; omega) h.1 (Aside.refl _ _) hbl, h.2.trans (Aside.of_all hbl)⟩
/-- What `without` comes to. -/
theorem StI.wo {w0 W : World} {B p b : Nat} {m : Ms} {ord : List Nat} (hI : StI w0 B p b m ord W) (hm : Mrg (kOf (ents m)) ord (List.range (ents m).length).reverse) (hc : chkM m = 0) (ht : totM m ≤ 1100)
    (hB : B ≤ w0.heap.size) (hb : b < w0.heap.size) (n : Nat) (hn : n ≤ 1100) :
    Calls Tryz.prog 34 #[.pointer (some ⟨p, 0, none⟩), .int .i64 n] W (fun e w' => ∃ v, e = .returned v ∧ StI w0 B p b m ord w' ∧ OwnX w' W.heap.size v (mcut m n)) := by
  obtain ⟨_, _, f0, f1, _⟩ := chkM_ok hc
  have hel := ents_len m
  have hW := hI.2.size
  unfold totM at ht
  refine (without_any hI.1 hm (by omega) (by omega) (by omega) f0 f1 n (by omega)).mono ?_
  rintro e w' ⟨v, rfl, h1, h2, h3⟩
  rw [gath_mcut m hm n] at h2
  exact ⟨v, rfl, ⟨h1, hI.2.trans h3⟩, h2⟩

set_option maxHeartbeats 8000000 in
theorem fit_any {w : World} {hi : Nat} {u : Value} {m : Ms} (h : Mg w hi u m) (h1 : hi ≤ w.heap.size) (hf : m.Fine) (hn : totM m ≤ 1100) (size : Int) :
    Calls Tryz.prog 10 #[u, .int .i64 size] w (FitPost w (fitA m size)) := by
  have hmg := h
  obtain ⟨q, a, n, r, rfl, hq, ha, hn2, hr⟩ := h
  obtain ⟨qa, qc, rfl⟩ := Lst.shape hq
  obtain ⟨aa, ac, rfl⟩ := Lst.shape ha
  obtain ⟨na, nc, rfl⟩ := Lst.shape hn2
  obtain ⟨ra, rc, rfl⟩ := Lst.shape hr
  have hmf : ∀ (fn : Fn) (first cap : Array Value) (w : World), (Instr.makeFunc fn first cap).run Tryz.prog w = .ok (.func fn first cap) w := fun _ _ _ _ => rfl
  obtain ⟨i0, hi0⟩ : ∃ i, m.id = i := ⟨_, rfl⟩
  obtain ⟨f0, hf0⟩ : ∃ i, m.fl = i := ⟨_, rfl⟩
  obtain ⟨lq, hlq⟩ : ∃ i, m.q.length = i := ⟨_, rfl⟩
  obtain ⟨la, hla⟩ : ∃ i, m.an.length = i := ⟨_, rfl⟩
  obtain ⟨ln, hln⟩ : ∃ i, m.ns.length = i := ⟨_, rfl⟩
  obtain ⟨lr, hlr⟩ : ∃ i, m.ar.length = i := ⟨_, rfl⟩
  obtain ⟨E, hEE⟩ : ∃ E, chkM m = E := ⟨_, rfl⟩
  rw [hi0, hf0, hlq, hla, hln, hlr] at hmg ⊢
  obtain ⟨N, hN⟩ : ∃ N, w.heap.size = N := ⟨_, rfl⟩
  obtain ⟨W1, hW1⟩ : ∃ X, (w.alloc (.cells #[.int .i64 i0, .int .i64 f0, .slice qa lq qc, .slice aa la ac, .slice na ln nc, .slice ra lr rc] 25)).alloc (.cells #[.int .i64 size] 3) = X := ⟨_, rfl⟩
  have hb1 : Below w.heap.size w W1 := by rw [← hW1]; exact ((Below.refl _ _).alloc (Nat.le_refl _) _).alloc (by simp) _
  have hx1 : Cel W1 N [.int .i64 i0, .int .i64 f0, .slice qa lq qc, .slice aa la ac, .slice na ln nc, .slice ra lr rc] := by
    rw [← hW1, ← hN]
    exact (cel_new6 w _ _ _ _ _ _ 25).below (by simp) ((Below.refl _ _).alloc (Nat.le_refl _) _)
  have hz1 : W1.cell? ⟨N + 1, 0, none⟩ = some (.int .i64 size) := by
    rw [← hW1, ← hN]
    have := (cel_new1 (w.alloc (.cells #[.int .i64 i0, .int .i64 f0, .slice qa lq qc, .slice aa la ac, .slice na ln nc, .slice ra lr rc] 25)) (.int .i64 size) 3).c 0 (by simp)
    rwa [World.size_alloc] at this
  have hmg1 := (hmg.wide h1).later hb1
  have HCK := Lib.hid (checkM_any hmg1 (Nat.le_refl _) hf)
  have HMG := Lib.hid (And.intro hmg1 (And.intro hb1 (And.intro hf hn)))
  have HX := Lib.hid (And.intro hx1 hz1)
  obtain ⟨x0, x1, x2, x3, x4, x5⟩ := hx1.six
  rw [hEE] at HCK
  have HW1 := Lib.hid hW1
  have HE := Lib.hid hEE
  have HN := Lib.hid hN
  clear hmg hmg1 hq ha hn2 hr hi0 hf0 hlq hla hln hlr hb1 hx1 hW1 hEE hN hn hf
  by_cases hE : E = 0
  · have tE : (E != 0) = false := by rw [hE]; rfl
    go_enter Tryz.func10, Tryz.ntmps10
    go_wp2_with fail
    rw [HW1.out, HN.out]
    clear HW1
    refine HCK.out.mono ?_; rintro e w2 ⟨rfl, hb2⟩
    have hz2 : w2.cell? ⟨N + 1, 0, none⟩ = some (.int .i64 size) := (World.cell?_of_block (w := W1) (a := ⟨N + 1, 0, none⟩) (hb2.block (N + 1) (World.block_lt_of_cell? W1 _ hz1))).trans hz1
    have hx2 := HX.out.1.below (by simp) hb2
    have hm2 := HMG.out.1.later hb2
    have HLY := Lib.hid (lay_any hm2 (Nat.le_refl _) (by have := ents_len m; have := HMG.out.2.2.2; unfold totM at this; omega))
    have HB2 := Lib.hid hb2
    clear x0 x1 x2 x3 x4 x5
    obtain ⟨x0, x1, x2, x3, x4, x5⟩ := hx2.six
    clear hx2 hm2 hb2 hz1
    have hbw : Below w.heap.size w w2 := HMG.out.2.1.trans (HB2.out.mono HMG.out.2.1.size)
    have HBW := Lib.hid hbw
    clear hbw
    by_cases h12 : size < 12
    · have hR : fitA m size = (none, 0, 5) := by unfold fitA; rw [HE.out, hE, if_neg (by simp), if_pos (.inl h12)]
      go_wp2_with fail
      go_ret3
      rw [hR]
      exact ⟨_, rfl, OwnB.nil _ _, HBW.out⟩
    · by_cases h65 : 65535 < size
      · have hR : fitA m size = (none, 0, 5) := by unfold fitA; rw [HE.out, hE, if_neg (by simp), if_pos (.inr h65)]
        go_wp2_with fail
        go_ret3
        rw [hR]
        exact ⟨_, rfl, OwnB.nil _ _, HBW.out⟩
      · have hR : fitA m size = ((wrM (mcut m (fitN m size))).1, fitN m size, 0) := by unfold fitA; rw [HE.out, hE, if_neg (by simp), if_neg (by omega)]
        have HR := Lib.hid hR
        clear hR
        go_wp2_with fail
        clear x0 x1 x2 x3 x4 x5
        refine HLY.out.mono ?_; rintro e w3 ⟨p, b, ord, rfl, hp, hb, hb3, hpb, hsh, hmr, hbl⟩
        obtain ⟨SB, hSB⟩ : ∃ k, w3.heap.size = k := ⟨_, rfl⟩
        obtain ⟨W, hW⟩ : ∃ X, w3.alloc (.cells #[.pointer (some ⟨p, 0, none⟩)] 57) = X := ⟨_, rfl⟩
        have hbW : Below w3.heap.size w3 W := by rw [← hW]; exact (Below.refl _ _).alloc (Nat.le_refl _) _
        have hWs : W.heap.size = SB + 1 := by rw [← hW, World.size_alloc, hSB]
        have z3 : w3.cell? ⟨N + 1, 0, none⟩ = some (.int .i64 size) := (World.cell?_of_block (w := w2) (a := ⟨N + 1, 0, none⟩) (hbl.block (N + 1) (World.block_lt_of_cell? w2 _ hz2))).trans hz2
        have z4 : W.cell? ⟨N + 1, 0, none⟩ = some (.int .i64 size) := (World.cell?_of_block (w := w3) (a := ⟨N + 1, 0, none⟩) (hbW.block (N + 1) (World.block_lt_of_cell? w3 _ z3))).trans z3
        have s4 : W.cell? ⟨SB, 0, none⟩ = some (.pointer (some ⟨p, 0, none⟩)) := by rw [← hW, ← hSB]; exact (cel_new1 w3 _ 57).c 0 (by simp)
        have hsW : Sht W (p + 1) p b m.id m.fl (ents m) ord := by obtain ⟨va, vo, O, hs⟩ := hsh; exact ⟨va, vo, O, hs.below hbW⟩
        have hzN : N + 1 < w2.heap.size := World.block_lt_of_cell? w2 _ hz2
        have hpW : p < SB := by obtain ⟨va, vo, O, hs⟩ := hsh; rw [← hSB]; exact hs.lts
        have c3 : ∃ a c, W.cell? ⟨p, 3, none⟩ = some (.slice a (ents m).length c) := by
          obtain ⟨va, vo, O, hs⟩ := hsW
          have := hs.1.c 3 (by simp)
          rcases hs.2.2.2.2 with ⟨h5, h6⟩ | ⟨c, g, d, e1, e2, e3⟩
          · rw [h6] at this; exact ⟨none, 0, by rw [this, h5]; rfl⟩
          · rw [e2] at this; exact ⟨_, _, this⟩
        obtain ⟨oa, oc, c3⟩ := c3
        have hC0 : chkM m = 0 := by rw [HE.out, hE]
        have hlen : (ents m).length = totM m := by rw [ents_len]; rfl
        have HASK := Lib.hid (fun (w' : World) (n : Nat) (hn : n < totM m) (hI : StI W (p + 1) p b m ord w') => ask_fit (SB := SB) (ZB := N + 1) (size := size) hI hmr hC0 HMG.out.2.2.1 HMG.out.2.2.2 (by omega) (by omega) s4 z4 hpb (by omega) (by omega) (by omega) (by omega) n (by have := HMG.out.2.2.2; omega))
        have HI0 : StI W (p + 1) p b m ord W := ⟨hsW, Aside.refl _ _⟩
        have HSE := Lib.hid (search_any (N := totM m) HI0 (by have := HMG.out.2.2.2; omega) HASK.out (fun i j hij hj hp => by
          obtain ⟨d, rfl⟩ : ∃ d, j = i + d := ⟨j - i, by omega⟩
          exact br_mono hC0 size (by omega) hp d (by omega)))
        obtain ⟨hF1, hF2, hF3⟩ := fitN_facts hC0 (size := size) (by omega)
        have hFb : srP m size (fitN m size) = true := fit_br (cut_chk hC0 _) size (by omega) hF1
        have HFF := Lib.hid (show (wrM (mcut m (fitN m size))).1 = (wrM (mcut m (fitN m size))).1 from rfl)
        rw [hlen] at c3
        have HWO := Lib.hid (fun (w' : World) (n : Nat) (hn : n ≤ totM m) (hI : StI W (p + 1) p b m ord w') => hI.wo hmr hC0 HMG.out.2.2.2 (by omega) (by omega) n (by have := HMG.out.2.2.2; omega))
        have HLT := Lib.hid (fun (w' w'' : World) (hI : StI W (p + 1) p b m ord w') (hb : Below w'.heap.size w' w'') => hI.later hpb (by omega) hb)
        have HWT := Lib.hid (fun (w' : World) (B : Nat) (v : Value) (n : Nat) (hx : OwnX w' B v (mcut m n)) => written_any (hx.mg (by have := cut_tot m n; have := HMG.out.2.2.2; unfold totM at *; omega)) (Nat.le_refl _) (cut_fine HMG.out.2.2.1 n) (by have := cut_tot m n; have := HMG.out.2.2.2; unfold totM at *; omega) size)
        have HCE := Lib.hid (fun (w' : World) (hI : StI W (p + 1) p b m ord w') => (show w'.cell? ⟨SB, 0, none⟩ = some (.pointer (some ⟨p, 0, none⟩)) ∧ w'.cell? ⟨N + 1, 0, none⟩ = some (.int .i64 size) from ⟨hI.2.cell_lt s4 (show ¬ SB = b by omega), hI.2.cell_lt z4 (show ¬ N + 1 = b by omega)⟩))
        have HEND := Lib.hid (fun (w' : World) (hI : StI W (p + 1) p b m ord w') => below_aside (HBW.out.trans ((hbl.mono HBW.out.size).trans (hbW.mono (by have := hbl.size; have := HBW.out.size; omega)))) hI.2 (fun k hk => ⟨by have := hbl.size; have := HBW.out.size; omega, by have := HBW.out.size; omega⟩))
        obtain ⟨F, hF⟩ : ∃ F, fitN m size = F := ⟨_, rfl⟩
        rw [hF] at hF1 hF2 hF3 hFb HR
        obtain ⟨T, hT⟩ : ∃ T, totM m = T := ⟨_, rfl⟩
        rw [hT] at c3 HSE HWO hF2
        have hT1 : T ≤ 1100 := by have := HMG.out.2.2.2; omega
        have HF := Lib.hid (And.intro hF1 (And.intro hF3 hFb))
        clear HASK HI0 hsW hsh hmr hbl hbW hF1 hF3 hFb hF hT hlen hC0 z3 hz2 HFF h12 h65
        go_wp2_with fail
        refine HSE.out.mono ?_; rintro e w5 ⟨r, rfl, hr, hrl, hru, hI5⟩
        have hrF : r ≤ F := by
          rcases Nat.lt_or_ge F r with h | h
          · have := (hrl F h).symm.trans HF.out.2.2; cases this
          · exact h
        have HI5 := Lib.hid hI5
        clear hrl hru hI5 c3 s4 z4 hW
        go_wp2_with fail
        go_loopg [9] F (fun kx s wr => ∃ i : Nat, i ≤ F ∧ F ≤ i + kx ∧ s = .int .i64 i ∧ Hid (StI W (p + 1) p b m ord wr))
        case atStart => exact ⟨r, hrF, by omega, rfl, HI5.out⟩
        case round =>
          obtain ⟨i, hi, hik, rfl, HI⟩ := hrel
          have HID := Lib.hid (HLT.out wr wr.drew HI.out (Below.refl _ _).drew)
          have HCD := Lib.hid (HCE.out _ HID.out)
          have HWOD := Lib.hid (HWO.out wr.drew i (by omega) HID.out)
          obtain ⟨fb, hfb⟩ : ∃ x, fitW (mcut m i) size = x := ⟨_, rfl⟩
          have HFB := Lib.hid hfb
          clear hfb
          go_wp2_with fail
          go_region_held3 (fun wx => wx.cell? ⟨SB, 0, none⟩ = some (.pointer (some ⟨p, 0, none⟩)) ∧ wx.cell? ⟨N + 1, 0, none⟩ = some (.int .i64 size)) (first | exact HCD.out | exact HC6.out | exact HC7.out) (first | (go_at_call 34; refine HWOD.out.mono ?_; rintro e0 w6 ⟨v6, rfl, hi6, hx6⟩; have HI6 := Lib.hid hi6; have HC6 := Lib.hid (HCE.out _ hi6); have HWT6 := Lib.hid (HWT.out _ _ _ _ hx6); clear hi6 hx6) | (go_at_call 35; refine HWT6.out.mono ?_; rintro e0 w7 ⟨v7, rfl, hb7, hz7⟩; have HI7 := Lib.hid (HLT.out _ _ HI6.out hb7); have HC7 := Lib.hid (HCE.out _ HI7.out); have HZ7 := Lib.hid hz7; have HS7 := Lib.hid HI6.out.2.size; clear hb7 hz7))
          rcases fb with _ | _
          · have hlt : i < F := by
              rcases Nat.lt_or_ge i F with h | h
              · exact h
              · have h3 := HF.out.1
                rw [show F = i by omega, HFB.out] at h3
                cases h3
            have hi9 : i < 2000 := by omega
            rw [HFB.out]
            go_wp2_with fail
            go_roundg (F - (i + 1))
            case rel => exact ⟨i + 1, by omega, by omega, by go_num, HI7⟩
            case measure => omega
          · obtain rfl : i = F := by
              rcases Nat.lt_or_ge i F with h | h
              · have h3 := HF.out.2.1 i h
                rw [HFB.out] at h3
                cases h3
              · omega
            rw [HFB.out]
            go_wp2_with fail
            go_ret3
            rw [HR.out]
            obtain ⟨z, hz1, hz2⟩ := HZ7.out HFB.out
            refine ⟨_, rfl, ?_, HEND.out _ HI7.out⟩
            rw [hz1]
            exact hz2.mono (by have := HS7.out; have := HN.out; omega)
  · have tE : (E != 0) = true := by simpa using hE
    go_enter Tryz.func10, Tryz.ntmps10
    go_wp2_with fail
    rw [HW1.out, HN.out]
    clear HW1
    refine HCK.out.mono ?_; rintro e w2 ⟨rfl, hb2⟩
    have HB2 := Lib.hid hb2
    clear hb2 x0 x1 x2 x3 x4 x5 hz1
    go_wp2_with fail
    go_ret3
    rw [show fitA m size = (none, 0, E) by unfold fitA; rw [HE.out, if_pos hE]]
    exact ⟨_, rfl, OwnB.nil _ _, HMG.out.2.1.trans (HB2.out.mono HMG.out.2.1.size)⟩
end Go.Proofs.YteegekpanadmkaaGreat

/-
  The chapter's message, in so many bytes: values.
-/
namespace Go.Proofs.YteegekpanadmkaaGreat
open Go.RowKit Go.Shelf
set_option linter.unusedVariables false
set_option linter.unusedSimpArgs false
set_option maxRecDepth 100000

def samQ : Qn := ⟨[1, 97, 0], 1, 1⟩
def samR : Rc := ⟨[1, 97, 0], 1, 1, 5, [49, 50, 51, 52]⟩
def samO : Rc := ⟨[0], 41, 1232, 0, []⟩
def samM : Ms := ⟨7, 32768, [samQ], [samR], [], [samO]⟩
def samB : List UInt8 := [0, 7, 128, 0, 0, 1, 0, 1, 0, 0, 0, 1, 1, 97, 0, 0, 1, 0, 1, 192, 12, 0, 1, 0, 1, 0, 0, 0, 5, 0, 4, 49, 50, 51, 52, 0, 0, 41, 4, 208, 0, 0, 0, 0, 0, 0]
theorem t1 : wrM samM = (some samB, 0) := by kernel_rfl
end Go.Proofs.YteegekpanadmkaaGreat
