/-
  A message copied with room to spare: CopyMessage.
-/
import Derived.Test.YtdikgjbpjdnodaaGreatT26
namespace Go.Proofs.YtdikgjbpjdnodaaGreat
open Go.RowKit Go.Shelf
set_option linter.unusedVariables false
set_option linter.unusedSimpArgs false
set_option maxRecDepth 100000

theorem sq_cel {w : World} {b : Nat} {x : Qn} (h : Cel w b [.string (bs x.n), .int .i64 x.t, .int .i64 x.c]) : SQ w (b + 1) (.slice (some ⟨b, 0, none⟩) 1 1) [x] :=
  ⟨_, 1, rfl, by simp, fun h => by simp at h, fun _ => ⟨b, 0, rfl, by omega, fun i u hu => by
    rw [Nat.zero_add]
    match i, hu with
    | 0, hu => rw [h.c 0 (by simp)]; simpa [acq, cq] using hu
    | 1, hu => rw [h.c 1 (by simp)]; simpa [acq, cq] using hu
    | 2, hu => rw [h.c 2 (by simp)]; simpa [acq, cq] using hu
    | i + 3, hu => simp [acq, cq] at hu⟩⟩

set_option maxHeartbeats 8000000 in
theorem copyM_any {w : World} {hi : Nat} {u : Value} {m : Ms} (h : Mg w hi u m) (h1 : hi ≤ w.heap.size) (hl : m.q.length + m.an.length + m.ns.length + m.ar.length ≤ 900000) :
    Calls Tryz.prog 10 #[u] w (fun e w' => ∃ v, e = .returned v ∧ CpM w' w.heap.size v m ∧ Below w.heap.size w w') := by
  obtain ⟨q, a, n, r, rfl, hq, ha, hn, hr⟩ := h
  have HCA := Lib.hid (fun wx (hb : Below w.heap.size w wx) => copyR_any (Lst.below ha hb h1) (Nat.le_trans h1 hb.size) (by omega))
  have HCN := Lib.hid (fun wx (hb : Below w.heap.size w wx) => copyR_any (Lst.below hn hb h1) (Nat.le_trans h1 hb.size) (by omega))
  have HCR := Lib.hid (fun wx (hb : Below w.heap.size w wx) => copyR_any (Lst.below hr hb h1) (Nat.le_trans h1 hb.size) (by omega))
  obtain ⟨qa, qc, rfl⟩ := Lst.shape hq
  obtain ⟨aa, ac, rfl⟩ := Lst.shape ha
  obtain ⟨na, nc, rfl⟩ := Lst.shape hn
  obtain ⟨ra, rc, rfl⟩ := Lst.shape hr
  unfold CpM
  obtain ⟨i0, hi0⟩ : ∃ i, m.id = i := ⟨_, rfl⟩
  obtain ⟨f0, hf0⟩ : ∃ i, m.fl = i := ⟨_, rfl⟩
  obtain ⟨l, hl0⟩ : ∃ i, m.q = i := ⟨_, rfl⟩
  obtain ⟨lan, hlan⟩ : ∃ i, m.an = i := ⟨_, rfl⟩
  obtain ⟨lns, hlns⟩ : ∃ i, m.ns = i := ⟨_, rfl⟩
  obtain ⟨lar, hlar⟩ : ∃ i, m.ar = i := ⟨_, rfl⟩
  rw [hi0, hf0, hl0, hlan, hlns, hlar]
  rw [hl0, hlan, hlns, hlar] at hl
  rw [hl0] at hq
  rw [hlan] at HCA
  rw [hlns] at HCN
  rw [hlar] at HCR
  obtain ⟨lq, hlq⟩ : ∃ i, l.length = i := ⟨_, rfl⟩
  obtain ⟨la, hla⟩ : ∃ i, lan.length = i := ⟨_, rfl⟩
  obtain ⟨ln, hln⟩ : ∃ i, lns.length = i := ⟨_, rfl⟩
  obtain ⟨lr, hlr⟩ : ∃ i, lar.length = i := ⟨_, rfl⟩
  rw [hla] at HCA
  rw [hln] at HCN
  rw [hlr] at HCR
  rw [hlq, hla, hln, hlr] at hl ⊢
  rw [hlq] at hq
  obtain ⟨N, hN⟩ : ∃ N, w.heap.size = N := ⟨_, rfl⟩
  have hx := cel_new6 w (.int .i64 i0) (.int .i64 f0) (.slice qa lq qc) (.slice aa la ac) (.slice na ln nc) (.slice ra lr rc) 25
  obtain ⟨W1, hW1⟩ : ∃ X, w.alloc (.cells #[.int .i64 i0, .int .i64 f0, .slice qa lq qc, .slice aa la ac, .slice na ln nc, .slice ra lr rc] 25) = X := ⟨_, rfl⟩
  have hz := cel_new6 W1 (.int .i64 0) (.int .i64 0) (.slice none 0 0) (.slice none 0 0) (.slice none 0 0) (.slice none 0 0) 25
  obtain ⟨W2, hW2⟩ : ∃ X, W1.alloc (.cells #[.int .i64 0, .int .i64 0, .slice none 0 0, .slice none 0 0, .slice none 0 0, .slice none 0 0] 25) = X := ⟨_, rfl⟩
  have s1 : W1.heap.size = N + 1 := by rw [← hW1, World.size_alloc, hN]
  have s2 : W2.heap.size = N + 2 := by rw [← hW2, World.size_alloc, s1]
  rw [hW1, hN] at hx
  rw [hW2, s1] at hz
  have b2 : Below N w W2 := by rw [← hW2, ← hW1]; exact ((Below.refl _ _).alloc (by rw [hN]; exact Nat.le_refl _) _).alloc (by simp [hN]) _
  replace hx := hx.below (by simp) (by rw [← hW2]; exact (Below.refl _ _).alloc (Nat.le_refl _) _ : Below W1.heap.size W1 W2)
  obtain ⟨wc, hwc⟩ : ∃ X, W2.drew = X := ⟨_, rfl⟩
  have HX := Lib.hid (show Cel wc N [.int .i64 i0, .int .i64 f0, .slice qa lq qc, .slice aa la ac, .slice na ln nc, .slice ra lr rc] by rw [← hwc]; exact ⟨hx.c, hx.fz⟩)
  have HZ := Lib.hid (show Cel wc (N + 1) [.int .i64 0, .int .i64 0, .slice none 0 0, .slice none 0 0, .slice none 0 0, .slice none 0 0] by rw [← hwc]; exact ⟨hz.c, hz.fz⟩)
  have HB := Lib.hid (show Below N w wc by rw [← hwc]; exact b2.drew)
  have HU := Lib.hid (show Lst wc hi (.slice qa lq qc) l.length (acq l) from Lst.below hq HB.out (by omega))
  have HSZ := Lib.hid (show N + 2 ≤ wc.heap.size by rw [← hwc]; exact Nat.le_of_eq s2.symm)
  have HL := Lib.hid hl
  have HN := Lib.hid hN
  have HHI := Lib.hid (show hi ≤ N by omega)
  have HLQ := Lib.hid hlq
  clear hq ha hn hr h1 hx hz b2 s2 hl0 hlan hlns hlar hla hln hlr hi0 hf0 hl hlq
  rw [hN] at HCA HCN HCR ⊢
  have hlq9 : lq ≤ 900000 := by have := HL.out; omega
  have hwr : IntKind.i64.wrap ((lq : Int) + 2) = (lq : Int) + 2 := wraps_i64 _ (by omega) (by have e : (2 : Int) ^ 63 = 9223372036854775808 := by decide
                                                                                              omega)
  go_enter Tryz.func10, Tryz.ntmps10
  go_wp2_with fail
  clear hN
  have d2 : wc.cell? ⟨N, 2, none⟩ = some (.slice qa lq qc) := HX.out.c 2 (by simp)
  refine wp_region_till (S := (fun wx => wx.cell? ⟨N, 2, none⟩ = some (.slice qa lq qc))) 16 (by kernel_rfl) (by rw [hwc]; exact (HX.out.c 2 (by simp))) (fun hHeld => ?_)
  refine till_take (i := 0) (oi := { dst := some 3, op := Op.fieldAddr 25 (Operand.tmp 1) 2, type := 0, pos := "messages.go:24", after := #[], guard := none }) (v := ?_) rfl (by kernel_rfl) (by kernel_rfl) (by kernel_rfl) (fun _ _ _ h => h) (Or.inl ⟨by rfl, ?_⟩) (by assumption) ?_
  rotate_left 1
  · intro w hSw; (try dsimp only at hSw); go_simp; try (with_reducible rfl)
  try simp only [Act.put, List.setIfInBounds_toArray, List.set_cons_zero, List.set_cons_succ]
  refine till_take (i := 1) (oi := { dst := some 4, op := Op.load 22 (Operand.tmp 3), type := 22, pos := "messages.go:24", after := #[{ on := 0, ground := Ground.data }], guard := none }) (v := ?_) rfl (by kernel_rfl) (by kernel_rfl) (by kernel_rfl) (fun _ _ _ h => h) (Or.inl ⟨by rfl, ?_⟩) (by assumption) ?_
  rotate_left 1
  · intro w hSw; (try dsimp only at hSw); go_simp; try (with_reducible rfl)
  try simp only [Act.put, List.setIfInBounds_toArray, List.set_cons_zero, List.set_cons_succ]
  refine till_take (i := 2) (oi := { dst := some 5, op := Op.call { callee := Callee.builtin Builtin.len, args := #[Operand.tmp 4], argTypes := #[22] }, type := 3, pos := "messages.go:24", after := #[{ on := 1, ground := Ground.data }], guard := none }) (v := ?_) rfl (by kernel_rfl) (by kernel_rfl) (by kernel_rfl) (fun _ _ _ h => h) (Or.inl ⟨by rfl, ?_⟩) (by assumption) ?_
  rotate_left 1
  · intro w hSw; (try dsimp only at hSw); go_simp; try (with_reducible rfl)
  try simp only [Act.put, List.setIfInBounds_toArray, List.set_cons_zero, List.set_cons_succ]
  refine till_take (i := 3) (oi := { dst := some 6, op := Op.binOp BinOp.add 3 (Operand.tmp 5) (Operand.const (Value.int IntKind.i64 2)) 3, type := 3, pos := "messages.go:24", after := #[{ on := 2, ground := Ground.data }], guard := none }) (v := ?_) rfl (by kernel_rfl) (by kernel_rfl) (by kernel_rfl) (fun _ _ _ h => h) (Or.inl ⟨by rfl, ?_⟩) (by assumption) ?_
  rotate_left 1
  · intro w hSw; (try dsimp only at hSw); go_simp; try (with_reducible rfl)
  try simp only [Act.put, List.setIfInBounds_toArray, List.set_cons_zero, List.set_cons_succ]
  refine till_take (i := 5) (oi := { dst := some 8, op := Op.fieldAddr 25 (Operand.tmp 1) 2, type := 0, pos := "messages.go:24", after := #[], guard := none }) (v := ?_) rfl (by kernel_rfl) (by kernel_rfl) (by kernel_rfl) (fun _ _ _ h => h) (Or.inl ⟨by rfl, ?_⟩) (by assumption) ?_
  rotate_left 1
  · intro w hSw; (try dsimp only at hSw); go_simp; try (with_reducible rfl)
  try simp only [Act.put, List.setIfInBounds_toArray, List.set_cons_zero, List.set_cons_succ]
  refine till_take (i := 6) (oi := { dst := some 9, op := Op.load 22 (Operand.tmp 8), type := 22, pos := "messages.go:24", after := #[{ on := 5, ground := Ground.data }], guard := none }) (v := ?_) rfl (by kernel_rfl) (by kernel_rfl) (by kernel_rfl) (fun _ _ _ h => h) (Or.inl ⟨by rfl, ?_⟩) (by assumption) ?_
  rotate_left 1
  · intro w hSw; (try dsimp only at hSw); go_simp; try (with_reducible rfl)
  try simp only [Act.put, List.setIfInBounds_toArray, List.set_cons_zero, List.set_cons_succ]
  refine till_take (i := 8) (oi := { dst := some 11, op := Op.build 56 #[(1, Operand.const (Value.int IntKind.i64 7))], type := 56, pos := "messages.go:24", after := #[], guard := none }) (v := ?_) rfl (by kernel_rfl) (by kernel_rfl) (by kernel_rfl) (fun _ _ _ h => h) (Or.inl ⟨by rfl, ?_⟩) (by assumption) ?_
  rotate_left 1
  · intro w hSw; (try dsimp only at hSw); go_simp; try (with_reducible rfl)
  try simp only [Act.put, List.setIfInBounds_toArray, List.set_cons_zero, List.set_cons_succ]
  refine till_take (i := 11) (oi := { dst := some 14, op := Op.fieldAddr 25 (Operand.tmp 1) 2, type := 0, pos := "messages.go:24", after := #[], guard := none }) (v := ?_) rfl (by kernel_rfl) (by kernel_rfl) (by kernel_rfl) (fun _ _ _ h => h) (Or.inl ⟨by rfl, ?_⟩) (by assumption) ?_
  rotate_left 1
  · intro w hSw; (try dsimp only at hSw); go_simp; try (with_reducible rfl)
  try simp only [Act.put, List.setIfInBounds_toArray, List.set_cons_zero, List.set_cons_succ]
  refine till_take (i := 12) (oi := { dst := some 15, op := Op.load 22 (Operand.tmp 14), type := 22, pos := "messages.go:24", after := #[{ on := 11, ground := Ground.data }], guard := none }) (v := ?_) rfl (by kernel_rfl) (by kernel_rfl) (by kernel_rfl) (fun _ _ _ h => h) (Or.inl ⟨by rfl, ?_⟩) (by assumption) ?_
  rotate_left 1
  · intro w hSw; (try dsimp only at hSw); go_simp; try (with_reducible rfl)
  try simp only [Act.put, List.setIfInBounds_toArray, List.set_cons_zero, List.set_cons_succ]
  refine till_take (i := 13) (oi := { dst := some 16, op := Op.call { callee := Callee.builtin Builtin.len, args := #[Operand.tmp 15], argTypes := #[22] }, type := 3, pos := "messages.go:24", after := #[{ on := 12, ground := Ground.data }], guard := none }) (v := ?_) rfl (by kernel_rfl) (by kernel_rfl) (by kernel_rfl) (fun _ _ _ h => h) (Or.inl ⟨by rfl, ?_⟩) (by assumption) ?_
  rotate_left 1
  · intro w hSw; (try dsimp only at hSw); go_simp; try (with_reducible rfl)
  try simp only [Act.put, List.setIfInBounds_toArray, List.set_cons_zero, List.set_cons_succ]
  refine till_ready (rs := [4, 9]) (by kernel_rfl) (by simp) ?_
  refine TillAll.cons (o := { dst := some 7, op := Op.makeSlice 22 (Operand.const (Value.int IntKind.i64 0)) (Operand.tmp 6), type := 22, pos := "messages.go:24", after := #[{ on := 3, ground := Ground.data }], guard := none }) rfl (fun K hK => ?_) (TillAll.cons (o := { dst := some 12, op := Op.buildSlice 22 1 #[(0, Operand.tmp 11)], type := 22, pos := "messages.go:24", after := #[{ on := 8, ground := Ground.data }], guard := none }) rfl (fun K hK => ?_) (TillAll.nil))
  · have HSZ0 := HSZ.out
    obtain ⟨g4, hg4⟩ : ∃ g, wc.heap.size = g := ⟨_, rfl⟩
    obtain ⟨wc, hmk, ho, hb⟩ := make_qn wc lq hlq9
    rw [hg4] at ho HSZ0
    replace HX := Lib.hid (HX.out.below (by simp) hb)
    replace HZ := Lib.hid (HZ.out.below (by simp) hb)
    replace HU := Lib.hid (HU.out.below hb (Nat.le_trans HHI.out (by have := HSZ.out; omega)))
    replace HB := Lib.hid (below_aside HB.out (Aside.of_all hb : Aside (fun _ => False) _ _) (fun k hk => ⟨by have := HSZ.out; omega, id⟩))
    replace HSZ := Lib.hid (Nat.le_trans HSZ.out hb.size)
    clear hb
    have HO := Lib.hid (show OwnQn _ (N + 2) _ _ from row_base ho HSZ0)
    clear ho HSZ0
    go_simp
    clear hmk hg4
    clear d2
    have d2 : wc.cell? ⟨N, 2, none⟩ = some (.slice qa lq qc) := HX.out.c 2 (by simp)
    refine hK.out _ _ (HX.out.c 2 (by simp)) (fun hHeld => ?_)
    clear hK K
    try simp only [Act.put, List.setIfInBounds_toArray, List.set_cons_zero, List.set_cons_succ]
    refine till_ready (rs := [7, 9]) (by kernel_rfl) (by simp) ?_
    refine TillAll.cons (o := { dst := some 10, op := Op.call { callee := Callee.builtin Builtin.append, args := #[Operand.tmp 7, Operand.tmp 9], argTypes := #[22, 22] }, type := 22, pos := "messages.go:24", after := #[{ on := 4, ground := Ground.data }, { on := 6, ground := Ground.data }], guard := none }) rfl (fun K hK => ?_) (TillAll.cons (o := { dst := some 12, op := Op.buildSlice 22 1 #[(0, Operand.tmp 11)], type := 22, pos := "messages.go:24", after := #[{ on := 8, ground := Ground.data }], guard := none }) rfl (fun K hK => ?_) (TillAll.nil))
    · obtain ⟨a2, c2, wn, hrun, ho, ha, _⟩ := run_appQn HO.out (show SQ _ _ _ _ from HU.out) (by rw [List.length_nil, Nat.zero_add, HLQ.out]; omega) HSZ.out
      simp only [List.length_nil, Nat.zero_add, List.nil_append] at hrun ho
      rw [HLQ.out] at hrun ho
      have HRUN := Lib.hid hrun
      have hlt := World.ownsRow.lt HO.out
      have hbN : Below (N + 2) wc wn := ha.below fun k hk => ⟨by have := HSZ.out; omega, fun hg => by have := (hlt _ hg).1; omega⟩
      replace HX := Lib.hid (HX.out.aside (by simp) ha (fun hg => by have := (hlt _ hg).1; omega))
      replace HZ := Lib.hid (HZ.out.aside (by simp) ha (fun hg => by have := (hlt _ hg).1; omega))
      replace HU := Lib.hid (HU.out.below hbN (by have := HHI.out; omega))
      replace HB := Lib.hid (below_aside HB.out ha (fun k hk => ⟨by have := HSZ.out; omega, fun hg => by have := (hlt _ hg).1; omega⟩))
      replace HSZ := Lib.hid (Nat.le_trans HSZ.out ha.size)
      have HO := Lib.hid ho
      clear hrun ho ha hlt hbN
      refine oper_app_run (.tmp 7) (.tmp 9) 22 22 rfl rfl rfl rfl HRUN.out ?_
      obtain ⟨wc, hwc⟩ : ∃ X, wn = X := ⟨_, rfl⟩
      rw [hwc] at HX HZ HU HB HSZ HO ⊢
      clear hwc HRUN
      clear d2
      have d2 : wc.cell? ⟨N, 2, none⟩ = some (.slice qa lq qc) := HX.out.c 2 (by simp)
      refine hK.out _ _ (HX.out.c 2 (by simp)) (fun hHeld => ?_)
      clear hK K
      try simp only [Act.put, List.setIfInBounds_toArray, List.set_cons_zero, List.set_cons_succ]
      refine till_ready (rs := [9]) (by kernel_rfl) (by simp) ?_
      refine TillAll.cons (o := { dst := some 12, op := Op.buildSlice 22 1 #[(0, Operand.tmp 11)], type := 22, pos := "messages.go:24", after := #[{ on := 8, ground := Ground.data }], guard := none }) rfl (fun K hK => ?_) (TillAll.nil)
      go_simp
      obtain ⟨mb, hmb⟩ : ∃ g, wc.heap.size = g := ⟨_, rfl⟩
      have hone := cel_new3 wc (.string (bs qmark.n)) (.int .i64 qmark.t) (.int .i64 qmark.c) 56
      have hb : Below wc.heap.size wc (wc.alloc (.cells #[.string (bs qmark.n), .int .i64 qmark.t, .int .i64 qmark.c] 56)) := (Below.refl _ _).alloc (Nat.le_refl _) _
      obtain ⟨wn, hwn⟩ : ∃ X, wc.alloc (.cells #[.string (bs qmark.n), .int .i64 qmark.t, .int .i64 qmark.c] 56) = X := ⟨_, rfl⟩
      have hwn2 : wc.alloc (.cells #[.string ⟨#[]⟩, .int .i64 7, .int .i64 0] 56) = wn := hwn
      rw [hwn, hmb] at hone
      rw [hwn] at hb
      rw [hwn2]
      clear hwn hwn2
      replace HX := Lib.hid (HX.out.below (by simp) hb)
      replace HZ := Lib.hid (HZ.out.below (by simp) hb)
      replace HU := Lib.hid (HU.out.below hb (Nat.le_trans HHI.out (by have := HSZ.out; omega)))
      replace HB := Lib.hid (below_aside HB.out (Aside.of_all hb : Aside (fun _ => False) _ _) (fun k hk => ⟨by have := HSZ.out; omega, id⟩))
      replace HSZ := Lib.hid (Nat.le_trans HSZ.out hb.size)
      replace HO := Lib.hid (show OwnQn _ _ _ _ from row_below HO.out hb)
      clear hb
      have H1 := Lib.hid hone
      clear hone
      try rw [hmb]
      clear hmb
      obtain ⟨wc, hwc⟩ : ∃ X, wn = X := ⟨_, rfl⟩
      rw [hwc] at HX HZ HU HB HSZ H1 HO ⊢
      clear hwc
      clear d2
      have d2 : wc.cell? ⟨N, 2, none⟩ = some (.slice qa lq qc) := HX.out.c 2 (by simp)
      refine hK.out _ _ (HX.out.c 2 (by simp)) (fun hHeld => ?_)
      clear hK K
      try simp only [Act.put, List.setIfInBounds_toArray, List.set_cons_zero, List.set_cons_succ]
      refine till_ready (rs := [10]) (by kernel_rfl) (by simp) ?_
      refine TillAll.cons (o := { dst := some 13, op := Op.call { callee := Callee.builtin Builtin.append, args := #[Operand.tmp 10, Operand.tmp 12], argTypes := #[22, 22] }, type := 22, pos := "messages.go:24", after := #[{ on := 7, ground := Ground.data }, { on := 9, ground := Ground.data }, { on := 7, ground := Ground.chain }], guard := none }) rfl (fun K hK => ?_) (TillAll.nil)
      obtain ⟨a2, c2, wn, hrun, ho, ha, _⟩ := run_appQn HO.out (show SQ _ _ _ _ from sq_cel H1.out) (by rw [HLQ.out, List.length_singleton]; omega) HSZ.out
      simp only [List.length_singleton] at hrun ho
      rw [HLQ.out] at hrun ho
      have HRUN := Lib.hid hrun
      have hlt := World.ownsRow.lt HO.out
      have hbN : Below (N + 2) wc wn := ha.below fun k hk => ⟨by have := HSZ.out; omega, fun hg => by have := (hlt _ hg).1; omega⟩
      replace HX := Lib.hid (HX.out.aside (by simp) ha (fun hg => by have := (hlt _ hg).1; omega))
      replace HZ := Lib.hid (HZ.out.aside (by simp) ha (fun hg => by have := (hlt _ hg).1; omega))
      replace HU := Lib.hid (HU.out.below hbN (by have := HHI.out; omega))
      replace HB := Lib.hid (below_aside HB.out ha (fun k hk => ⟨by have := HSZ.out; omega, fun hg => by have := (hlt _ hg).1; omega⟩))
      replace HSZ := Lib.hid (Nat.le_trans HSZ.out ha.size)
      have HO := Lib.hid ho
      have hcut := cut_qn a2 (lq + 1) lq c2 (by have := row_cap ho; rw [List.length_append, List.length_singleton, HLQ.out] at this; omega)
      clear hrun ho ha hlt hbN
      refine oper_app_run (.tmp 10) (.tmp 12) 22 22 rfl rfl rfl rfl HRUN.out ?_
      obtain ⟨wc, hwc⟩ : ∃ X, wn = X := ⟨_, rfl⟩
      rw [hwc] at HX HZ HU HB HSZ HO ⊢
      clear hwc HRUN
      clear d2
      have d2 : wc.cell? ⟨N, 2, none⟩ = some (.slice qa lq qc) := HX.out.c 2 (by simp)
      have f2 := HX.out.fz
      refine hK.out _ _ (HX.out.c 2 (by simp)) (fun hHeld => ?_)
      clear hK K
      try simp only [Act.put, List.setIfInBounds_toArray, List.set_cons_zero, List.set_cons_succ]
      refine till_take (i := 14) (oi := { dst := some 17, op := Op.slice 22 (Operand.tmp 13) none (some (Operand.tmp 16)) none, type := 22, pos := "messages.go:24", after := #[{ on := 10, ground := Ground.data }, { on := 13, ground := Ground.data }], guard := none }) (v := ?_) rfl (by kernel_rfl) (by kernel_rfl) (by kernel_rfl) (fun _ _ _ h => h) (Or.inl ⟨by rfl, ?_⟩) (by assumption) ?_
      rotate_left 1
      · intro w hSw; (try dsimp only at hSw); go_simp; try (with_reducible rfl)
      try simp only [Act.put, List.setIfInBounds_toArray, List.set_cons_zero, List.set_cons_succ]
      refine till_take (i := 15) (oi := { dst := some 18, op := Op.fieldAddr 25 (Operand.tmp 1) 2, type := 0, pos := "messages.go:24", after := #[{ on := 0, ground := Ground.phase }, { on := 1, ground := Ground.phase }, { on := 2, ground := Ground.phase }, { on := 3, ground := Ground.phase }, { on := 4, ground := Ground.phase }, { on := 5, ground := Ground.phase }, { on := 6, ground := Ground.phase }, { on := 7, ground := Ground.phase }, { on := 8, ground := Ground.phase }, { on := 9, ground := Ground.phase }, { on := 10, ground := Ground.phase }, { on := 11, ground := Ground.phase }, { on := 12, ground := Ground.phase }, { on := 13, ground := Ground.phase }, { on := 14, ground := Ground.phase }], guard := none }) (v := ?_) rfl (by kernel_rfl) (by kernel_rfl) (by kernel_rfl) (fun _ _ _ h => h) (Or.inl ⟨by rfl, ?_⟩) (by assumption) ?_
      rotate_left 1
      · intro w hSw; (try dsimp only at hSw); go_simp; try (with_reducible rfl)
      try simp only [Act.put, List.setIfInBounds_toArray, List.set_cons_zero, List.set_cons_succ]
      refine till_ready (rs := [16]) (by kernel_rfl) (by simp) ?_
      refine TillAll.last (o := { dst := none, op := Op.store 22 (Operand.tmp 18) (Operand.tmp 17), type := 0, pos := "messages.go:24", after := #[{ on := 15, ground := Ground.data }, { on := 14, ground := Ground.data }, { on := 10, ground := Ground.chain }, { on := 0, ground := Ground.phase }, { on := 1, ground := Ground.phase }, { on := 2, ground := Ground.phase }, { on := 3, ground := Ground.phase }, { on := 4, ground := Ground.phase }, { on := 5, ground := Ground.phase }, { on := 6, ground := Ground.phase }, { on := 7, ground := Ground.phase }, { on := 8, ground := Ground.phase }, { on := 9, ground := Ground.phase }, { on := 10, ground := Ground.phase }, { on := 11, ground := Ground.phase }, { on := 12, ground := Ground.phase }, { on := 13, ground := Ground.phase }, { on := 14, ground := Ground.phase }], guard := none }) rfl (fun K hK => ?_) (TillAll.nil)
      go_simp
      have HQ := Lib.hid (show CpQ wc (N + 2) (.slice a2 lq c2) l from ⟨a2, c2, by rw [HLQ.out], by rw [HLQ.out]; exact HO.out⟩)
      have hst : Aside (fun k => k = N) wc (wc.setCell ⟨N, 2, none⟩ (.slice a2 lq c2)) := Aside.setCell wc (p := ⟨N, 2, none⟩) _ rfl
      replace HX := Lib.hid (show Cel (wc.setCell ⟨N, 2, none⟩ (.slice a2 lq c2)) N [.int .i64 i0, .int .i64 f0, .slice a2 lq c2, .slice aa la ac, .slice na ln nc, .slice ra lr rc] from HX.out.set (o := 2) (by simp) (.slice a2 lq c2))
      replace HZ := Lib.hid (HZ.out.other (a := ⟨N, 2, none⟩) (by show N ≠ N + 1; omega) (.slice a2 lq c2))
      replace HQ := Lib.hid (HQ.out.aside hst (fun k hk hg => by have := (HQ.out.lt k hk).1; omega))
      replace HB := Lib.hid (below_aside HB.out hst (fun k hk => ⟨by have := HSZ.out; omega, by omega⟩))
      replace HSZ := Lib.hid (Nat.le_trans HSZ.out hst.size)
      clear hst HO HU H1 d2 hcut f2
      refine hK.out _ _ trivial (fun hHeld => ?_)
      clear hK K
      try simp only [Act.put, List.setIfInBounds_toArray, List.set_cons_zero, List.set_cons_succ]
      refine till_done (by kernel_rfl) ?_ _
      clear hHeld
      obtain ⟨w5, hw5⟩ : ∃ X, wc.setCell ⟨N, 2, none⟩ (.slice a2 lq c2) = X := ⟨_, rfl⟩
      rw [hw5] at HX HZ HQ HB HSZ ⊢
      clear hw5
      obtain ⟨c0, c1, c3, c4, c5, c6⟩ := HX.out.six
      go_wp2_with fail
      clear c0 c1 c3 c4 c5 c6
      refine (HCA.out _ HB.out).mono ?_; rintro e x3 ⟨v3, rfl, hcp, hb⟩
      obtain ⟨a3, k3, rfl, hown⟩ := hcp
      have HA := Lib.hid (show CpR x3 (N + 2) (.slice a3 lan.length k3) lan from ⟨a3, k3, rfl, row_base hown HSZ.out⟩)
      replace HX := Lib.hid (HX.out.below (by simp) hb)
      replace HZ := Lib.hid (HZ.out.below (by simp) hb)
      replace HB := Lib.hid (below_aside HB.out (Aside.of_all hb : Aside (fun _ => False) _ _) (fun k hk => ⟨by have := HSZ.out; omega, id⟩))
      replace HSZ := Lib.hid (Nat.le_trans HSZ.out hb.size)
      replace HQ := Lib.hid (HQ.out.below hb)
      clear hb hown
      obtain ⟨c0, c1, c3, c4, c5, c6⟩ := HX.out.six
      have fz := HX.out.fz
      have hst : Aside (fun k => k = N) x3 (x3.setCell ⟨N, 3, none⟩ (.slice a3 lan.length k3)) := Aside.setCell x3 (p := ⟨N, 3, none⟩) _ rfl
      replace HX := Lib.hid (show Cel (x3.setCell ⟨N, 3, none⟩ (.slice a3 lan.length k3)) N [.int .i64 i0, .int .i64 f0, .slice a2 lq c2, .slice a3 lan.length k3, .slice na ln nc, .slice ra lr rc] from HX.out.set (o := 3) (by simp) (.slice a3 lan.length k3))
      replace HZ := Lib.hid (HZ.out.other (a := ⟨N, 3, none⟩) (by show N ≠ N + 1; omega) (.slice a3 lan.length k3))
      replace HB := Lib.hid (below_aside HB.out hst (fun k hk => ⟨by have := HSZ.out; omega, by omega⟩))
      replace HSZ := Lib.hid (Nat.le_trans HSZ.out hst.size)
      replace HQ := Lib.hid (HQ.out.aside hst (fun k hk hg => by have := (HQ.out.lt k hk).1; omega))
      replace HA := Lib.hid (HA.out.aside hst (fun k hk hg => by have := (HA.out.lt k hk).1; omega))
      clear hst
      go_wp2_with fail
      clear c0 c1 c3 c4 c5 c6 fz
      refine (HCN.out _ HB.out).mono ?_; rintro e x4 ⟨v4, rfl, hcp, hb⟩
      obtain ⟨a4, k4, rfl, hown⟩ := hcp
      have HNN := Lib.hid (show CpR x4 (N + 2) (.slice a4 lns.length k4) lns from ⟨a4, k4, rfl, row_base hown HSZ.out⟩)
      replace HX := Lib.hid (HX.out.below (by simp) hb)
      replace HZ := Lib.hid (HZ.out.below (by simp) hb)
      replace HB := Lib.hid (below_aside HB.out (Aside.of_all hb : Aside (fun _ => False) _ _) (fun k hk => ⟨by have := HSZ.out; omega, id⟩))
      replace HSZ := Lib.hid (Nat.le_trans HSZ.out hb.size)
      replace HQ := Lib.hid (HQ.out.below hb)
      replace HA := Lib.hid (HA.out.below hb)
      clear hb hown
      obtain ⟨c0, c1, c3, c4, c5, c6⟩ := HX.out.six
      have fz := HX.out.fz
      have hst : Aside (fun k => k = N) x4 (x4.setCell ⟨N, 4, none⟩ (.slice a4 lns.length k4)) := Aside.setCell x4 (p := ⟨N, 4, none⟩) _ rfl
      replace HX := Lib.hid (show Cel (x4.setCell ⟨N, 4, none⟩ (.slice a4 lns.length k4)) N [.int .i64 i0, .int .i64 f0, .slice a2 lq c2, .slice a3 lan.length k3, .slice a4 lns.length k4, .slice ra lr rc] from HX.out.set (o := 4) (by simp) (.slice a4 lns.length k4))
      replace HZ := Lib.hid (HZ.out.other (a := ⟨N, 4, none⟩) (by show N ≠ N + 1; omega) (.slice a4 lns.length k4))
      replace HB := Lib.hid (below_aside HB.out hst (fun k hk => ⟨by have := HSZ.out; omega, by omega⟩))
      replace HSZ := Lib.hid (Nat.le_trans HSZ.out hst.size)
      replace HQ := Lib.hid (HQ.out.aside hst (fun k hk hg => by have := (HQ.out.lt k hk).1; omega))
      replace HA := Lib.hid (HA.out.aside hst (fun k hk hg => by have := (HA.out.lt k hk).1; omega))
      replace HNN := Lib.hid (HNN.out.aside hst (fun k hk hg => by have := (HNN.out.lt k hk).1; omega))
      clear hst
      go_wp2_with fail
      clear c0 c1 c3 c4 c5 c6 fz
      refine (HCR.out _ HB.out).mono ?_; rintro e x5 ⟨v5, rfl, hcp, hb⟩
      obtain ⟨a5, k5, rfl, hown⟩ := hcp
      have HRR := Lib.hid (show CpR x5 (N + 2) (.slice a5 lar.length k5) lar from ⟨a5, k5, rfl, row_base hown HSZ.out⟩)
      replace HX := Lib.hid (HX.out.below (by simp) hb)
      replace HZ := Lib.hid (HZ.out.below (by simp) hb)
      replace HB := Lib.hid (below_aside HB.out (Aside.of_all hb : Aside (fun _ => False) _ _) (fun k hk => ⟨by have := HSZ.out; omega, id⟩))
      replace HSZ := Lib.hid (Nat.le_trans HSZ.out hb.size)
      replace HQ := Lib.hid (HQ.out.below hb)
      replace HA := Lib.hid (HA.out.below hb)
      replace HNN := Lib.hid (HNN.out.below hb)
      clear hb hown
      obtain ⟨c0, c1, c3, c4, c5, c6⟩ := HX.out.six
      have fz := HX.out.fz
      obtain ⟨z0, z1, z2, z3, z4, z5⟩ := HZ.out.six
      have fy := HZ.out.fz
      have hst : Aside (fun k => k = N) x5 (x5.setCell ⟨N, 5, none⟩ (.slice a5 lar.length k5)) := Aside.setCell x5 (p := ⟨N, 5, none⟩) _ rfl
      replace HX := Lib.hid (show Cel (x5.setCell ⟨N, 5, none⟩ (.slice a5 lar.length k5)) N [.int .i64 i0, .int .i64 f0, .slice a2 lq c2, .slice a3 lan.length k3, .slice a4 lns.length k4, .slice a5 lar.length k5] from HX.out.set (o := 5) (by simp) (.slice a5 lar.length k5))
      replace HZ := Lib.hid (HZ.out.other (a := ⟨N, 5, none⟩) (by show N ≠ N + 1; omega) (.slice a5 lar.length k5))
      replace HB := Lib.hid (below_aside HB.out hst (fun k hk => ⟨by have := HSZ.out; omega, by omega⟩))
      replace HSZ := Lib.hid (Nat.le_trans HSZ.out hst.size)
      replace HQ := Lib.hid (HQ.out.aside hst (fun k hk hg => by have := (HQ.out.lt k hk).1; omega))
      replace HA := Lib.hid (HA.out.aside hst (fun k hk hg => by have := (HA.out.lt k hk).1; omega))
      replace HNN := Lib.hid (HNN.out.aside hst (fun k hk hg => by have := (HNN.out.lt k hk).1; omega))
      replace HRR := Lib.hid (HRR.out.aside hst (fun k hk hg => by have := (HRR.out.lt k hk).1; omega))
      clear hst
      go_wp2_with fail
      clear c0 c1 c3 c4 c5 c6 fz
      clear z0 z1 z2 z3 z4 z5 fy
      obtain ⟨wf, hwf⟩ : ∃ X, x5.setCell ⟨N, 5, none⟩ (.slice a5 lar.length k5) = X := ⟨_, rfl⟩
      rw [hwf] at HX HZ HB HSZ HQ HA HNN HRR ⊢
      have q6 := cel_put6 HZ.out (.int .i64 i0) (.int .i64 f0) (.slice a2 lq c2) (.slice a3 lan.length k3) (.slice a4 lns.length k4) (.slice a5 lar.length k5)
      have hst := aside_put6 wf (N + 1) (.int .i64 i0) (.int .i64 f0) (.slice a2 lq c2) (.slice a3 lan.length k3) (.slice a4 lns.length k4) (.slice a5 lar.length k5)
      obtain ⟨m0, m1, m2, m3, m4, m5⟩ := q6.six
      unfold put6 at m0 m1 m2 m3 m4 m5 hst
      refine bodyPost_ret (by simp [results, Tryz.results10, go_sem, m0, m1, m2, m3, m4, m5]) rfl ⟨_, rfl, ⟨.slice a2 lq c2, .slice a3 lan.length k3, .slice a4 lns.length k4, .slice a5 lar.length k5, rfl, ?_, ?_, ?_, ?_⟩, ?_⟩
      · exact (HQ.out.aside hst (fun k hk hg => by have := (HQ.out.lt k hk).1; omega)).base (by omega)
      · exact (HA.out.aside hst (fun k hk hg => by have := (HA.out.lt k hk).1; omega)).base (by omega)
      · exact (HNN.out.aside hst (fun k hk hg => by have := (HNN.out.lt k hk).1; omega)).base (by omega)
      · exact (HRR.out.aside hst (fun k hk hg => by have := (HRR.out.lt k hk).1; omega)).base (by omega)
      · exact below_aside HB.out hst (fun k hk => ⟨by have := HSZ.out; omega, by omega⟩)
    · go_simp
      obtain ⟨mb, hmb⟩ : ∃ g, wc.heap.size = g := ⟨_, rfl⟩
      have hone := cel_new3 wc (.string (bs qmark.n)) (.int .i64 qmark.t) (.int .i64 qmark.c) 56
      have hb : Below wc.heap.size wc (wc.alloc (.cells #[.string (bs qmark.n), .int .i64 qmark.t, .int .i64 qmark.c] 56)) := (Below.refl _ _).alloc (Nat.le_refl _) _
      obtain ⟨wn, hwn⟩ : ∃ X, wc.alloc (.cells #[.string (bs qmark.n), .int .i64 qmark.t, .int .i64 qmark.c] 56) = X := ⟨_, rfl⟩
      have hwn2 : wc.alloc (.cells #[.string ⟨#[]⟩, .int .i64 7, .int .i64 0] 56) = wn := hwn
      rw [hwn, hmb] at hone
      rw [hwn] at hb
      rw [hwn2]
      clear hwn hwn2
      have hlt := World.ownsRow.lt HO.out
      have HD := Lib.hid (show ∀ k, (Value.slice (some ⟨g4, 0, none⟩) 0 (lq + 2)).ownBlock = some k → k ≠ mb from fun k hk => by have := (hlt k hk).2; omega)
      clear hlt
      replace HX := Lib.hid (HX.out.below (by simp) hb)
      replace HZ := Lib.hid (HZ.out.below (by simp) hb)
      replace HU := Lib.hid (HU.out.below hb (Nat.le_trans HHI.out (by have := HSZ.out; omega)))
      replace HB := Lib.hid (below_aside HB.out (Aside.of_all hb : Aside (fun _ => False) _ _) (fun k hk => ⟨by have := HSZ.out; omega, id⟩))
      replace HSZ := Lib.hid (Nat.le_trans HSZ.out hb.size)
      replace HO := Lib.hid (show OwnQn _ _ _ _ from row_below HO.out hb)
      clear hb
      have H1 := Lib.hid hone
      clear hone
      try rw [hmb]
      clear hmb
      obtain ⟨wc, hwc⟩ : ∃ X, wn = X := ⟨_, rfl⟩
      rw [hwc] at HX HZ HU HB HSZ H1 HO ⊢
      clear hwc
      clear d2
      have d2 : wc.cell? ⟨N, 2, none⟩ = some (.slice qa lq qc) := HX.out.c 2 (by simp)
      refine hK.out _ _ (HX.out.c 2 (by simp)) (fun hHeld => ?_)
      clear hK K
      try simp only [Act.put, List.setIfInBounds_toArray, List.set_cons_zero, List.set_cons_succ]
      refine till_ready (rs := [7]) (by kernel_rfl) (by simp) ?_
      refine TillAll.cons (o := { dst := some 10, op := Op.call { callee := Callee.builtin Builtin.append, args := #[Operand.tmp 7, Operand.tmp 9], argTypes := #[22, 22] }, type := 22, pos := "messages.go:24", after := #[{ on := 4, ground := Ground.data }, { on := 6, ground := Ground.data }], guard := none }) rfl (fun K hK => ?_) (TillAll.nil)
      obtain ⟨a2, c2, wn, hrun, ho, ha, _⟩ := run_appQn HO.out (show SQ _ _ _ _ from HU.out) (by rw [List.length_nil, Nat.zero_add, HLQ.out]; omega) HSZ.out
      simp only [List.length_nil, Nat.zero_add, List.nil_append] at hrun ho
      rw [HLQ.out] at hrun ho
      have HRUN := Lib.hid hrun
      have hlt := World.ownsRow.lt HO.out
      have hbN : Below (N + 2) wc wn := ha.below fun k hk => ⟨by have := HSZ.out; omega, fun hg => by have := (hlt _ hg).1; omega⟩
      replace HX := Lib.hid (HX.out.aside (by simp) ha (fun hg => by have := (hlt _ hg).1; omega))
      replace HZ := Lib.hid (HZ.out.aside (by simp) ha (fun hg => by have := (hlt _ hg).1; omega))
      replace HU := Lib.hid (HU.out.below hbN (by have := HHI.out; omega))
      replace HB := Lib.hid (below_aside HB.out ha (fun k hk => ⟨by have := HSZ.out; omega, fun hg => by have := (hlt _ hg).1; omega⟩))
      replace HSZ := Lib.hid (Nat.le_trans HSZ.out ha.size)
      replace H1 := Lib.hid (H1.out.aside (by simp) ha (fun hg => HD.out mb hg rfl))
      have HO := Lib.hid ho
      clear hrun ho ha hlt hbN
      refine oper_app_run (.tmp 7) (.tmp 9) 22 22 rfl rfl rfl rfl HRUN.out ?_
      obtain ⟨wc, hwc⟩ : ∃ X, wn = X := ⟨_, rfl⟩
      rw [hwc] at HX HZ HU HB HSZ HO H1 ⊢
      clear hwc HRUN
      clear d2
      have d2 : wc.cell? ⟨N, 2, none⟩ = some (.slice qa lq qc) := HX.out.c 2 (by simp)
      refine hK.out _ _ (HX.out.c 2 (by simp)) (fun hHeld => ?_)
      clear hK K
      try simp only [Act.put, List.setIfInBounds_toArray, List.set_cons_zero, List.set_cons_succ]
      refine till_ready (rs := [10]) (by kernel_rfl) (by simp) ?_
      refine TillAll.cons (o := { dst := some 13, op := Op.call { callee := Callee.builtin Builtin.append, args := #[Operand.tmp 10, Operand.tmp 12], argTypes := #[22, 22] }, type := 22, pos := "messages.go:24", after := #[{ on := 7, ground := Ground.data }, { on := 9, ground := Ground.data }, { on := 7, ground := Ground.chain }], guard := none }) rfl (fun K hK => ?_) (TillAll.nil)
      obtain ⟨a2, c2, wn, hrun, ho, ha, _⟩ := run_appQn HO.out (show SQ _ _ _ _ from sq_cel H1.out) (by rw [HLQ.out, List.length_singleton]; omega) HSZ.out
      simp only [List.length_singleton] at hrun ho
      rw [HLQ.out] at hrun ho
      have HRUN := Lib.hid hrun
      have hlt := World.ownsRow.lt HO.out
      have hbN : Below (N + 2) wc wn := ha.below fun k hk => ⟨by have := HSZ.out; omega, fun hg => by have := (hlt _ hg).1; omega⟩
      replace HX := Lib.hid (HX.out.aside (by simp) ha (fun hg => by have := (hlt _ hg).1; omega))
      replace HZ := Lib.hid (HZ.out.aside (by simp) ha (fun hg => by have := (hlt _ hg).1; omega))
      replace HU := Lib.hid (HU.out.below hbN (by have := HHI.out; omega))
      replace HB := Lib.hid (below_aside HB.out ha (fun k hk => ⟨by have := HSZ.out; omega, fun hg => by have := (hlt _ hg).1; omega⟩))
      replace HSZ := Lib.hid (Nat.le_trans HSZ.out ha.size)
      have HO := Lib.hid ho
      have hcut := cut_qn a2 (lq + 1) lq c2 (by have := row_cap ho; rw [List.length_append, List.length_singleton, HLQ.out] at this; omega)
      clear hrun ho ha hlt hbN
      refine oper_app_run (.tmp 10) (.tmp 12) 22 22 rfl rfl rfl rfl HRUN.out ?_
      obtain ⟨wc, hwc⟩ : ∃ X, wn = X := ⟨_, rfl⟩
      rw [hwc] at HX HZ HU HB HSZ HO ⊢
      clear hwc HRUN
      clear d2
      have d2 : wc.cell? ⟨N, 2, none⟩ = some (.slice qa lq qc) := HX.out.c 2 (by simp)
      have f2 := HX.out.fz
      refine hK.out _ _ (HX.out.c 2 (by simp)) (fun hHeld => ?_)
      clear hK K
      try simp only [Act.put, List.setIfInBounds_toArray, List.set_cons_zero, List.set_cons_succ]
      refine till_take (i := 14) (oi := { dst := some 17, op := Op.slice 22 (Operand.tmp 13) none (some (Operand.tmp 16)) none, type := 22, pos := "messages.go:24", after := #[{ on := 10, ground := Ground.data }, { on := 13, ground := Ground.data }], guard := none }) (v := ?_) rfl (by kernel_rfl) (by kernel_rfl) (by kernel_rfl) (fun _ _ _ h => h) (Or.inl ⟨by rfl, ?_⟩) (by assumption) ?_
      rotate_left 1
      · intro w hSw; (try dsimp only at hSw); go_simp; try (with_reducible rfl)
      try simp only [Act.put, List.setIfInBounds_toArray, List.set_cons_zero, List.set_cons_succ]
      refine till_take (i := 15) (oi := { dst := some 18, op := Op.fieldAddr 25 (Operand.tmp 1) 2, type := 0, pos := "messages.go:24", after := #[{ on := 0, ground := Ground.phase }, { on := 1, ground := Ground.phase }, { on := 2, ground := Ground.phase }, { on := 3, ground := Ground.phase }, { on := 4, ground := Ground.phase }, { on := 5, ground := Ground.phase }, { on := 6, ground := Ground.phase }, { on := 7, ground := Ground.phase }, { on := 8, ground := Ground.phase }, { on := 9, ground := Ground.phase }, { on := 10, ground := Ground.phase }, { on := 11, ground := Ground.phase }, { on := 12, ground := Ground.phase }, { on := 13, ground := Ground.phase }, { on := 14, ground := Ground.phase }], guard := none }) (v := ?_) rfl (by kernel_rfl) (by kernel_rfl) (by kernel_rfl) (fun _ _ _ h => h) (Or.inl ⟨by rfl, ?_⟩) (by assumption) ?_
      rotate_left 1
      · intro w hSw; (try dsimp only at hSw); go_simp; try (with_reducible rfl)
      try simp only [Act.put, List.setIfInBounds_toArray, List.set_cons_zero, List.set_cons_succ]
      refine till_ready (rs := [16]) (by kernel_rfl) (by simp) ?_
      refine TillAll.last (o := { dst := none, op := Op.store 22 (Operand.tmp 18) (Operand.tmp 17), type := 0, pos := "messages.go:24", after := #[{ on := 15, ground := Ground.data }, { on := 14, ground := Ground.data }, { on := 10, ground := Ground.chain }, { on := 0, ground := Ground.phase }, { on := 1, ground := Ground.phase }, { on := 2, ground := Ground.phase }, { on := 3, ground := Ground.phase }, { on := 4, ground := Ground.phase }, { on := 5, ground := Ground.phase }, { on := 6, ground := Ground.phase }, { on := 7, ground := Ground.phase }, { on := 8, ground := Ground.phase }, { on := 9, ground := Ground.phase }, { on := 10, ground := Ground.phase }, { on := 11, ground := Ground.phase }, { on := 12, ground := Ground.phase }, { on := 13, ground := Ground.phase }, { on := 14, ground := Ground.phase }], guard := none }) rfl (fun K hK => ?_) (TillAll.nil)
      go_simp
      have HQ := Lib.hid (show CpQ wc (N + 2) (.slice a2 lq c2) l from ⟨a2, c2, by rw [HLQ.out], by rw [HLQ.out]; exact HO.out⟩)
      have hst : Aside (fun k => k = N) wc (wc.setCell ⟨N, 2, none⟩ (.slice a2 lq c2)) := Aside.setCell wc (p := ⟨N, 2, none⟩) _ rfl
      replace HX := Lib.hid (show Cel (wc.setCell ⟨N, 2, none⟩ (.slice a2 lq c2)) N [.int .i64 i0, .int .i64 f0, .slice a2 lq c2, .slice aa la ac, .slice na ln nc, .slice ra lr rc] from HX.out.set (o := 2) (by simp) (.slice a2 lq c2))
      replace HZ := Lib.hid (HZ.out.other (a := ⟨N, 2, none⟩) (by show N ≠ N + 1; omega) (.slice a2 lq c2))
      replace HQ := Lib.hid (HQ.out.aside hst (fun k hk hg => by have := (HQ.out.lt k hk).1; omega))
      replace HB := Lib.hid (below_aside HB.out hst (fun k hk => ⟨by have := HSZ.out; omega, by omega⟩))
      replace HSZ := Lib.hid (Nat.le_trans HSZ.out hst.size)
      clear hst HO HU H1 d2 hcut f2
      refine hK.out _ _ trivial (fun hHeld => ?_)
      clear hK K
      try simp only [Act.put, List.setIfInBounds_toArray, List.set_cons_zero, List.set_cons_succ]
      refine till_done (by kernel_rfl) ?_ _
      clear hHeld
      obtain ⟨w5, hw5⟩ : ∃ X, wc.setCell ⟨N, 2, none⟩ (.slice a2 lq c2) = X := ⟨_, rfl⟩
      rw [hw5] at HX HZ HQ HB HSZ ⊢
      clear hw5
      obtain ⟨c0, c1, c3, c4, c5, c6⟩ := HX.out.six
      go_wp2_with fail
      clear c0 c1 c3 c4 c5 c6
      refine (HCA.out _ HB.out).mono ?_; rintro e x3 ⟨v3, rfl, hcp, hb⟩
      obtain ⟨a3, k3, rfl, hown⟩ := hcp
      have HA := Lib.hid (show CpR x3 (N + 2) (.slice a3 lan.length k3) lan from ⟨a3, k3, rfl, row_base hown HSZ.out⟩)
      replace HX := Lib.hid (HX.out.below (by simp) hb)
      replace HZ := Lib.hid (HZ.out.below (by simp) hb)
      replace HB := Lib.hid (below_aside HB.out (Aside.of_all hb : Aside (fun _ => False) _ _) (fun k hk => ⟨by have := HSZ.out; omega, id⟩))
      replace HSZ := Lib.hid (Nat.le_trans HSZ.out hb.size)
      replace HQ := Lib.hid (HQ.out.below hb)
      clear hb hown
      obtain ⟨c0, c1, c3, c4, c5, c6⟩ := HX.out.six
      have fz := HX.out.fz
      have hst : Aside (fun k => k = N) x3 (x3.setCell ⟨N, 3, none⟩ (.slice a3 lan.length k3)) := Aside.setCell x3 (p := ⟨N, 3, none⟩) _ rfl
      replace HX := Lib.hid (show Cel (x3.setCell ⟨N, 3, none⟩ (.slice a3 lan.length k3)) N [.int .i64 i0, .int .i64 f0, .slice a2 lq c2, .slice a3 lan.length k3, .slice na ln nc, .slice ra lr rc] from HX.out.set (o := 3) (by simp) (.slice a3 lan.length k3))
      replace HZ := Lib.hid (HZ.out.other (a := ⟨N, 3, none⟩) (by show N ≠ N + 1; omega) (.slice a3 lan.length k3))
      replace HB := Lib.hid (below_aside HB.out hst (fun k hk => ⟨by have := HSZ.out; omega, by omega⟩))
      replace HSZ := Lib.hid (Nat.le_trans HSZ.out hst.size)
      replace HQ := Lib.hid (HQ.out.aside hst (fun k hk hg => by have := (HQ.out.lt k hk).1; omega))
      replace HA := Lib.hid (HA.out.aside hst (fun k hk hg => by have := (HA.out.lt k hk).1; omega))
      clear hst
      go_wp2_with fail
      clear c0 c1 c3 c4 c5 c6 fz
      refine (HCN.out _ HB.out).mono ?_; rintro e x4 ⟨v4, rfl, hcp, hb⟩
      obtain ⟨a4, k4, rfl, hown⟩ := hcp
      have HNN := Lib.hid (show CpR x4 (N + 2) (.slice a4 lns.length k4) lns from ⟨a4, k4, rfl, row_base hown HSZ.out⟩)
      replace HX := Lib.hid (HX.out.below (by simp) hb)
      replace HZ := Lib.hid (HZ.out.below (by simp) hb)
      replace HB := Lib.hid (below_aside HB.out (Aside.of_all hb : Aside (fun _ => False) _ _) (fun k hk => ⟨by have := HSZ.out; omega, id⟩))
      replace HSZ := Lib.hid (Nat.le_trans HSZ.out hb.size)
      replace HQ := Lib.hid (HQ.out.below hb)
      replace HA := Lib.hid (HA.out.below hb)
      clear hb hown
      obtain ⟨c0, c1, c3, c4, c5, c6⟩ := HX.out.six
      have fz := HX.out.fz
      have hst : Aside (fun k => k = N) x4 (x4.setCell ⟨N, 4, none⟩ (.slice a4 lns.length k4)) := Aside.setCell x4 (p := ⟨N, 4, none⟩) _ rfl
      replace HX := Lib.hid (show Cel (x4.setCell ⟨N, 4, none⟩ (.slice a4 lns.length k4)) N [.int .i64 i0, .int .i64 f0, .slice a2 lq c2, .slice a3 lan.length k3, .slice a4 lns.length k4, .slice ra lr rc] from HX.out.set (o := 4) (by simp) (.slice a4 lns.length k4))
      replace HZ := Lib.hid (HZ.out.other (a := ⟨N, 4, none⟩) (by show N ≠ N + 1; omega) (.slice a4 lns.length k4))
      replace HB := Lib.hid (below_aside HB.out hst (fun k hk => ⟨by have := HSZ.out; omega, by omega⟩))
      replace HSZ := Lib.hid (Nat.le_trans HSZ.out hst.size)
      replace HQ := Lib.hid (HQ.out.aside hst (fun k hk hg => by have := (HQ.out.lt k hk).1; omega))
      replace HA := Lib.hid (HA.out.aside hst (fun k hk hg => by have := (HA.out.lt k hk).1; omega))
      replace HNN := Lib.hid (HNN.out.aside hst (fun k hk hg => by have := (HNN.out.lt k hk).1; omega))
      clear hst
      go_wp2_with fail
      clear c0 c1 c3 c4 c5 c6 fz
      refine (HCR.out _ HB.out).mono ?_; rintro e x5 ⟨v5, rfl, hcp, hb⟩
      obtain ⟨a5, k5, rfl, hown⟩ := hcp
      have HRR := Lib.hid (show CpR x5 (N + 2) (.slice a5 lar.length k5) lar from ⟨a5, k5, rfl, row_base hown HSZ.out⟩)
      replace HX := Lib.hid (HX.out.below (by simp) hb)
      replace HZ := Lib.hid (HZ.out.below (by simp) hb)
      replace HB := Lib.hid (below_aside HB.out (Aside.of_all hb : Aside (fun _ => False) _ _) (fun k hk => ⟨by have := HSZ.out; omega, id⟩))
      replace HSZ := Lib.hid (Nat.le_trans HSZ.out hb.size)
      replace HQ := Lib.hid (HQ.out.below hb)
      replace HA := Lib.hid (HA.out.below hb)
      replace HNN := Lib.hid (HNN.out.below hb)
      clear hb hown
      obtain ⟨c0, c1, c3, c4, c5, c6⟩ := HX.out.six
      have fz := HX.out.fz
      obtain ⟨z0, z1, z2, z3, z4, z5⟩ := HZ.out.six
      have fy := HZ.out.fz
      have hst : Aside (fun k => k = N) x5 (x5.setCell ⟨N, 5, none⟩ (.slice a5 lar.length k5)) := Aside.setCell x5 (p := ⟨N, 5, none⟩) _ rfl
      replace HX := Lib.hid (show Cel (x5.setCell ⟨N, 5, none⟩ (.slice a5 lar.length k5)) N [.int .i64 i0, .int .i64 f0, .slice a2 lq c2, .slice a3 lan.length k3, .slice a4 lns.length k4, .slice a5 lar.length k5] from HX.out.set (o := 5) (by simp) (.slice a5 lar.length k5))
      replace HZ := Lib.hid (HZ.out.other (a := ⟨N, 5, none⟩) (by show N ≠ N + 1; omega) (.slice a5 lar.length k5))
      replace HB := Lib.hid (below_aside HB.out hst (fun k hk => ⟨by have := HSZ.out; omega, by omega⟩))
      replace HSZ := Lib.hid (Nat.le_trans HSZ.out hst.size)
      replace HQ := Lib.hid (HQ.out.aside hst (fun k hk hg => by have := (HQ.out.lt k hk).1; omega))
      replace HA := Lib.hid (HA.out.aside hst (fun k hk hg => by have := (HA.out.lt k hk).1; omega))
      replace HNN := Lib.hid (HNN.out.aside hst (fun k hk hg => by have := (HNN.out.lt k hk).1; omega))
      replace HRR := Lib.hid (HRR.out.aside hst (fun k hk hg => by have := (HRR.out.lt k hk).1; omega))
      clear hst
      go_wp2_with fail
      clear c0 c1 c3 c4 c5 c6 fz
      clear z0 z1 z2 z3 z4 z5 fy
      obtain ⟨wf, hwf⟩ : ∃ X, x5.setCell ⟨N, 5, none⟩ (.slice a5 lar.length k5) = X := ⟨_, rfl⟩
      rw [hwf] at HX HZ HB HSZ HQ HA HNN HRR ⊢
      have q6 := cel_put6 HZ.out (.int .i64 i0) (.int .i64 f0) (.slice a2 lq c2) (.slice a3 lan.length k3) (.slice a4 lns.length k4) (.slice a5 lar.length k5)
      have hst := aside_put6 wf (N + 1) (.int .i64 i0) (.int .i64 f0) (.slice a2 lq c2) (.slice a3 lan.length k3) (.slice a4 lns.length k4) (.slice a5 lar.length k5)
      obtain ⟨m0, m1, m2, m3, m4, m5⟩ := q6.six
      unfold put6 at m0 m1 m2 m3 m4 m5 hst
      refine bodyPost_ret (by simp [results, Tryz.results10, go_sem, m0, m1, m2, m3, m4, m5]) rfl ⟨_, rfl, ⟨.slice a2 lq c2, .slice a3 lan.length k3, .slice a4 lns.length k4, .slice a5 lar.length k5, rfl, ?_, ?_, ?_, ?_⟩, ?_⟩
      · exact (HQ.out.aside hst (fun k hk hg => by have := (HQ.out.lt k hk).1; omega)).base (by omega)
      · exact (HA.out.aside hst (fun k hk hg => by have := (HA.out.lt k hk).1; omega)).base (by omega)
      · exact (HNN.out.aside hst (fun k hk hg => by have := (HNN.out.lt k hk).1; omega)).base (by omega)
      · exact (HRR.out.aside hst (fun k hk hg => by have := (HRR.out.lt k hk).1; omega)).base (by omega)
      · exact below_aside HB.out hst (fun k hk => ⟨by have := HSZ.out; omega, by omega⟩)
  · go_simp
    obtain ⟨mb, hmb⟩ : ∃ g, wc.heap.size = g := ⟨_, rfl⟩
    have hone := cel_new3 wc (.string (bs qmark.n)) (.int .i64 qmark.t) (.int .i64 qmark.c) 56
    have hb : Below wc.heap.size wc (wc.alloc (.cells #[.string (bs qmark.n), .int .i64 qmark.t, .int .i64 qmark.c] 56)) := (Below.refl _ _).alloc (Nat.le_refl _) _
    obtain ⟨wn, hwn⟩ : ∃ X, wc.alloc (.cells #[.string (bs qmark.n), .int .i64 qmark.t, .int .i64 qmark.c] 56) = X := ⟨_, rfl⟩
    have hwn2 : wc.alloc (.cells #[.string ⟨#[]⟩, .int .i64 7, .int .i64 0] 56) = wn := hwn
    rw [hwn, hmb] at hone
    rw [hwn] at hb
    rw [hwn2]
    clear hwn hwn2
    replace HX := Lib.hid (HX.out.below (by simp) hb)
    replace HZ := Lib.hid (HZ.out.below (by simp) hb)
    replace HU := Lib.hid (HU.out.below hb (Nat.le_trans HHI.out (by have := HSZ.out; omega)))
    replace HB := Lib.hid (below_aside HB.out (Aside.of_all hb : Aside (fun _ => False) _ _) (fun k hk => ⟨by have := HSZ.out; omega, id⟩))
    replace HSZ := Lib.hid (Nat.le_trans HSZ.out hb.size)
    clear hb
    have H1 := Lib.hid hone
    clear hone
    try rw [hmb]
    clear hmb
    obtain ⟨wc, hwc⟩ : ∃ X, wn = X := ⟨_, rfl⟩
    rw [hwc] at HX HZ HU HB HSZ H1 ⊢
    clear hwc
    clear d2
    have d2 : wc.cell? ⟨N, 2, none⟩ = some (.slice qa lq qc) := HX.out.c 2 (by simp)
    refine hK.out _ _ (HX.out.c 2 (by simp)) (fun hHeld => ?_)
    clear hK K
    try simp only [Act.put, List.setIfInBounds_toArray, List.set_cons_zero, List.set_cons_succ]
    refine till_ready (rs := [4]) (by kernel_rfl) (by simp) ?_
    refine TillAll.cons (o := { dst := some 7, op := Op.makeSlice 22 (Operand.const (Value.int IntKind.i64 0)) (Operand.tmp 6), type := 22, pos := "messages.go:24", after := #[{ on := 3, ground := Ground.data }], guard := none }) rfl (fun K hK => ?_) (TillAll.nil)
    have HSZ0 := HSZ.out
    obtain ⟨g4, hg4⟩ : ∃ g, wc.heap.size = g := ⟨_, rfl⟩
    obtain ⟨wc, hmk, ho, hb⟩ := make_qn wc lq hlq9
    rw [hg4] at ho HSZ0
    have hm1 := H1.out.lt (by simp)
    have HD := Lib.hid (show ∀ k, (Value.slice (some ⟨g4, 0, none⟩) 0 (lq + 2)).ownBlock = some k → k ≠ mb from fun k hk => by (have : g4 = k := by simpa [Value.ownBlock] using hk); omega)
    clear hm1
    replace HX := Lib.hid (HX.out.below (by simp) hb)
    replace HZ := Lib.hid (HZ.out.below (by simp) hb)
    replace HU := Lib.hid (HU.out.below hb (Nat.le_trans HHI.out (by have := HSZ.out; omega)))
    replace HB := Lib.hid (below_aside HB.out (Aside.of_all hb : Aside (fun _ => False) _ _) (fun k hk => ⟨by have := HSZ.out; omega, id⟩))
    replace HSZ := Lib.hid (Nat.le_trans HSZ.out hb.size)
    replace H1 := Lib.hid (H1.out.below (by simp) hb)
    clear hb
    have HO := Lib.hid (show OwnQn _ (N + 2) _ _ from row_base ho HSZ0)
    clear ho HSZ0
    go_simp
    clear hmk hg4
    clear d2
    have d2 : wc.cell? ⟨N, 2, none⟩ = some (.slice qa lq qc) := HX.out.c 2 (by simp)
    refine hK.out _ _ (HX.out.c 2 (by simp)) (fun hHeld => ?_)
    clear hK K
    try simp only [Act.put, List.setIfInBounds_toArray, List.set_cons_zero, List.set_cons_succ]
    refine till_ready (rs := [7]) (by kernel_rfl) (by simp) ?_
    refine TillAll.cons (o := { dst := some 10, op := Op.call { callee := Callee.builtin Builtin.append, args := #[Operand.tmp 7, Operand.tmp 9], argTypes := #[22, 22] }, type := 22, pos := "messages.go:24", after := #[{ on := 4, ground := Ground.data }, { on := 6, ground := Ground.data }], guard := none }) rfl (fun K hK => ?_) (TillAll.nil)
    obtain ⟨a2, c2, wn, hrun, ho, ha, _⟩ := run_appQn HO.out (show SQ _ _ _ _ from HU.out) (by rw [List.length_nil, Nat.zero_add, HLQ.out]; omega) HSZ.out
    simp only [List.length_nil, Nat.zero_add, List.nil_append] at hrun ho
    rw [HLQ.out] at hrun ho
    have HRUN := Lib.hid hrun
    have hlt := World.ownsRow.lt HO.out
    have hbN : Below (N + 2) wc wn := ha.below fun k hk => ⟨by have := HSZ.out; omega, fun hg => by have := (hlt _ hg).1; omega⟩
    replace HX := Lib.hid (HX.out.aside (by simp) ha (fun hg => by have := (hlt _ hg).1; omega))
    replace HZ := Lib.hid (HZ.out.aside (by simp) ha (fun hg => by have := (hlt _ hg).1; omega))
    replace HU := Lib.hid (HU.out.below hbN (by have := HHI.out; omega))
    replace HB := Lib.hid (below_aside HB.out ha (fun k hk => ⟨by have := HSZ.out; omega, fun hg => by have := (hlt _ hg).1; omega⟩))
    replace HSZ := Lib.hid (Nat.le_trans HSZ.out ha.size)
    replace H1 := Lib.hid (H1.out.aside (by simp) ha (fun hg => HD.out mb hg rfl))
    have HO := Lib.hid ho
    clear hrun ho ha hlt hbN
    refine oper_app_run (.tmp 7) (.tmp 9) 22 22 rfl rfl rfl rfl HRUN.out ?_
    obtain ⟨wc, hwc⟩ : ∃ X, wn = X := ⟨_, rfl⟩
    rw [hwc] at HX HZ HU HB HSZ HO H1 ⊢
    clear hwc HRUN
    clear d2
    have d2 : wc.cell? ⟨N, 2, none⟩ = some (.slice qa lq qc) := HX.out.c 2 (by simp)
    refine hK.out _ _ (HX.out.c 2 (by simp)) (fun hHeld => ?_)
    clear hK K
    try simp only [Act.put, List.setIfInBounds_toArray, List.set_cons_zero, List.set_cons_succ]
    refine till_ready (rs := [10]) (by kernel_rfl) (by simp) ?_
    refine TillAll.cons (o := { dst := some 13, op := Op.call { callee := Callee.builtin Builtin.append, args := #[Operand.tmp 10, Operand.tmp 12], argTypes := #[22, 22] }, type := 22, pos := "messages.go:24", after := #[{ on := 7, ground := Ground.data }, { on := 9, ground := Ground.data }, { on := 7, ground := Ground.chain }], guard := none }) rfl (fun K hK => ?_) (TillAll.nil)
    obtain ⟨a2, c2, wn, hrun, ho, ha, _⟩ := run_appQn HO.out (show SQ _ _ _ _ from sq_cel H1.out) (by rw [HLQ.out, List.length_singleton]; omega) HSZ.out
    simp only [List.length_singleton] at hrun ho
    rw [HLQ.out] at hrun ho
    have HRUN := Lib.hid hrun
    have hlt := World.ownsRow.lt HO.out
    have hbN : Below (N + 2) wc wn := ha.below fun k hk => ⟨by have := HSZ.out; omega, fun hg => by have := (hlt _ hg).1; omega⟩
    replace HX := Lib.hid (HX.out.aside (by simp) ha (fun hg => by have := (hlt _ hg).1; omega))
    replace HZ := Lib.hid (HZ.out.aside (by simp) ha (fun hg => by have := (hlt _ hg).1; omega))
    replace HU := Lib.hid (HU.out.below hbN (by have := HHI.out; omega))
    replace HB := Lib.hid (below_aside HB.out ha (fun k hk => ⟨by have := HSZ.out; omega, fun hg => by have := (hlt _ hg).1; omega⟩))
    replace HSZ := Lib.hid (Nat.le_trans HSZ.out ha.size)
    have HO := Lib.hid ho
    have hcut := cut_qn a2 (lq + 1) lq c2 (by have := row_cap ho; rw [List.length_append, List.length_singleton, HLQ.out] at this; omega)
    clear hrun ho ha hlt hbN
    refine oper_app_run (.tmp 10) (.tmp 12) 22 22 rfl rfl rfl rfl HRUN.out ?_
    obtain ⟨wc, hwc⟩ : ∃ X, wn = X := ⟨_, rfl⟩
    rw [hwc] at HX HZ HU HB HSZ HO ⊢
    clear hwc HRUN
    clear d2
    have d2 : wc.cell? ⟨N, 2, none⟩ = some (.slice qa lq qc) := HX.out.c 2 (by simp)
    have f2 := HX.out.fz
    refine hK.out _ _ (HX.out.c 2 (by simp)) (fun hHeld => ?_)
    clear hK K
    try simp only [Act.put, List.setIfInBounds_toArray, List.set_cons_zero, List.set_cons_succ]
    refine till_take (i := 14) (oi := { dst := some 17, op := Op.slice 22 (Operand.tmp 13) none (some (Operand.tmp 16)) none, type := 22, pos := "messages.go:24", after := #[{ on := 10, ground := Ground.data }, { on := 13, ground := Ground.data }], guard := none }) (v := ?_) rfl (by kernel_rfl) (by kernel_rfl) (by kernel_rfl) (fun _ _ _ h => h) (Or.inl ⟨by rfl, ?_⟩) (by assumption) ?_
    rotate_left 1
    · intro w hSw; (try dsimp only at hSw); go_simp; try (with_reducible rfl)
    try simp only [Act.put, List.setIfInBounds_toArray, List.set_cons_zero, List.set_cons_succ]
    refine till_take (i := 15) (oi := { dst := some 18, op := Op.fieldAddr 25 (Operand.tmp 1) 2, type := 0, pos := "messages.go:24", after := #[{ on := 0, ground := Ground.phase }, { on := 1, ground := Ground.phase }, { on := 2, ground := Ground.phase }, { on := 3, ground := Ground.phase }, { on := 4, ground := Ground.phase }, { on := 5, ground := Ground.phase }, { on := 6, ground := Ground.phase }, { on := 7, ground := Ground.phase }, { on := 8, ground := Ground.phase }, { on := 9, ground := Ground.phase }, { on := 10, ground := Ground.phase }, { on := 11, ground := Ground.phase }, { on := 12, ground := Ground.phase }, { on := 13, ground := Ground.phase }, { on := 14, ground := Ground.phase }], guard := none }) (v := ?_) rfl (by kernel_rfl) (by kernel_rfl) (by kernel_rfl) (fun _ _ _ h => h) (Or.inl ⟨by rfl, ?_⟩) (by assumption) ?_
    rotate_left 1
    · intro w hSw; (try dsimp only at hSw); go_simp; try (with_reducible rfl)
    try simp only [Act.put, List.setIfInBounds_toArray, List.set_cons_zero, List.set_cons_succ]
    refine till_ready (rs := [16]) (by kernel_rfl) (by simp) ?_
    refine TillAll.last (o := { dst := none, op := Op.store 22 (Operand.tmp 18) (Operand.tmp 17), type := 0, pos := "messages.go:24", after := #[{ on := 15, ground := Ground.data }, { on := 14, ground := Ground.data }, { on := 10, ground := Ground.chain }, { on := 0, ground := Ground.phase }, { on := 1, ground := Ground.phase }, { on := 2, ground := Ground.phase }, { on := 3, ground := Ground.phase }, { on := 4, ground := Ground.phase }, { on := 5, ground := Ground.phase }, { on := 6, ground := Ground.phase }, { on := 7, ground := Ground.phase }, { on := 8, ground := Ground.phase }, { on := 9, ground := Ground.phase }, { on := 10, ground := Ground.phase }, { on := 11, ground := Ground.phase }, { on := 12, ground := Ground.phase }, { on := 13, ground := Ground.phase }, { on := 14, ground := Ground.phase }], guard := none }) rfl (fun K hK => ?_) (TillAll.nil)
    go_simp
    have HQ := Lib.hid (show CpQ wc (N + 2) (.slice a2 lq c2) l from ⟨a2, c2, by rw [HLQ.out], by rw [HLQ.out]; exact HO.out⟩)
    have hst : Aside (fun k => k = N) wc (wc.setCell ⟨N, 2, none⟩ (.slice a2 lq c2)) := Aside.setCell wc (p := ⟨N, 2, none⟩) _ rfl
    replace HX := Lib.hid (show Cel (wc.setCell ⟨N, 2, none⟩ (.slice a2 lq c2)) N [.int .i64 i0, .int .i64 f0, .slice a2 lq c2, .slice aa la ac, .slice na ln nc, .slice ra lr rc] from HX.out.set (o := 2) (by simp) (.slice a2 lq c2))
    replace HZ := Lib.hid (HZ.out.other (a := ⟨N, 2, none⟩) (by show N ≠ N + 1; omega) (.slice a2 lq c2))
    replace HQ := Lib.hid (HQ.out.aside hst (fun k hk hg => by have := (HQ.out.lt k hk).1; omega))
    replace HB := Lib.hid (below_aside HB.out hst (fun k hk => ⟨by have := HSZ.out; omega, by omega⟩))
    replace HSZ := Lib.hid (Nat.le_trans HSZ.out hst.size)
    clear hst HO HU H1 d2 hcut f2
    refine hK.out _ _ trivial (fun hHeld => ?_)
    clear hK K
    try simp only [Act.put, List.setIfInBounds_toArray, List.set_cons_zero, List.set_cons_succ]
    refine till_done (by kernel_rfl) ?_ _
    clear hHeld
    obtain ⟨w5, hw5⟩ : ∃ X, wc.setCell ⟨N, 2, none⟩ (.slice a2 lq c2) = X := ⟨_, rfl⟩
    rw [hw5] at HX HZ HQ HB HSZ ⊢
    clear hw5
    obtain ⟨c0, c1, c3, c4, c5, c6⟩ := HX.out.six
    go_wp2_with fail
    clear c0 c1 c3 c4 c5 c6
    refine (HCA.out _ HB.out).mono ?_; rintro e x3 ⟨v3, rfl, hcp, hb⟩
    obtain ⟨a3, k3, rfl, hown⟩ := hcp
    have HA := Lib.hid (show CpR x3 (N + 2) (.slice a3 lan.length k3) lan from ⟨a3, k3, rfl, row_base hown HSZ.out⟩)
    replace HX := Lib.hid (HX.out.below (by simp) hb)
    replace HZ := Lib.hid (HZ.out.below (by simp) hb)
    replace HB := Lib.hid (below_aside HB.out (Aside.of_all hb : Aside (fun _ => False) _ _) (fun k hk => ⟨by have := HSZ.out; omega, id⟩))
    replace HSZ := Lib.hid (Nat.le_trans HSZ.out hb.size)
    replace HQ := Lib.hid (HQ.out.below hb)
    clear hb hown
    obtain ⟨c0, c1, c3, c4, c5, c6⟩ := HX.out.six
    have fz := HX.out.fz
    have hst : Aside (fun k => k = N) x3 (x3.setCell ⟨N, 3, none⟩ (.slice a3 lan.length k3)) := Aside.setCell x3 (p := ⟨N, 3, none⟩) _ rfl
    replace HX := Lib.hid (show Cel (x3.setCell ⟨N, 3, none⟩ (.slice a3 lan.length k3)) N [.int .i64 i0, .int .i64 f0, .slice a2 lq c2, .slice a3 lan.length k3, .slice na ln nc, .slice ra lr rc] from HX.out.set (o := 3) (by simp) (.slice a3 lan.length k3))
    replace HZ := Lib.hid (HZ.out.other (a := ⟨N, 3, none⟩) (by show N ≠ N + 1; omega) (.slice a3 lan.length k3))
    replace HB := Lib.hid (below_aside HB.out hst (fun k hk => ⟨by have := HSZ.out; omega, by omega⟩))
    replace HSZ := Lib.hid (Nat.le_trans HSZ.out hst.size)
    replace HQ := Lib.hid (HQ.out.aside hst (fun k hk hg => by have := (HQ.out.lt k hk).1; omega))
    replace HA := Lib.hid (HA.out.aside hst (fun k hk hg => by have := (HA.out.lt k hk).1; omega))
    clear hst
    go_wp2_with fail
    clear c0 c1 c3 c4 c5 c6 fz
    refine (HCN.out _ HB.out).mono ?_; rintro e x4 ⟨v4, rfl, hcp, hb⟩
    obtain ⟨a4, k4, rfl, hown⟩ := hcp
    have HNN := Lib.hid (show CpR x4 (N + 2) (.slice a4 lns.length k4) lns from ⟨a4, k4, rfl, row_base hown HSZ.out⟩)
    replace HX := Lib.hid (HX.out.below (by simp) hb)
    replace HZ := Lib.hid (HZ.out.below (by simp) hb)
    replace HB := Lib.hid (below_aside HB.out (Aside.of_all hb : Aside (fun _ => False) _ _) (fun k hk => ⟨by have := HSZ.out; omega, id⟩))
    replace HSZ := Lib.hid (Nat.le_trans HSZ.out hb.size)
    replace HQ := Lib.hid (HQ.out.below hb)
    replace HA := Lib.hid (HA.out.below hb)
    clear hb hown
    obtain ⟨c0, c1, c3, c4, c5, c6⟩ := HX.out.six
    have fz := HX.out.fz
    have hst : Aside (fun k => k = N) x4 (x4.setCell ⟨N, 4, none⟩ (.slice a4 lns.length k4)) := Aside.setCell x4 (p := ⟨N, 4, none⟩) _ rfl
    replace HX := Lib.hid (show Cel (x4.setCell ⟨N, 4, none⟩ (.slice a4 lns.length k4)) N [.int .i64 i0, .int .i64 f0, .slice a2 lq c2, .slice a3 lan.length k3, .slice a4 lns.length k4, .slice ra lr rc] from HX.out.set (o := 4) (by simp) (.slice a4 lns.length k4))
    replace HZ := Lib.hid (HZ.out.other (a := ⟨N, 4, none⟩) (by show N ≠ N + 1; omega) (.slice a4 lns.length k4))
    replace HB := Lib.hid (below_aside HB.out hst (fun k hk => ⟨by have := HSZ.out; omega, by omega⟩))
    replace HSZ := Lib.hid (Nat.le_trans HSZ.out hst.size)
    replace HQ := Lib.hid (HQ.out.aside hst (fun k hk hg => by have := (HQ.out.lt k hk).1; omega))
    replace HA := Lib.hid (HA.out.aside hst (fun k hk hg => by have := (HA.out.lt k hk).1; omega))
    replace HNN := Lib.hid (HNN.out.aside hst (fun k hk hg => by have := (HNN.out.lt k hk).1; omega))
    clear hst
    go_wp2_with fail
    clear c0 c1 c3 c4 c5 c6 fz
    refine (HCR.out _ HB.out).mono ?_; rintro e x5 ⟨v5, rfl, hcp, hb⟩
    obtain ⟨a5, k5, rfl, hown⟩ := hcp
    have HRR := Lib.hid (show CpR x5 (N + 2) (.slice a5 lar.length k5) lar from ⟨a5, k5, rfl, row_base hown HSZ.out⟩)
    replace HX := Lib.hid (HX.out.below (by simp) hb)
    replace HZ := Lib.hid (HZ.out.below (by simp) hb)
    replace HB := Lib.hid (below_aside HB.out (Aside.of_all hb : Aside (fun _ => False) _ _) (fun k hk => ⟨by have := HSZ.out; omega, id⟩))
    replace HSZ := Lib.hid (Nat.le_trans HSZ.out hb.size)
    replace HQ := Lib.hid (HQ.out.below hb)
    replace HA := Lib.hid (HA.out.below hb)
    replace HNN := Lib.hid (HNN.out.below hb)
    clear hb hown
    obtain ⟨c0, c1, c3, c4, c5, c6⟩ := HX.out.six
    have fz := HX.out.fz
    obtain ⟨z0, z1, z2, z3, z4, z5⟩ := HZ.out.six
    have fy := HZ.out.fz
    have hst : Aside (fun k => k = N) x5 (x5.setCell ⟨N, 5, none⟩ (.slice a5 lar.length k5)) := Aside.setCell x5 (p := ⟨N, 5, none⟩) _ rfl
    replace HX := Lib.hid (show Cel (x5.setCell ⟨N, 5, none⟩ (.slice a5 lar.length k5)) N [.int .i64 i0, .int .i64 f0, .slice a2 lq c2, .slice a3 lan.length k3, .slice a4 lns.length k4, .slice a5 lar.length k5] from HX.out.set (o := 5) (by simp) (.slice a5 lar.length k5))
    replace HZ := Lib.hid (HZ.out.other (a := ⟨N, 5, none⟩) (by show N ≠ N + 1; omega) (.slice a5 lar.length k5))
    replace HB := Lib.hid (below_aside HB.out hst (fun k hk => ⟨by have := HSZ.out; omega, by omega⟩))
    replace HSZ := Lib.hid (Nat.le_trans HSZ.out hst.size)
    replace HQ := Lib.hid (HQ.out.aside hst (fun k hk hg => by have := (HQ.out.lt k hk).1; omega))
    replace HA := Lib.hid (HA.out.aside hst (fun k hk hg => by have := (HA.out.lt k hk).1; omega))
    replace HNN := Lib.hid (HNN.out.aside hst (fun k hk hg => by have := (HNN.out.lt k hk).1; omega))
    replace HRR := Lib.hid (HRR.out.aside hst (fun k hk hg => by have := (HRR.out.lt k hk).1; omega))
    clear hst
    go_wp2_with fail
    clear c0 c1 c3 c4 c5 c6 fz
    clear z0 z1 z2 z3 z4 z5 fy
    obtain ⟨wf, hwf⟩ : ∃ X, x5.setCell ⟨N, 5, none⟩ (.slice a5 lar.length k5) = X := ⟨_, rfl⟩
    rw [hwf] at HX HZ HB HSZ HQ HA HNN HRR ⊢
    have q6 := cel_put6 HZ.out (.int .i64 i0) (.int .i64 f0) (.slice a2 lq c2) (.slice a3 lan.length k3) (.slice a4 lns.length k4) (.slice a5 lar.length k5)
    have hst := aside_put6 wf (N + 1) (.int .i64 i0) (.int .i64 f0) (.slice a2 lq c2) (.slice a3 lan.length k3) (.slice a4 lns.length k4) (.slice a5 lar.length k5)
    obtain ⟨m0, m1, m2, m3, m4, m5⟩ := q6.six
    unfold put6 at m0 m1 m2 m3 m4 m5 hst
    refine bodyPost_ret (by simp [results, Tryz.results10, go_sem, m0, m1, m2, m3, m4, m5]) rfl ⟨_, rfl, ⟨.slice a2 lq c2, .slice a3 lan.length k3, .slice a4 lns.length k4, .slice a5 lar.length k5, rfl, ?_, ?_, ?_, ?_⟩, ?_⟩
    · exact (HQ.out.aside hst (fun k hk hg => by have := (HQ.out.lt k hk).1; omega)).base (by omega)
    · exact (HA.out.aside hst (fun k hk hg => by have := (HA.out.lt k hk).1; omega)).base (by omega)
    · exact (HNN.out.aside hst (fun k hk hg => by have := (HNN.out.lt k hk).1; omega)).base (by omega)
    · exact (HRR.out.aside hst (fun k hk hg => by have := (HRR.out.lt k hk).1; omega)).base (by omega)
    · exact below_aside HB.out hst (fun k hk => ⟨by have := HSZ.out; omega, by omega⟩)
end Go.Proofs.YtdikgjbpjdnodaaGreat
