/-
  A message copied with room to spare: CopyMessage.
-/
import Derived.Test.YteegekpanadmkaaGreatV10
import Derived.Test.YteegekpanadmkaaGreatU01
import Derived.Test.YteegekpanadmkaaGreatV15
namespace Go.Proofs.YteegekpanadmkaaGreat
open Go.RowKit Go.Shelf
set_option linter.unusedVariables false
set_option linter.unusedSimpArgs false
set_option maxRecDepth 100000
theorem sq_cel {w : World} {b : Nat} {x : Qn} (h : Cel w b [.string (bs x.n), .int .i64 x.t, .int .i64 x.c]) : SQ w (b + 1) (.slice (some ⟨b, 0, none⟩) 1 1) [x] :=
  ⟨_, 1, rfl, by simp, fun h => by simp at h, fun _ => ⟨b, 0, rfl, by omega, fun i u hu => by
    rw [Nat.zero_add]
    match i, hu with
    | 0, hu => rw [h.c 0 (by simp)]; simpa [acq, cq] using hu
    | 1, hu => rw [h.c 1 (by simp)]; simpa [acq, cq] using hu
    | 2, hu => rw [h.c 2 (by simp)]; simpa [acq, cq] using hu
    | i + 3, hu => simp [acq, cq] at hu⟩⟩
set_option maxHeartbeats 8000000 in
theorem copyM_any {w : World} {hi : Nat} {u : Value} {m : Ms} (h : Mg w hi u m) (h1 : hi ≤ w.heap.size) (hl : m.q.length + m.an.length + m.ns.length + m.ar.length ≤ 900000) :
    Calls Tryz.prog 9 #[u] w (fun e w' => ∃ v, e = .returned v ∧ CpM w' w.heap.size v m ∧ Below w.heap.size w w') := by
  obtain ⟨q, a, n, r, rfl, hq, ha, hn, hr⟩ := h
  have HCA := Lib.hid (fun wx (hb : Below w.heap.size w wx) => copyR_any (Lst.below ha hb h1) (Nat.le_trans h1 hb.size) (by omega))
  have HCN := Lib.hid (fun wx (hb : Below w.heap.size w wx) => copyR_any (Lst.below hn hb h1) (Nat.le_trans h1 hb.size) (by omega))
  have HCR := Lib.hid (fun wx (hb : Below w.heap.size w wx) => copyR_any (Lst.below hr hb h1) (Nat.le_trans h1 hb.size) (by omega))
  obtain ⟨qa, qc, rfl⟩ := Lst.shape hq
  obtain ⟨aa, ac, rfl⟩ := Lst.shape ha
  obtain ⟨na, nc, rfl⟩ := Lst.shape hn
  obtain ⟨ra, rc, rfl⟩ := Lst.shape hr
  unfold CpM
  obtain ⟨i0, hi0⟩ : ∃ i, m.id = i := ⟨_, rfl⟩
  obtain ⟨f0, hf0⟩ : ∃ i, m.fl = i := ⟨_, rfl⟩
  obtain ⟨l, hl0⟩ : ∃ i, m.q = i := ⟨_, rfl⟩
  obtain ⟨lan, hlan⟩ : ∃ i, m.an = i := ⟨_, rfl⟩
  obtain ⟨lns, hlns⟩ : ∃ i, m.ns = i := ⟨_, rfl⟩
  obtain ⟨lar, hlar⟩ : ∃ i, m.ar = i := ⟨_, rfl⟩
  rw [hi0, hf0, hl0, hlan, hlns, hlar]
  rw [hl0, hlan, hlns, hlar] at hl
  rw [hl0] at hq
  rw [hlan] at HCA
  rw [hlns] at HCN
  rw [hlar] at HCR
  obtain ⟨lq, hlq⟩ : ∃ i, l.length = i := ⟨_, rfl⟩
  obtain ⟨la, hla⟩ : ∃ i, lan.length = i := ⟨_, rfl⟩
  obtain ⟨ln, hln⟩ : ∃ i, lns.length = i := ⟨_, rfl⟩
  obtain ⟨lr, hlr⟩ : ∃ i, lar.length = i := ⟨_, rfl⟩
  rw [hla] at HCA
  rw [hln] at HCN
  rw [hlr] at HCR
  rw [hlq, hla, hln, hlr] at hl ⊢
  rw [hlq] at hq
  obtain ⟨N, hN⟩ : ∃ N, w.heap.size = N := ⟨_, rfl⟩
  have hx := cel_new6 w (.int .i64 i0) (.int .i64 f0) (.slice qa lq qc) (.slice aa la ac) (.slice na ln nc) (.slice ra lr rc) 25
  obtain ⟨W1, hW1⟩ : ∃ X, w.alloc (.cells #[.int .i64 i0, .int .i64 f0, .slice qa lq qc, .slice aa la ac, .slice na ln nc, .slice ra lr rc] 25) = X := ⟨_, rfl⟩
  have hz := cel_new6 W1 (.int .i64 0) (.int .i64 0) (.slice none 0 0) (.slice none 0 0) (.slice none 0 0) (.slice none 0 0) 25
  obtain ⟨W2, hW2⟩ : ∃ X, W1.alloc (.cells #[.int .i64 0, .int .i64 0, .slice none 0 0, .slice none 0 0, .slice none 0 0, .slice none 0 0] 25) = X := ⟨_, rfl⟩
  have s1 : W1.heap.size = N + 1 := by rw [← hW1, World.size_alloc, hN]
  have s2 : W2.heap.size = N + 2 := by rw [← hW2, World.size_alloc, s1]
  rw [hW1, hN] at hx
  rw [hW2, s1] at hz
  have b2 : Below N w W2 := by rw [← hW2, ← hW1]; exact ((Below.refl _ _).alloc (by rw [hN]; exact Nat.le_refl _) _).alloc (by simp [hN]) _
  replace hx := hx.below (by simp) (by rw [← hW2]; exact (Below.refl _ _).alloc (Nat.le_refl _) _ : Below W1.heap.size W1 W2)
  obtain ⟨wc, hwc⟩ : ∃ X, W2.drew = X := ⟨_, rfl⟩
  have HX := Lib.hid (show Cel wc N [.int .i64 i0, .int .i64 f0, .slice qa lq qc, .slice aa la ac, .slice na ln nc, .slice ra lr rc] by rw [← hwc]; exact ⟨hx.c, hx.fz⟩)
  have HZ := Lib.hid (show Cel wc (N + 1) [.int .i64 0, .int .i64 0, .slice none 0 0, .slice none 0 0, .slice none 0 0, .slice none 0 0] by rw [← hwc]; exact ⟨hz.c, hz.fz⟩)
  have HB := Lib.hid (show Below N w wc by rw [← hwc]; exact b2.drew)
  have HU := Lib.hid (show Lst wc hi (.slice qa lq qc) l.length (acq l) from Lst.below hq HB.out (by omega))
  have HSZ := Lib.hid (show N + 2 ≤ wc.heap.size by rw [← hwc]; exact Nat.le_of_eq s2.symm)
  have HL := Lib.hid hl
  have HN := Lib.hid hN
  have HHI := Lib.hid (show hi ≤ N by omega)
  have HLQ := Lib.hid hlq
  clear hq ha hn hr h1 hx hz b2 s2 hl0 hlan hlns hlar hla hln hlr hi0 hf0 hl hlq
  rw [hN] at HCA HCN HCR ⊢
  have hlq9 : lq ≤ 900000 := by have := HL.out; omega
  have hwr : IntKind.i64.wrap ((lq : Int) + 2) = (lq : Int) + 2 := wraps_i64 _ (by omega) (by have e : (2 : Int) ^ 63 = 9223372036854775808 := by decide
                                                                                              omega)
  go_enter Tryz.func9, Tryz.ntmps9
  go_wp2_with fail
  clear hN
  have d2 : wc.cell? ⟨N, 2, none⟩ = some (.slice qa lq qc) := HX.out.c 2 (by simp)
  refine wp_region_till (S := (fun wx => wx.cell? ⟨N, 2, none⟩ = some (.slice qa lq qc))) 16 (by kernel_rfl) (by rw [hwc]; exact (HX.out.c 2 (by simp))) (fun hHeld => ?_)
  refine till_take (i := 0) (oi := ⟨some 3, .fieldAddr 25 (.tmp 1) 2, 0, "messages.go:24", #[], none⟩) (v := ?_) rfl (by kernel_rfl) (by kernel_rfl) (by kernel_rfl) (fun _ _ _ h => h) (Or.inl ⟨by rfl, ?_⟩) (by assumption) ?_
  rotate_left 1
  · intro w hSw; (try dsimp only at hSw); go_simp; try (with_reducible rfl)
  try simp only [Act.put, List.setIfInBounds_toArray, List.set_cons_zero, List.set_cons_succ]
  refine till_take (i := 1) (oi := ⟨some 4, .load 22 (.tmp 3), 22, "messages.go:24", #[⟨0, .data⟩], none⟩) (v := ?_) rfl (by kernel_rfl) (by kernel_rfl) (by kernel_rfl) (fun _ _ _ h => h) (Or.inl ⟨by rfl, ?_⟩) (by assumption) ?_
  rotate_left 1
  · intro w hSw; (try dsimp only at hSw); go_simp; try (with_reducible rfl)
  try simp only [Act.put, List.setIfInBounds_toArray, List.set_cons_zero, List.set_cons_succ]
  refine till_take (i := 2) (oi := ⟨some 5, .call { callee := .builtin .len, args := #[.tmp 4], argTypes := #[22] }, 3, "messages.go:24", #[⟨1, .data⟩], none⟩) (v := ?_) rfl (by kernel_rfl) (by kernel_rfl) (by kernel_rfl) (fun _ _ _ h => h) (Or.inl ⟨by rfl, ?_⟩) (by assumption) ?_
  rotate_left 1
  · intro w hSw; (try dsimp only at hSw); go_simp; try (with_reducible rfl)
  try simp only [Act.put, List.setIfInBounds_toArray, List.set_cons_zero, List.set_cons_succ]
  refine till_take (i := 3) (oi := ⟨some 6, .binOp .add 3 (.tmp 5) (.const (.int .i64 2)) 3, 3, "messages.go:24", #[⟨2, .data⟩], none⟩) (v := ?_) rfl (by kernel_rfl) (by kernel_rfl) (by kernel_rfl) (fun _ _ _ h => h) (Or.inl ⟨by rfl, ?_⟩) (by assumption) ?_
  rotate_left 1
  · intro w hSw; (try dsimp only at hSw); go_simp; try (with_reducible rfl)
  try simp only [Act.put, List.setIfInBounds_toArray, List.set_cons_zero, List.set_cons_succ]
  refine till_take (i := 5) (oi := ⟨some 8, .fieldAddr 25 (.tmp 1) 2, 0, "messages.go:24", #[], none⟩) (v := ?_) rfl (by kernel_rfl) (by kernel_rfl) (by kernel_rfl) (fun _ _ _ h => h) (Or.inl ⟨by rfl, ?_⟩) (by assumption) ?_
  rotate_left 1
  · intro w hSw; (try dsimp only at hSw); go_simp; try (with_reducible rfl)
  try simp only [Act.put, List.setIfInBounds_toArray, List.set_cons_zero, List.set_cons_succ]
  refine till_take (i := 6) (oi := ⟨some 9, .load 22 (.tmp 8), 22, "messages.go:24", #[⟨5, .data⟩], none⟩) (v := ?_) rfl (by kernel_rfl) (by kernel_rfl) (by kernel_rfl) (fun _ _ _ h => h) (Or.inl ⟨by rfl, ?_⟩) (by assumption) ?_
  rotate_left 1
  · intro w hSw; (try dsimp only at hSw); go_simp; try (with_reducible rfl)
  try simp only [Act.put, List.setIfInBounds_toArray, List.set_cons_zero, List.set_cons_succ]
  refine till_take (i := 8) (oi := ⟨some 11, .build 56 #[(1, .const (.int .i64 7))], 56, "messages.go:24", #[], none⟩) (v := ?_) rfl (by kernel_rfl) (by kernel_rfl) (by kernel_rfl) (fun _ _ _ h => h) (Or.inl ⟨by rfl, ?_⟩) (by assumption) ?_
  rotate_left 1
  · intro w hSw; (try dsimp only at hSw); go_simp; try (with_reducible rfl)
  try simp only [Act.put, List.setIfInBounds_toArray, List.set_cons_zero, List.set_cons_succ]
  refine till_take (i := 11) (oi := ⟨some 14, .fieldAddr 25 (.tmp 1) 2, 0, "messages.go:24", #[], none⟩) (v := ?_) rfl (by kernel_rfl) (by kernel_rfl) (by kernel_rfl) (fun _ _ _ h => h) (Or.inl ⟨by rfl, ?_⟩) (by assumption) ?_
  rotate_left 1
  · intro w hSw; (try dsimp only at hSw); go_simp; try (with_reducible rfl)
  try simp only [Act.put, List.setIfInBounds_toArray, List.set_cons_zero, List.set_cons_succ]
  refine till_take (i := 12) (oi := ⟨some 15, .load 22 (.tmp 14), 22, "messages.go:24", #[⟨11, .data⟩], none⟩) (v := ?_) rfl (by kernel_rfl) (by kernel_rfl) (by kernel_rfl) (fun _ _ _ h => h) (Or.inl ⟨by rfl, ?_⟩) (by assumption) ?_
  rotate_left 1
  · intro w hSw; (try dsimp only at hSw); go_simp; try (with_reducible rfl)
  try simp only [Act.put, List.setIfInBounds_toArray, List.set_cons_zero, List.set_cons_succ]
  refine till_take (i := 13) (oi := ⟨some 16, .call { callee := .builtin .len, args := #[.tmp 15], argTypes := #[22] }, 3, "messages.go:24", #[⟨12, .data⟩], none⟩) (v := ?_) rfl (by kernel_rfl) (by kernel_rfl) (by kernel_rfl) (fun _ _ _ h => h) (Or.inl ⟨by rfl, ?_⟩) (by assumption) ?_
  rotate_left 1
  · intro w hSw; (try dsimp only at hSw); go_simp; try (with_reducible rfl)
  try simp only [Act.put, List.setIfInBounds_toArray, List.set_cons_zero, List.set_cons_succ]
  refine till_ready (rs := [4, 9]) (by kernel_rfl) (by simp) ?_
  refine TillAll.cons (o := ⟨some 7, .makeSlice 22 (.const (.int .i64 0)) (.tmp 6), 22, "messages.go:24", #[⟨3, .data⟩], none⟩) rfl (fun K hK => ?_) (TillAll.cons (o := ⟨some 12, .buildSlice 22 1 #[(0, .tmp 11)], 22, "messages.go:24", #[⟨8, .data⟩], none⟩) rfl (fun K hK => ?_) (TillAll.nil))
  have HSZ0 := HSZ.out
  obtain ⟨g4, hg4⟩ : ∃ g, wc.heap.size = g := ⟨_, rfl⟩
  obtain ⟨wc, hmk, ho, hb⟩ := make_qn wc lq hlq9
  rw [hg4] at ho HSZ0
  replace HX := Lib.hid (HX.out.below (by simp) hb)
  replace HZ := Lib.hid (HZ.out.below (by simp) hb)
  replace HU := Lib.hid (HU.out.below hb (Nat.le_trans HHI.out (by have := HSZ.out; omega)))
  replace HB := Lib.hid (below_aside HB.out (Aside.of_all hb : Aside (fun _ => False) _ _) (fun k hk => ⟨by have := HSZ.out; omega, id⟩))
  replace HSZ := Lib.hid (Nat.le_trans HSZ.out hb.size)
  clear hb
  have HO := Lib.hid (show OwnQn _ (N + 2) _ _ from row_base ho HSZ0)
  clear ho HSZ0
  go_simp
  clear hmk hg4
  clear d2
  have d2 : wc.cell? ⟨N, 2, none⟩ = some (.slice qa lq qc) := HX.out.c 2 (by simp)
  refine hK.out _ _ (HX.out.c 2 (by simp)) (fun hHeld => ?_)
  clear hK K
  try simp only [Act.put, List.setIfInBounds_toArray, List.set_cons_zero, List.set_cons_succ]
  refine till_ready (rs := [7, 9]) (by kernel_rfl) (by simp) ?_
  refine TillAll.cons (o := ⟨some 10, .call { callee := .builtin .append, args := #[.tmp 7, .tmp 9], argTypes := #[22, 22] }, 22, "messages.go:24", #[⟨4, .data⟩, ⟨6, .data⟩], none⟩) rfl (fun K hK => ?_) (TillAll.cons (o := ⟨some 12, .buildSlice 22 1 #[(0, .tmp 11)], 22, "messages.go:24", #[⟨8, .data⟩], none⟩) rfl (fun K hK => ?_) (TillAll.nil))
  obtain ⟨a2, c2, wn, hrun, ho, ha, _⟩ := run_appQn HO.out (show SQ _ _ _ _ from HU.out) (by rw [List.length_nil, Nat.zero_add, HLQ.out]; omega) HSZ.out
  simp only [List.length_nil, Nat.zero_add, List.nil_append] at hrun ho
  rw [HLQ.out] at hrun ho
  have HRUN := Lib.hid hrun
  have hlt := World.ownsRow.lt HO.out
  have hbN : Below (N + 2) wc wn := ha.below fun k hk => ⟨by have := HSZ.out; omega, fun hg => by have := (hlt _ hg).1; omega⟩
  replace HX := Lib.hid (HX.out.aside (by simp) ha (fun hg => by have := (hlt _ hg).1; omega))
  replace HZ := Lib.hid (HZ.out.aside (by simp) ha (fun hg => by have := (hlt _ hg).1; omega))
  replace HU := Lib.hid (HU.out.below hbN (by have := HHI.out; omega))
  replace HB := Lib.hid (below_aside HB.out ha (fun k hk => ⟨by have := HSZ.out; omega, fun hg => by have := (hlt _ hg).1; omega⟩))
  replace HSZ := Lib.hid (Nat.le_trans HSZ.out ha.size)
  have HO := Lib.hid ho
  clear hrun ho ha hlt hbN
  refine oper_app_run (.tmp 7) (.tmp 9) 22 22 rfl rfl rfl rfl HRUN.out ?_
  obtain ⟨wc, hwc⟩ : ∃ X, wn = X := ⟨_, rfl⟩
  rw [hwc] at HX HZ HU HB HSZ HO ⊢
  clear hwc HRUN
  clear d2
  have d2 : wc.cell? ⟨N, 2, none⟩ = some (.slice qa lq qc) := HX.out.c 2 (by simp)
  refine hK.out _ _ (HX.out.c 2 (by simp)) (fun hHeld => ?_)
  clear hK K
  try simp only [Act.put, List.setIfInBounds_toArray, List.set_cons_zero, List.set_cons_succ]
  refine till_ready (rs := [9]) (by kernel_rfl) (by simp) ?_
  refine TillAll.cons (o := ⟨some 12, .buildSlice 22 1 #[(0, .tmp 11)], 22, "messages.go:24", #[⟨8, .data⟩], none⟩) rfl (fun K hK => ?_) (TillAll.nil)
  go_simp
  obtain ⟨mb, hmb⟩ : ∃ g, wc.heap.size = g := ⟨_, rfl⟩
  have hone := cel_new3 wc (.string (bs qmark.n)) (.int .i64 qmark.t) (.int .i64 qmark.c) 56
  have hb : Below wc.heap.size wc (wc.alloc (.cells #[.string (bs qmark.n), .int .i64 qmark.t, .int .i64 qmark.c] 56)) := (Below.refl _ _).alloc (Nat.le_refl _) _
  obtain ⟨wn, hwn⟩ : ∃ X, wc.alloc (.cells #[.string (bs qmark.n), .int .i64 qmark.t, .int .i64 qmark.c] 56) = X := ⟨_, rfl⟩
  have hwn2 : wc.alloc (.cells #[.string ⟨#[]⟩, .int .i64 7, .int .i64 0] 56) = wn := hwn
  rw [hwn, hmb] at hone
  rw [hwn] at hb
  rw [hwn2]
  clear hwn hwn2
  replace HX := Lib.hid (HX.out.below (by simp) hb)
  replace HZ := Lib.hid (HZ.out.below (by simp) hb)
  replace HU := Lib.hid (HU.out.below hb (Nat.le_trans HHI.out (by have := HSZ.out; omega)))
  replace HB := Lib.hid (below_aside HB.out (Aside.of_all hb : Aside (fun _ => False) _ _) (fun k hk => ⟨by have := HSZ.out; omega, id⟩))
  replace HSZ := Lib.hid (Nat.le_trans HSZ.out hb.size)
  replace HO := Lib.hid (show OwnQn _ _ _ _ from row_below HO.out hb)
  clear hb
  have H1 := Lib.hid hone
  clear hone
  try rw [hmb]
  clear hmb
  obtain ⟨wc, hwc⟩ : ∃ X, wn = X := ⟨_, rfl⟩
  rw [hwc] at HX HZ HU HB HSZ H1 HO ⊢
  clear hwc
  clear d2
  have d2 : wc.cell? ⟨N, 2, none⟩ = some (.slice qa lq qc) := HX.out.c 2 (by simp)
  refine hK.out _ _ (HX.out.c 2 (by simp)) (fun hHeld => ?_)
  clear hK K
  try simp only [Act.put, List.setIfInBounds_toArray, List.set_cons_zero, List.set_cons_succ]
  rotate_left 1
  go_simp
  obtain ⟨mb, hmb⟩ : ∃ g, wc.heap.size = g := ⟨_, rfl⟩
  have hone := cel_new3 wc (.string (bs qmark.n)) (.int .i64 qmark.t) (.int .i64 qmark.c) 56
  have hb : Below wc.heap.size wc (wc.alloc (.cells #[.string (bs qmark.n), .int .i64 qmark.t, .int .i64 qmark.c] 56)) := (Below.refl _ _).alloc (Nat.le_refl _) _
  obtain ⟨wn, hwn⟩ : ∃ X, wc.alloc (.cells #[.string (bs qmark.n), .int .i64 qmark.t, .int .i64 qmark.c] 56) = X := ⟨_, rfl⟩
  have hwn2 : wc.alloc (.cells #[.string ⟨#[]⟩, .int .i64 7, .int .i64 0] 56) = wn := hwn
  rw [hwn, hmb] at hone
  rw [hwn] at hb
  rw [hwn2]
  clear hwn hwn2
  have hlt := World.ownsRow.lt HO.out
  have HD := Lib.hid (show ∀ k, (Value.slice (some ⟨g4, 0, none⟩) 0 (lq + 2)).ownBlock = some k → k ≠ mb from fun k hk => by have := (hlt k hk).2; omega)
  clear hlt
  replace HX := Lib.hid (HX.out.below (by simp) hb)
  replace HZ := Lib.hid (HZ.out.below (by simp) hb)
  replace HU := Lib.hid (HU.out.below hb (Nat.le_trans HHI.out (by have := HSZ.out; omega)))
  replace HB := Lib.hid (below_aside HB.out (Aside.of_all hb : Aside (fun _ => False) _ _) (fun k hk => ⟨by have := HSZ.out; omega, id⟩))
  replace HSZ := Lib.hid (Nat.le_trans HSZ.out hb.size)
  replace HO := Lib.hid (show OwnQn _ _ _ _ from row_below HO.out hb)
  clear hb
  have H1 := Lib.hid hone
  clear hone
  try rw [hmb]
  clear hmb
  obtain ⟨wc, hwc⟩ : ∃ X, wn = X := ⟨_, rfl⟩
  rw [hwc] at HX HZ HU HB HSZ H1 HO ⊢
  clear hwc
  clear d2
  have d2 : wc.cell? ⟨N, 2, none⟩ = some (.slice qa lq qc) := HX.out.c 2 (by simp)
  refine hK.out _ _ (HX.out.c 2 (by simp)) (fun hHeld => ?_)
  clear hK K
  try simp only [Act.put, List.setIfInBounds_toArray, List.set_cons_zero, List.set_cons_succ]
  refine till_ready (rs := [7]) (by kernel_rfl) (by simp) ?_
  refine TillAll.cons (o := ⟨some 10, .call { callee := .builtin .append, args := #[.tmp 7, .tmp 9], argTypes := #[22, 22] }, 22, "messages.go:24", #[⟨4, .data⟩, ⟨6, .data⟩], none⟩) rfl (fun K hK => ?_) (TillAll.nil)
  obtain ⟨a2, c2, wn, hrun, ho, ha, _⟩ := run_appQn HO.out (show SQ _ _ _ _ from HU.out) (by rw [List.length_nil, Nat.zero_add, HLQ.out]; omega) HSZ.out
  simp only [List.length_nil, Nat.zero_add, List.nil_append] at hrun ho
  rw [HLQ.out] at hrun ho
  have HRUN := Lib.hid hrun
  have hlt := World.ownsRow.lt HO.out
  have hbN : Below (N + 2) wc wn := ha.below fun k hk => ⟨by have := HSZ.out; omega, fun hg => by have := (hlt _ hg).1; omega⟩
  replace HX := Lib.hid (HX.out.aside (by simp) ha (fun hg => by have := (hlt _ hg).1; omega))
  replace HZ := Lib.hid (HZ.out.aside (by simp) ha (fun hg => by have := (hlt _ hg).1; omega))
  replace HU := Lib.hid (HU.out.below hbN (by have := HHI.out; omega))
  replace HB := Lib.hid (below_aside HB.out ha (fun k hk => ⟨by have := HSZ.out; omega, fun hg => by have := (hlt _ hg).1; omega⟩))
  replace HSZ := Lib.hid (Nat.le_trans HSZ.out ha.size)
  replace H1 := Lib.hid (H1.out.aside (by simp) ha (fun hg => HD.out mb hg rfl))
  have HO := Lib.hid ho
  clear hrun ho ha hlt hbN
  refine oper_app_run (.tmp 7) (.tmp 9) 22 22 rfl rfl rfl rfl HRUN.out ?_
  obtain ⟨wc, hwc⟩ : ∃ X, wn = X := ⟨_, rfl⟩
  rw [hwc] at HX HZ HU HB HSZ HO H1 ⊢
  clear hwc HRUN
  clear d2
  have d2 : wc.cell? ⟨N, 2, none⟩ = some (.slice qa lq qc) := HX.out.c 2 (by simp)
  refine hK.out _ _ (HX.out.c 2 (by simp)) (fun hHeld => ?_)
  clear hK K
  try simp only [Act.put, List.setIfInBounds_toArray, List.set_cons_zero, List.set_cons_succ]
  rotate_left 1
  go_simp
  obtain ⟨mb, hmb⟩ : ∃ g, wc.heap.size = g := ⟨_, rfl⟩
  have hone := cel_new3 wc (.string (bs qmark.n)) (.int .i64 qmark.t) (.int .i64 qmark.c) 56
  have hb : Below wc.heap.size wc (wc.alloc (.cells #[.string (bs qmark.n), .int .i64 qmark.t, .int .i64 qmark.c] 56)) := (Below.refl _ _).alloc (Nat.le_refl _) _
  obtain ⟨wn, hwn⟩ : ∃ X, wc.alloc (.cells #[.string (bs qmark.n), .int .i64 qmark.t, .int .i64 qmark.c] 56) = X := ⟨_, rfl⟩
  have hwn2 : wc.alloc (.cells #[.string ⟨#[]⟩, .int .i64 7, .int .i64 0] 56) = wn := hwn
  rw [hwn, hmb] at hone
  rw [hwn] at hb
  rw [hwn2]
  clear hwn hwn2
  replace HX := Lib.hid (HX.out.below (by simp) hb)
  replace HZ := Lib.hid (HZ.out.below (by simp) hb)
  replace HU := Lib.hid (HU.out.below hb (Nat.le_trans HHI.out (by have := HSZ.out; omega)))
  replace HB := Lib.hid (below_aside HB.out (Aside.of_all hb : Aside (fun _ => False) _ _) (fun k hk => ⟨by have := HSZ.out; omega, id⟩))
  replace HSZ := Lib.hid (Nat.le_trans HSZ.out hb.size)
  clear hb
  have H1 := Lib.hid hone
  clear hone
  try rw [hmb]
  clear hmb
  obtain ⟨wc, hwc⟩ : ∃ X, wn = X := ⟨_, rfl⟩
  rw [hwc] at HX HZ HU HB HSZ H1 ⊢
  clear hwc
  clear d2
  have d2 : wc.cell? ⟨N, 2, none⟩ = some (.slice qa lq qc) := HX.out.c 2 (by simp)
  refine hK.out _ _ (HX.out.c 2 (by simp)) (fun hHeld => ?_)
  clear hK K
  try simp only [Act.put, List.setIfInBounds_toArray, List.set_cons_zero, List.set_cons_succ]
  refine till_ready (rs := [4]) (by kernel_rfl) (by simp) ?_
  refine TillAll.cons (o := ⟨some 7, .makeSlice 22 (.const (.int .i64 0)) (.tmp 6), 22, "messages.go:24", #[⟨3, .data⟩], none⟩) rfl (fun K hK => ?_) (TillAll.nil)
  have HSZ0 := HSZ.out
  obtain ⟨g4, hg4⟩ : ∃ g, wc.heap.size = g := ⟨_, rfl⟩
  obtain ⟨wc, hmk, ho, hb⟩ := make_qn wc lq hlq9
  rw [hg4] at ho HSZ0
  have hm1 := H1.out.lt (by simp)
  have HD := Lib.hid (show ∀ k, (Value.slice (some ⟨g4, 0, none⟩) 0 (lq + 2)).ownBlock = some k → k ≠ mb from fun k hk => by (have : g4 = k := by simpa [Value.ownBlock] using hk); omega)
  clear hm1
  replace HX := Lib.hid (HX.out.below (by simp) hb)
  replace HZ := Lib.hid (HZ.out.below (by simp) hb)
  replace HU := Lib.hid (HU.out.below hb (Nat.le_trans HHI.out (by have := HSZ.out; omega)))
  replace HB := Lib.hid (below_aside HB.out (Aside.of_all hb : Aside (fun _ => False) _ _) (fun k hk => ⟨by have := HSZ.out; omega, id⟩))
  replace HSZ := Lib.hid (Nat.le_trans HSZ.out hb.size)
  replace H1 := Lib.hid (H1.out.below (by simp) hb)
  clear hb
  have HO := Lib.hid (show OwnQn _ (N + 2) _ _ from row_base ho HSZ0)
  clear ho HSZ0
  go_simp
  clear hmk hg4
  clear d2
  have d2 : wc.cell? ⟨N, 2, none⟩ = some (.slice qa lq qc) := HX.out.c 2 (by simp)
  refine hK.out _ _ (HX.out.c 2 (by simp)) (fun hHeld => ?_)
  clear hK K
  try simp only [Act.put, List.setIfInBounds_toArray, List.set_cons_zero, List.set_cons_succ]
  refine till_ready (rs := [7]) (by kernel_rfl) (by simp) ?_
  refine TillAll.cons (o := ⟨some 10, .call { callee := .builtin .append, args := #[.tmp 7, .tmp 9], argTypes := #[22, 22] }, 22, "messages.go:24", #[⟨4, .data⟩, ⟨6, .data⟩], none⟩) rfl (fun K hK => ?_) (TillAll.nil)
  obtain ⟨a2, c2, wn, hrun, ho, ha, _⟩ := run_appQn HO.out (show SQ _ _ _ _ from HU.out) (by rw [List.length_nil, Nat.zero_add, HLQ.out]; omega) HSZ.out
  simp only [List.length_nil, Nat.zero_add, List.nil_append] at hrun ho
  rw [HLQ.out] at hrun ho
  have HRUN := Lib.hid hrun
  have hlt := World.ownsRow.lt HO.out
  have hbN : Below (N + 2) wc wn := ha.below fun k hk => ⟨by have := HSZ.out; omega, fun hg => by have := (hlt _ hg).1; omega⟩
  replace HX := Lib.hid (HX.out.aside (by simp) ha (fun hg => by have := (hlt _ hg).1; omega))
  replace HZ := Lib.hid (HZ.out.aside (by simp) ha (fun hg => by have := (hlt _ hg).1; omega))
  replace HU := Lib.hid (HU.out.below hbN (by have := HHI.out; omega))
  replace HB := Lib.hid (below_aside HB.out ha (fun k hk => ⟨by have := HSZ.out; omega, fun hg => by have := (hlt _ hg).1; omega⟩))
  replace HSZ := Lib.hid (Nat.le_trans HSZ.out ha.size)
  replace H1 := Lib.hid (H1.out.aside (by simp) ha (fun hg => HD.out mb hg rfl))
  have HO := Lib.hid ho
  clear hrun ho ha hlt hbN
  refine oper_app_run (.tmp 7) (.tmp 9) 22 22 rfl rfl rfl rfl HRUN.out ?_
  obtain ⟨wc, hwc⟩ : ∃ X, wn = X := ⟨_, rfl⟩
  rw [hwc] at HX HZ HU HB HSZ HO H1 ⊢
  clear hwc HRUN
  clear d2
  have d2 : wc.cell? ⟨N, 2, none⟩ = some (.slice qa lq qc) := HX.out.c 2 (by simp)
  refine hK.out _ _ (HX.out.c 2 (by simp)) (fun hHeld => ?_)
  clear hK K
  try simp only [Act.put, List.setIfInBounds_toArray, List.set_cons_zero, List.set_cons_succ]
  rotate_left 1
  iterate 3
    · refine till_ready (rs := [10]) (by kernel_rfl) (by simp) ?_
      refine TillAll.cons (o := ⟨some 13, .call { callee := .builtin .append, args := #[.tmp 10, .tmp 12], argTypes := #[22, 22] }, 22, "messages.go:24", #[⟨7, .data⟩, ⟨9, .data⟩, ⟨7, .chain⟩], none⟩) rfl (fun K hK => ?_) (TillAll.nil)
      obtain ⟨a2, c2, wn, hrun, ho, ha, _⟩ := run_appQn HO.out (show SQ _ _ _ _ from sq_cel H1.out) (by rw [HLQ.out, List.length_singleton]; omega) HSZ.out
      simp only [List.length_singleton] at hrun ho
      rw [HLQ.out] at hrun ho
      have HRUN := Lib.hid hrun
      have hlt := World.ownsRow.lt HO.out
      have hbN : Below (N + 2) wc wn := ha.below fun k hk => ⟨by have := HSZ.out; omega, fun hg => by have := (hlt _ hg).1; omega⟩
      replace HX := Lib.hid (HX.out.aside (by simp) ha (fun hg => by have := (hlt _ hg).1; omega))
      replace HZ := Lib.hid (HZ.out.aside (by simp) ha (fun hg => by have := (hlt _ hg).1; omega))
      replace HU := Lib.hid (HU.out.below hbN (by have := HHI.out; omega))
      replace HB := Lib.hid (below_aside HB.out ha (fun k hk => ⟨by have := HSZ.out; omega, fun hg => by have := (hlt _ hg).1; omega⟩))
      replace HSZ := Lib.hid (Nat.le_trans HSZ.out ha.size)
      have HO := Lib.hid ho
      have hcut := cut_qn a2 (lq + 1) lq c2 (by have := row_cap ho; rw [List.length_append, List.length_singleton, HLQ.out] at this; omega)
      clear hrun ho ha hlt hbN
      refine oper_app_run (.tmp 10) (.tmp 12) 22 22 rfl rfl rfl rfl HRUN.out ?_
      obtain ⟨wc, hwc⟩ : ∃ X, wn = X := ⟨_, rfl⟩
      rw [hwc] at HX HZ HU HB HSZ HO ⊢
      clear hwc HRUN
      clear d2
      have d2 : wc.cell? ⟨N, 2, none⟩ = some (.slice qa lq qc) := HX.out.c 2 (by simp)
      have f2 := HX.out.fz
      refine hK.out _ _ (HX.out.c 2 (by simp)) (fun hHeld => ?_)
      clear hK K
      try simp only [Act.put, List.setIfInBounds_toArray, List.set_cons_zero, List.set_cons_succ]
      refine till_take (i := 14) (oi := ⟨some 17, .slice 22 (.tmp 13) none (some (.tmp 16)) none, 22, "messages.go:24", #[⟨10, .data⟩, ⟨13, .data⟩], none⟩) (v := ?_) rfl (by kernel_rfl) (by kernel_rfl) (by kernel_rfl) (fun _ _ _ h => h) (Or.inl ⟨by rfl, ?_⟩) (by assumption) ?_
      rotate_left 1
      · intro w hSw; (try dsimp only at hSw); go_simp; try (with_reducible rfl)
      try simp only [Act.put, List.setIfInBounds_toArray, List.set_cons_zero, List.set_cons_succ]
      refine till_take (i := 15) (oi := ⟨some 18, .fieldAddr 25 (.tmp 1) 2, 0, "messages.go:24", #[⟨0, .phase⟩, ⟨1, .phase⟩, ⟨2, .phase⟩, ⟨3, .phase⟩, ⟨4, .phase⟩, ⟨5, .phase⟩, ⟨6, .phase⟩, ⟨7, .phase⟩, ⟨8, .phase⟩, ⟨9, .phase⟩, ⟨10, .phase⟩, ⟨11, .phase⟩, ⟨12, .phase⟩, ⟨13, .phase⟩, ⟨14, .phase⟩], none⟩) (v := ?_) rfl (by kernel_rfl) (by kernel_rfl) (by kernel_rfl) (fun _ _ _ h => h) (Or.inl ⟨by rfl, ?_⟩) (by assumption) ?_
      rotate_left 1
      · intro w hSw; (try dsimp only at hSw); go_simp; try (with_reducible rfl)
      try simp only [Act.put, List.setIfInBounds_toArray, List.set_cons_zero, List.set_cons_succ]
      refine till_ready (rs := [16]) (by kernel_rfl) (by simp) ?_
      refine TillAll.last (o := ⟨none, .store 22 (.tmp 18) (.tmp 17), 0, "messages.go:24", #[⟨15, .data⟩, ⟨14, .data⟩, ⟨10, .chain⟩, ⟨0, .phase⟩, ⟨1, .phase⟩, ⟨2, .phase⟩, ⟨3, .phase⟩, ⟨4, .phase⟩, ⟨5, .phase⟩, ⟨6, .phase⟩, ⟨7, .phase⟩, ⟨8, .phase⟩, ⟨9, .phase⟩, ⟨10, .phase⟩, ⟨11, .phase⟩, ⟨12, .phase⟩, ⟨13, .phase⟩, ⟨14, .phase⟩], none⟩) rfl (fun K hK => ?_) (TillAll.nil)
      go_simp
      have HQ := Lib.hid (show CpQ wc (N + 2) (.slice a2 lq c2) l from ⟨a2, c2, by rw [HLQ.out], by rw [HLQ.out]; exact HO.out⟩)
      have hst : Aside (fun k => k = N) wc (wc.setCell ⟨N, 2, none⟩ (.slice a2 lq c2)) := Aside.setCell wc (p := ⟨N, 2, none⟩) _ rfl
      replace HX := Lib.hid (show Cel (wc.setCell ⟨N, 2, none⟩ (.slice a2 lq c2)) N [.int .i64 i0, .int .i64 f0, .slice a2 lq c2, .slice aa la ac, .slice na ln nc, .slice ra lr rc] from HX.out.set (o := 2) (by simp) (.slice a2 lq c2))
      replace HZ := Lib.hid (HZ.out.other (a := ⟨N, 2, none⟩) (by show N ≠ N + 1; omega) (.slice a2 lq c2))
      replace HQ := Lib.hid (HQ.out.aside hst (fun k hk hg => by have := (HQ.out.lt k hk).1; omega))
      replace HB := Lib.hid (below_aside HB.out hst (fun k hk => ⟨by have := HSZ.out; omega, by omega⟩))
      replace HSZ := Lib.hid (Nat.le_trans HSZ.out hst.size)
      clear hst HO HU H1 d2 hcut f2
      refine hK.out _ _ trivial (fun hHeld => ?_)
      clear hK K
      try simp only [Act.put, List.setIfInBounds_toArray, List.set_cons_zero, List.set_cons_succ]
      refine till_done (by kernel_rfl) ?_ _
      clear hHeld
      obtain ⟨w5, hw5⟩ : ∃ X, wc.setCell ⟨N, 2, none⟩ (.slice a2 lq c2) = X := ⟨_, rfl⟩
      rw [hw5] at HX HZ HQ HB HSZ ⊢
      clear hw5
      obtain ⟨c0, c1, c3, c4, c5, c6⟩ := HX.out.six
      go_wp2_with fail
      clear c0 c1 c3 c4 c5 c6
      refine (HCA.out _ HB.out).mono ?_; rintro e x3 ⟨v3, rfl, hcp, hb⟩
      obtain ⟨a3, k3, rfl, hown⟩ := hcp
      have HA := Lib.hid (show CpR x3 (N + 2) (.slice a3 lan.length k3) lan from ⟨a3, k3, rfl, row_base hown HSZ.out⟩)
      replace HX := Lib.hid (HX.out.below (by simp) hb)
      replace HZ := Lib.hid (HZ.out.below (by simp) hb)
      replace HB := Lib.hid (below_aside HB.out (Aside.of_all hb : Aside (fun _ => False) _ _) (fun k hk => ⟨by have := HSZ.out; omega, id⟩))
      replace HSZ := Lib.hid (Nat.le_trans HSZ.out hb.size)
      replace HQ := Lib.hid (HQ.out.below hb)
      clear hb hown
      obtain ⟨c0, c1, c3, c4, c5, c6⟩ := HX.out.six
      have fz := HX.out.fz
      have hst : Aside (fun k => k = N) x3 (x3.setCell ⟨N, 3, none⟩ (.slice a3 lan.length k3)) := Aside.setCell x3 (p := ⟨N, 3, none⟩) _ rfl
      replace HX := Lib.hid (show Cel (x3.setCell ⟨N, 3, none⟩ (.slice a3 lan.length k3)) N [.int .i64 i0, .int .i64 f0, .slice a2 lq c2, .slice a3 lan.length k3, .slice na ln nc, .slice ra lr rc] from HX.out.set (o := 3) (by simp) (.slice a3 lan.length k3))
      replace HZ := Lib.hid (HZ.out.other (a := ⟨N, 3, none⟩) (by show N ≠ N + 1; omega) (.slice a3 lan.length k3))
      replace HB := Lib.hid (below_aside HB.out hst (fun k hk => ⟨by have := HSZ.out; omega, by omega⟩))
      replace HSZ := Lib.hid (Nat.le_trans HSZ.out hst.size)
      replace HQ := Lib.hid (HQ.out.aside hst (fun k hk hg => by have := (HQ.out.lt k hk).1; omega))
      replace HA := Lib.hid (HA.out.aside hst (fun k hk hg => by have := (HA.out.lt k hk).1; omega))
      clear hst
      go_wp2_with fail
      clear c0 c1 c3 c4 c5 c6 fz
      refine (HCN.out _ HB.out).mono ?_; rintro e x4 ⟨v4, rfl, hcp, hb⟩
      obtain ⟨a4, k4, rfl, hown⟩ := hcp
      have HNN := Lib.hid (show CpR x4 (N + 2) (.slice a4 lns.length k4) lns from ⟨a4, k4, rfl, row_base hown HSZ.out⟩)
      replace HX := Lib.hid (HX.out.below (by simp) hb)
      replace HZ := Lib.hid (HZ.out.below (by simp) hb)
      replace HB := Lib.hid (below_aside HB.out (Aside.of_all hb : Aside (fun _ => False) _ _) (fun k hk => ⟨by have := HSZ.out; omega, id⟩))
      replace HSZ := Lib.hid (Nat.le_trans HSZ.out hb.size)
      replace HQ := Lib.hid (HQ.out.below hb)
      replace HA := Lib.hid (HA.out.below hb)
      clear hb hown
      obtain ⟨c0, c1, c3, c4, c5, c6⟩ := HX.out.six
      have fz := HX.out.fz
      have hst : Aside (fun k => k = N) x4 (x4.setCell ⟨N, 4, none⟩ (.slice a4 lns.length k4)) := Aside.setCell x4 (p := ⟨N, 4, none⟩) _ rfl
      replace HX := Lib.hid (show Cel (x4.setCell ⟨N, 4, none⟩ (.slice a4 lns.length k4)) N [.int .i64 i0, .int .i64 f0, .slice a2 lq c2, .slice a3 lan.length k3, .slice a4 lns.length k4, .slice ra lr rc] from HX.out.set (o := 4) (by simp) (.slice a4 lns.length k4))
      replace HZ := Lib.hid (HZ.out.other (a := ⟨N, 4, none⟩) (by show N ≠ N + 1; omega) (.slice a4 lns.length k4))
      replace HB := Lib.hid (below_aside HB.out hst (fun k hk => ⟨by have := HSZ.out; omega, by omega⟩))
      replace HSZ := Lib.hid (Nat.le_trans HSZ.out hst.size)
      replace HQ := Lib.hid (HQ.out.aside hst (fun k hk hg => by have := (HQ.out.lt k hk).1; omega))
      replace HA := Lib.hid (HA.out.aside hst (fun k hk hg => by have := (HA.out.lt k hk).1; omega))
      replace HNN := Lib.hid (HNN.out.aside hst (fun k hk hg => by have := (HNN.out.lt k hk).1; omega))
      clear hst
      go_wp2_with fail
      clear c0 c1 c3 c4 c5 c6 fz
      refine (HCR.out _ HB.out).mono ?_; rintro e x5 ⟨v5, rfl, hcp, hb⟩
      obtain ⟨a5, k5, rfl, hown⟩ := hcp
      have HRR := Lib.hid (show CpR x5 (N + 2) (.slice a5 lar.length k5) lar from ⟨a5, k5, rfl, row_base hown HSZ.out⟩)
      replace HX := Lib.hid (HX.out.below (by simp) hb)
      replace HZ := Lib.hid (HZ.out.below (by simp) hb)
      replace HB := Lib.hid (below_aside HB.out (Aside.of_all hb : Aside (fun _ => False) _ _) (fun k hk => ⟨by have := HSZ.out; omega, id⟩))
      replace HSZ := Lib.hid (Nat.le_trans HSZ.out hb.size)
      replace HQ := Lib.hid (HQ.out.below hb)
      replace HA := Lib.hid (HA.out.below hb)
      replace HNN := Lib.hid (HNN.out.below hb)
      clear hb hown
      obtain ⟨c0, c1, c3, c4, c5, c6⟩ := HX.out.six
      have fz := HX.out.fz
      obtain ⟨z0, z1, z2, z3, z4, z5⟩ := HZ.out.six
      have fy := HZ.out.fz
      have hst : Aside (fun k => k = N) x5 (x5.setCell ⟨N, 5, none⟩ (.slice a5 lar.length k5)) := Aside.setCell x5 (p := ⟨N, 5, none⟩) _ rfl
      replace HX := Lib.hid (show Cel (x5.setCell ⟨N, 5, none⟩ (.slice a5 lar.length k5)) N [.int .i64 i0, .int .i64 f0, .slice a2 lq c2, .slice a3 lan.length k3, .slice a4 lns.length k4, .slice a5 lar.length k5] from HX.out.set (o := 5) (by simp) (.slice a5 lar.length k5))
      replace HZ := Lib.hid (HZ.out.other (a := ⟨N, 5, none⟩) (by show N ≠ N + 1; omega) (.slice a5 lar.length k5))
      replace HB := Lib.hid (below_aside HB.out hst (fun k hk => ⟨by have := HSZ.out; omega, by omega⟩))
      replace HSZ := Lib.hid (Nat.le_trans HSZ.out hst.size)
      replace HQ := Lib.hid (HQ.out.aside hst (fun k hk hg => by have := (HQ.out.lt k hk).1; omega))
      replace HA := Lib.hid (HA.out.aside hst (fun k hk hg => by have := (HA.out.lt k hk).1; omega))
      replace HNN := Lib.hid (HNN.out.aside hst (fun k hk hg => by have := (HNN.out.lt k hk).1; omega))
      replace HRR := Lib.hid (HRR.out.aside hst (fun k hk hg => by have := (HRR.out.lt k hk).1; omega))
      clear hst
      go_wp2_with fail
      clear c0 c1 c3 c4 c5 c6 fz
      clear z0 z1 z2 z3 z4 z5 fy
      obtain ⟨wf, hwf⟩ : ∃ X, x5.setCell ⟨N, 5, none⟩ (.slice a5 lar.length k5) = X := ⟨_, rfl⟩
      rw [hwf] at HX HZ HB HSZ HQ HA HNN HRR ⊢
      have q6 := cel_put6 HZ.out (.int .i64 i0) (.int .i64 f0) (.slice a2 lq c2) (.slice a3 lan.length k3) (.slice a4 lns.length k4) (.slice a5 lar.length k5)
      have hst := aside_put6 wf (N + 1) (.int .i64 i0) (.int .i64 f0) (.slice a2 lq c2) (.slice a3 lan.length k3) (.slice a4 lns.length k4) (.slice a5 lar.length k5)
      obtain ⟨m0, m1, m2, m3, m4, m5⟩ := q6.six
      unfold put6 at m0 m1 m2 m3 m4 m5 hst
      refine bodyPost_ret (by simp [results, Tryz.results9, go_sem, m0, m1, m2, m3, m4, m5]) rfl ⟨_, rfl, ⟨.slice a2 lq c2, .slice a3 lan.length k3, .slice a4 lns.length k4, .slice a5 lar.length k5, rfl, ?_, ?_, ?_, ?_⟩, ?_⟩
      · exact (HQ.out.aside hst (fun k hk hg => by have := (HQ.out.lt k hk).1; omega)).base (by omega)
      · exact (HA.out.aside hst (fun k hk hg => by have := (HA.out.lt k hk).1; omega)).base (by omega)
      · exact (HNN.out.aside hst (fun k hk hg => by have := (HNN.out.lt k hk).1; omega)).base (by omega)
      · exact (HRR.out.aside hst (fun k hk hg => by have := (HRR.out.lt k hk).1; omega)).base (by omega)
      · exact below_aside HB.out hst (fun k hk => ⟨by have := HSZ.out; omega, by omega⟩)
end Go.Proofs.YteegekpanadmkaaGreat
/-
  What a message is in so many bytes is the document's own: TrimFits.
-/
namespace Go.Proofs.YteegekpanadmkaaGreat
open Go.RowKit Go.Shelf
set_option linter.unusedVariables false
set_option linter.unusedSimpArgs false
set_option maxRecDepth 100000
theorem cel_y10 {wX w : World} {q Z : Nat} {l : List Value} (h : Cel wX q l) (hZ : wX.heap.size = Z) (hb : Below Z wX w) (h0 : 0 < l.length := by simp) : Cel w q l := h.below h0 (by rw [hZ]; exact hb)
theorem mg_y10 {wX w : World} {Z : Nat} {v : Value} {m : Ms} (h : Mg wX wX.heap.size v m) (hZ : wX.heap.size = Z) (hb : Below Z wX w) : Mg w Z v m := by rw [hZ] at h; exact h.below hb (Nat.le_refl _)
theorem mild_of11 {most M : Nat} {m : Ms} (h : bigMs most M m = false) (h1 : most ≤ 800000) (h2 : M ≤ 900000) : Mild m := by
  obtain ⟨k1, k2, k3, k4, k5⟩ := bigMs_no h
  exact ⟨by omega, fun x hx => by have := k2 x hx; omega, fun x hx => by have := k3 x hx; omega, fun x hx => by have := k4 x hx; omega, fun x hx => by have := k5 x hx; omega⟩
set_option maxHeartbeats 16000000 in
theorem fitsL_any {w : World} {hi : Nat} {u : Value} {m : Ms} (sz : Int) (h : Mg w hi u m) (h1 : hi ≤ w.heap.size) (hcap : CapM u) : Calls Tryz.prog 3 #[u, .int .i64 sz] w (Tells w (.bool true)) := by
  have HAw := Lib.hid (fun wx => awake10_any wx)
  obtain ⟨q, a, n, r, rfl, hq, ha, hn, hr⟩ := h
  obtain ⟨qa, qc, rfl⟩ := Lst.shape hq
  obtain ⟨aa, ac, rfl⟩ := Lst.shape ha
  obtain ⟨na, nc, rfl⟩ := Lst.shape hn
  obtain ⟨ra, rc, rfl⟩ := Lst.shape hr
  have hm : Mg w w.heap.size (.agg #[.int .i64 m.id, .int .i64 m.fl, .slice qa m.q.length qc, .slice aa m.an.length ac, .slice na m.ns.length nc, .slice ra m.ar.length rc]) m := Mg.wide ⟨_, _, _, _, rfl, hq, ha, hn, hr⟩ h1
  obtain ⟨i0, hi0⟩ : ∃ i, m.id = i := ⟨_, rfl⟩
  obtain ⟨f0, hf0⟩ : ∃ i, m.fl = i := ⟨_, rfl⟩
  obtain ⟨lq, hlq⟩ : ∃ i, m.q.length = i := ⟨_, rfl⟩
  obtain ⟨la, hla⟩ : ∃ i, m.an.length = i := ⟨_, rfl⟩
  obtain ⟨ln, hln⟩ : ∃ i, m.ns.length = i := ⟨_, rfl⟩
  obtain ⟨lr, hlr⟩ : ∃ i, m.ar.length = i := ⟨_, rfl⟩
  obtain ⟨R, hR⟩ : ∃ r, bigMs 60 3000 m = r := ⟨_, rfl⟩
  rw [hi0, hf0, hlq, hla, hln, hlr] at hm hcap ⊢
  have HCAP := Lib.hid hcap
  clear hcap
  have hb : Below w.heap.size w (w.alloc (.cells #[.int .i64 i0, .int .i64 f0, .slice qa lq qc, .slice aa la ac, .slice na ln nc, .slice ra lr rc] 25)) := (Below.refl _ _).alloc (Nat.le_refl _) _
  have hx := cel_new6 w (.int .i64 i0) (.int .i64 f0) (.slice qa lq qc) (.slice aa la ac) (.slice na ln nc) (.slice ra lr rc) 25
  obtain ⟨N, hN⟩ : ∃ N, w.heap.size = N := ⟨_, rfl⟩
  rw [hN] at hx
  have HB := Lib.hid hb
  have HX := Lib.hid hx
  have HM := Lib.hid (hm.later hb)
  clear hq ha hn hr h1 hm hb hx
  go_enter Tryz.func3, Tryz.ntmps3
  go_wp2_with fail
  refine (big10_any HM.out).mono ?_; rw [hR]; rintro e w2 ⟨rfl, hb⟩
  replace HB := Lib.hid (bel_call HB.out hb)
  replace HX := Lib.hid (HX.out.below (by simp) hb)
  replace HM := Lib.hid (HM.out.later hb)
  clear hb
  cases R with
  | true =>
    go_wp2_with fail
    go_ret
    exact ⟨rfl, HB.out⟩
  | false =>
    have HTOT := Lib.hid (bigMs_no hR).1
    have HF := Lib.hid (big_fine (by decide) hR)
    have HMI2 := Lib.hid (mild_of11 hR (by decide) (by decide))
    have HT2 := Lib.hid (show totM m ≤ 1100 by have := HTOT.out; unfold totM; omega)
    obtain ⟨c0, c1, c2, c3, c4, c5⟩ := HX.out.six
    go_wp2_with fail
    clear c0 c1 c2 c3 c4 c5
    refine (copyM_any HM.out (Nat.le_refl _) (Nat.le_trans HTOT.out (by decide))).mono ?_; rintro e w3 ⟨vin, rfl, hcp, hb⟩
    replace HB := Lib.hid (bel_call HB.out hb)
    replace HX := Lib.hid (HX.out.below (by simp) hb)
    replace HM := Lib.hid (HM.out.later hb)
    obtain ⟨B3, hB3⟩ : ∃ B, w2.heap.size = B := ⟨_, rfl⟩
    rw [hB3] at hcp
    clear hb hB3
    have HC := Lib.hid hcp
    obtain ⟨q1, a1, n1, r1, rfl, ⟨qa1, qc1, rfl, _⟩, ⟨aa1, ac1, rfl, _⟩, ⟨na1, nc1, rfl, _⟩, ⟨ra1, rc1, rfl, _⟩⟩ := hcp
    rw [hi0, hf0, hlq, hla, hln, hlr] at HC ⊢
    have hb : Below w3.heap.size w3 (w3.alloc (.cells #[.int .i64 i0, .int .i64 f0, .slice qa1 lq qc1, .slice aa1 la ac1, .slice na1 ln nc1, .slice ra1 lr rc1] 25)) := (Below.refl _ _).alloc (Nat.le_refl _) _
    have hy := cel_new6 w3 (.int .i64 i0) (.int .i64 f0) (.slice qa1 lq qc1) (.slice aa1 la ac1) (.slice na1 ln nc1) (.slice ra1 lr rc1) 25
    obtain ⟨gi, hgi⟩ : ∃ N, w3.heap.size = N := ⟨_, rfl⟩
    rw [hgi] at hy
    replace HB := Lib.hid (bel_call HB.out hb)
    replace HX := Lib.hid (HX.out.below (by simp) hb)
    replace HM := Lib.hid (HM.out.later hb)
    replace HC := Lib.hid (HC.out.below hb)
    have HI := Lib.hid hy
    clear hb hy
    obtain ⟨c0, c1, c2, c3, c4, c5⟩ := HX.out.six
    obtain ⟨d0, d1, d2, d3, d4, d5⟩ := HI.out.six
    go_wp2_with fail
    clear c0 c1 c2 c3 c4 c5 d0 d1 d2 d3 d4 d5 hgi
    obtain ⟨wX, hwX⟩ : ∃ X, w3.alloc (.cells #[.int .i64 i0, .int .i64 f0, .slice qa1 lq qc1, .slice aa1 la ac1, .slice na1 ln nc1, .slice ra1 lr rc1] 25) = X := ⟨_, rfl⟩
    rw [hwX] at HB HX HM HC HI ⊢
    clear hwX
    clear hlq hla hln hlr hi0 hf0 hN
    obtain ⟨Z, hZ⟩ : ∃ Z, wX.heap.size = Z := ⟨_, rfl⟩
    have HZE := Lib.hid hZ
    obtain ⟨wc, hwc⟩ : ∃ X, wX = X := ⟨_, rfl⟩
    have HZZ := Lib.hid (show Below Z wX wc by rw [← hwc]; exact Below.refl _ _)
    have HWS := Lib.hid (show Z ≤ wc.heap.size by rw [← hwc, HZE.out]; exact Nat.le_refl _)
    rw [show (wX : World) = wc from hwc]
    have HMI := Lib.hid (HC.out.mg (Nat.le_trans HTOT.out (by decide)))
    clear hZ hwc
    obtain ⟨R, hR2⟩ : ∃ x, fitA m sz = x := ⟨_, rfl⟩
    have hwa := fun wx (hm : Mg wx Z (.agg #[.int .i64 i0, .int .i64 f0, .slice qa1 lq qc1, .slice aa1 la ac1, .slice na1 ln nc1, .slice ra1 lr rc1]) m) (hs : Z ≤ wx.heap.size) => fit_any hm hs HF.out HT2.out sz
    have hwb := fun wx (hm : Mg wx Z (.agg #[.int .i64 i0, .int .i64 f0, .slice qa lq qc, .slice aa la ac, .slice na ln nc, .slice ra lr rc]) m) (hs : Z ≤ wx.heap.size) => rFit_any hm hs HF.out HT2.out HCAP.out sz
    rw [hR2] at hwa hwb
    obtain ⟨Ob, NF, Cd⟩ := R
    unfold FitPost at hwa hwb
    simp only at hwa hwb
    obtain ⟨bl, hbl⟩ : ∃ x, Ob.getD [] = x := ⟨_, rfl⟩
    rw [hbl] at hwa hwb
    have HWA := Lib.hid hwa
    have HWB := Lib.hid hwb
    obtain ⟨L, hL⟩ : ∃ x, (leastA m).1 = x := ⟨_, rfl⟩
    obtain ⟨I, hI⟩ : ∃ x, (leastA m).2 = x := ⟨_, rfl⟩
    have hca := fun wx (hm : Mg wx Z (.agg #[.int .i64 i0, .int .i64 f0, .slice qa1 lq qc1, .slice aa1 la ac1, .slice na1 ln nc1, .slice ra1 lr rc1]) m) (hs : Z ≤ wx.heap.size) => leastT_any hm hs HMI2.out
    have hcb := fun wx (hm : Mg wx Z (.agg #[.int .i64 i0, .int .i64 f0, .slice qa lq qc, .slice aa la ac, .slice na ln nc, .slice ra lr rc]) m) (hs : Z ≤ wx.heap.size) => rLeast_any hm hs (by have := HTOT.out; omega)
    rw [hL, hI] at hca hcb
    have HCA := Lib.hid hca
    have HCB := Lib.hid hcb
    clear hwa hwb hca hcb hL hI hR2 hbl hR
    refine (HWA.out _ (mg_y10 HMI.out HZE.out HZZ.out) HWS.out).mono ?_; rintro e w4 ⟨va, rfl, hoA, hb⟩
    have HOA := Lib.hid (hoA.mono HWS.out)
    replace HZZ := Lib.hid (below_aside HZZ.out (Aside.of_all hb : Aside (fun _ => False) _ _) (fun k hk => ⟨Nat.lt_of_lt_of_le hk HWS.out, id⟩))
    replace HWS := Lib.hid (Nat.le_trans HWS.out hb.size)
    clear hb hoA
    obtain ⟨c0, c1, c2, c3, c4, c5⟩ := (cel_y10 HX.out HZE.out HZZ.out).six
    obtain ⟨d0, d1, d2, d3, d4, d5⟩ := (cel_y10 HI.out HZE.out HZZ.out).six
    go_wp2_with fail
    clear c0 c1 c2 c3 c4 c5 d0 d1 d2 d3 d4 d5
    refine (HWB.out _ (mg_y10 HM.out HZE.out HZZ.out) HWS.out).mono ?_; rintro e w5 ⟨vb, rfl, hoB, hb⟩
    have HOB := Lib.hid (hoB.mono HWS.out)
    replace HOA := Lib.hid (HOA.out.below hb)
    replace HZZ := Lib.hid (below_aside HZZ.out (Aside.of_all hb : Aside (fun _ => False) _ _) (fun k hk => ⟨Nat.lt_of_lt_of_le hk HWS.out, id⟩))
    replace HWS := Lib.hid (Nat.le_trans HWS.out hb.size)
    clear hb hoB
    obtain ⟨c0, c1, c2, c3, c4, c5⟩ := (cel_y10 HX.out HZE.out HZZ.out).six
    obtain ⟨d0, d1, d2, d3, d4, d5⟩ := (cel_y10 HI.out HZE.out HZZ.out).six
    go_wp2_with fail
    clear c0 c1 c2 c3 c4 c5 d0 d1 d2 d3 d4 d5
    refine (HCA.out _ (mg_y10 HMI.out HZE.out HZZ.out) HWS.out).mono ?_; rintro e w6 ⟨rfl, hb⟩
    replace HOA := Lib.hid (HOA.out.below hb)
    replace HOB := Lib.hid (HOB.out.below hb)
    replace HZZ := Lib.hid (below_aside HZZ.out (Aside.of_all hb : Aside (fun _ => False) _ _) (fun k hk => ⟨Nat.lt_of_lt_of_le hk HWS.out, id⟩))
    replace HWS := Lib.hid (Nat.le_trans HWS.out hb.size)
    clear hb
    obtain ⟨c0, c1, c2, c3, c4, c5⟩ := (cel_y10 HX.out HZE.out HZZ.out).six
    obtain ⟨d0, d1, d2, d3, d4, d5⟩ := (cel_y10 HI.out HZE.out HZZ.out).six
    go_wp2_with fail
    clear c0 c1 c2 c3 c4 c5 d0 d1 d2 d3 d4 d5
    refine (HCB.out _ (mg_y10 HM.out HZE.out HZZ.out) HWS.out).mono ?_; rintro e w7 ⟨rfl, hb⟩
    replace HOA := Lib.hid (HOA.out.below hb)
    replace HOB := Lib.hid (HOB.out.below hb)
    replace HZZ := Lib.hid (below_aside HZZ.out (Aside.of_all hb : Aside (fun _ => False) _ _) (fun k hk => ⟨Nat.lt_of_lt_of_le hk HWS.out, id⟩))
    replace HWS := Lib.hid (Nat.le_trans HWS.out hb.size)
    clear hb
    go_wp2_with fail
    refine (same_any HOA.out.sl HOB.out.sl).mono ?_; rintro e0 w8 ⟨rfl, rfl⟩
    go_wp2_with fail
    refine (over_B HOA.out).mono ?_; rintro e w9 ⟨rfl, hst⟩
    replace HZZ := Lib.hid (below_aside HZZ.out hst (fun k hk => ⟨Nat.lt_of_lt_of_le hk HWS.out, fun hg => by omega⟩))
    replace HWS := Lib.hid (Nat.le_trans HWS.out hst.size)
    clear hst HOA HOB
    obtain ⟨c0, c1, c2, c3, c4, c5⟩ := (cel_y10 HX.out HZE.out HZZ.out).six
    obtain ⟨d0, d1, d2, d3, d4, d5⟩ := (cel_y10 HI.out HZE.out HZZ.out).six
    go_wp2_with fail
    clear c0 c1 c2 c3 c4 c5 d0 d1 d2 d3 d4 d5
    refine (keptM_any (HC.out.below (by rw [HZE.out]; exact HZZ.out)) (mg_y10 HM.out HZE.out HZZ.out) HWS.out (Nat.le_trans HTOT.out (by decide))).mono ?_; rintro e w10 ⟨rfl, hb⟩
    replace HZZ := Lib.hid (below_aside HZZ.out (Aside.of_all hb : Aside (fun _ => False) _ _) (fun k hk => ⟨Nat.lt_of_lt_of_le hk HWS.out, id⟩))
    replace HWS := Lib.hid (Nat.le_trans HWS.out hb.size)
    clear hb
    go_wp2_with fail
    refine (HAw.out _).mono ?_; rintro e w11 ⟨rfl, hb⟩
    replace HZZ := Lib.hid (below_aside HZZ.out (Aside.of_all hb : Aside (fun _ => False) _ _) (fun k hk => ⟨Nat.lt_of_lt_of_le hk HWS.out, id⟩))
    replace HWS := Lib.hid (Nat.le_trans HWS.out hb.size)
    clear hb
    go_wp2_with fail
    go_ret
    exact ⟨rfl, bel_call HB.out (by rw [HZE.out]; exact HZZ.out)⟩
end Go.Proofs.YteegekpanadmkaaGreat
