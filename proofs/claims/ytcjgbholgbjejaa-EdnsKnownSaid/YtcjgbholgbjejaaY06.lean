/-
  The chapter's examples: EdnsKnown.
-/
import Derived.Test.YtcjgbholgbjejaaY05
namespace Go.Proofs.Ytcjgbholgbjejaa
open Go.RowKit Go.Shelf
set_option linter.unusedVariables false
set_option linter.unusedSimpArgs false
set_option maxRecDepth 100000

def kz : Ed := ⟨0, 0, 0, false, []⟩
def kE : Ed := ⟨100, 0, 0, false, []⟩
def kR : Rc := ⟨[0], 41, 100, 0, []⟩
def kS : Ms := ⟨0, 0, [], [], [], [kR]⟩
def kT : Ms := ⟨0, 0, [], [], [], [awR, awR]⟩
def kC : Rc := ⟨[0], 41, 0, 0, [0, 1, 0, 2, 9]⟩
def kU : Ms := ⟨0, 0, [], [], [], [kC]⟩
def kX : Ed := ⟨0, 128, 0, false, []⟩
theorem k_pu2 : puM aw1 kz = (ms00, 7) := rfl
theorem k_of0 : ofM ms00 = (ed0, false, 0) := rfl
theorem k_pu8 : puM ms00 kE = (kS, 0) := rfl
theorem k_ofT : ofM kT = (ed0, false, 4) := rfl
theorem k_ofU : ofM kU = (ed0, false, 4) := rfl
theorem k_co : codM aw1 = 0 := rfl
theorem k_ro0 : roM ms00 = 512 := rfl
theorem k_ro8 : roM kS = 512 := rfl
theorem k_ck : chkE kX = 5 := rfl
theorem mild00 : Mild ms00 := ⟨by decide, by simp [ms00], by simp [ms00], by simp [ms00], by simp [ms00]⟩
theorem mildS : Mild kS := ⟨by decide, by simp [kS], by simp [kS], by simp [kS], by simp [kS, kR]⟩
theorem mildT : Mild kT := ⟨by decide, by simp [kT], by simp [kT], by simp [kT], by simp [kT, awR]⟩
theorem mildU : Mild kU := ⟨by decide, by simp [kU], by simp [kU], by simp [kU], by simp [kU, kC]⟩
/-- A row's block is not one of another type. -/
theorem own_ne {w : World} {B k n g : Nat} {e T : TypeId} {v : Value} {xs : List Value} {cs : Array Value} {fz : Nat × Nat} (h : w.ownsRow B e k v n xs) (ho : w.heap[g]? = some (.cells cs T fz)) (hT : T ≠ e) : v.ownBlock ≠ some g := by
  intro he
  rcases h.2 with ⟨rfl, _⟩ | ⟨g', cap, cur, rfl, _, hg, _⟩
  · simp [Value.ownBlock] at he
  · have e : g' = g := by simpa [Value.ownBlock] using he
    subst e
    rw [ho] at hg
    injection hg with hg
    injection hg with _ hg
    exact hT hg

set_option maxHeartbeats 16000000 in
theorem known9_any (w : World) : Calls Try.prog 6 #[] w (Tells w (.bool true)) := by
  obtain ⟨N, hN⟩ : ∃ N, w.heap.size = N := ⟨_, rfl⟩
  have HPU := Lib.hid (put_any (mg_bare w 7 0) (Nat.le_refl _) aw_mild0 (by decide) (capR_bare _ _) (eg_bare w 1232 0 0 true) (Nat.le_refl _) (by decide) (by simp))
  unfold PuPost at HPU
  rw [show (⟨7, 0, [], [], [], []⟩ : Ms) = aw0 from rfl, show (⟨1232, 0, 0, true, []⟩ : Ed) = awE from rfl, aw_pu] at HPU
  go_enter Try.func6, Try.ntmps6
  go_wp2_with fail
  refine HPU.out.mono ?_; rintro e w1 ⟨v, rfl, ho, hb⟩
  have HB := Lib.hid hb
  obtain ⟨b1, e1, b2, e2, b3, e3, b4, e4, hvv⟩ := own_shape4 ho
  have hvv2 : v = .agg #[.int .i64 7, .int .i64 0, .slice b1 0 e1, .slice b2 0 e2, .slice b3 0 e3, .slice b4 1 e4] := hvv
  subst hvv2
  have HCP : Hid (CapR (.agg #[.int .i64 7, .int .i64 0, .slice b1 0 e1, .slice b2 0 e2, .slice b3 0 e3, .slice b4 1 e4]) aw1.ar.length) := Lib.hid ho.capR
  have HM1 : Hid (Mg w1 w1.heap.size (.agg #[.int .i64 7, .int .i64 0, .slice b1 0 e1, .slice b2 0 e2, .slice b3 0 e3, .slice b4 1 e4]) aw1) := Lib.hid (ho.mg (by decide))
  clear hb ho hvv
  obtain ⟨gA, hgA⟩ : ∃ g, w1.heap.size = g := ⟨_, rfl⟩
  have hbx := cel_new6 w1 (.int .i64 7) (.int .i64 0) (.slice b1 0 e1) (.slice b2 0 e2) (.slice b3 0 e3) (.slice b4 1 e4) 25
  rw [hgA] at hbx
  have hb : Below w1.heap.size w1 (w1.alloc (.cells #[.int .i64 7, .int .i64 0, .slice b1 0 e1, .slice b2 0 e2, .slice b3 0 e3, .slice b4 1 e4] 25)) := (Below.refl _ _).alloc (Nat.le_refl _) _
  replace HB := Lib.hid (bel_call HB.out hb)
  replace HM1 := Lib.hid (HM1.out.later hb)
  have HX1 := Lib.hid hbx
  clear hb hbx
  have HPZ := Lib.hid (put_any HM1.out (Nat.le_refl _) aw_mild1 (by decide) HCP.out (eg_bare _ 0 0 0 false) (Nat.le_refl _) (by decide) (by simp))
  unfold PuPost at HPZ
  rw [show (⟨0, 0, 0, false, []⟩ : Ed) = kz from rfl, k_pu2] at HPZ
  obtain ⟨c0, c1, c2, c3, c4, c5⟩ := HX1.out.six
  go_wp2_with fail
  refine HPZ.out.mono ?_; rintro e w2 ⟨v, rfl, ho, hb⟩
  obtain ⟨z1, y1, z2, y2, z3, y3, z4, y4, hvv⟩ := own_shape4 ho
  have hvv2 : v = .agg #[.int .i64 0, .int .i64 0, .slice z1 0 y1, .slice z2 0 y2, .slice z3 0 y3, .slice z4 0 y4] := hvv
  subst hvv2
  replace HB := Lib.hid (bel_call HB.out hb)
  replace HM1 := Lib.hid (HM1.out.later hb)
  replace HX1 := Lib.hid (HX1.out.below (by simp) hb)
  clear hb ho hvv c0 c1 c2 c3 c4 c5 HPZ HCP
  have hb : Below w2.heap.size w2 (w2.alloc (.cells #[.int .i64 0, .int .i64 0, .slice z1 0 y1, .slice z2 0 y2, .slice z3 0 y3, .slice z4 0 y4] 25)) := (Below.refl _ _).alloc (Nat.le_refl _) _
  replace HB := Lib.hid (bel_call HB.out hb)
  replace HM1 := Lib.hid (HM1.out.later hb)
  replace HX1 := Lib.hid (HX1.out.below (by simp) hb)
  clear hb
  have HOF := Lib.hid (fun wx : World => of_any (show Mg wx wx.heap.size (.agg #[.int .i64 0, .int .i64 0, .slice none 0 0, .slice none 0 0, .slice none 0 0, .slice none 0 0]) ms00 from mg_bare wx 0 0) (Nat.le_refl _) mild00)
  unfold OfPost at HOF
  simp only [k_of0] at HOF
  go_wp2_with fail
  refine (HOF.out _).mono ?_; rintro e w3 ⟨v, rfl, hv, hb⟩
  obtain ⟨o, hv1, hso⟩ := hv
  obtain ⟨oa, oac, ho1⟩ := row_shape hso
  have ho2 : o = .slice oa 0 oac := ho1
  subst ho2
  have hv2 : v = .agg #[.int .i64 0, .int .i64 0, .int .i64 0, .bool false, .slice oa 0 oac] := hv1
  subst hv2
  clear hso
  replace HB := Lib.hid (bel_call HB.out hb)
  replace HM1 := Lib.hid (HM1.out.later hb)
  replace HX1 := Lib.hid (HX1.out.below (by simp) hb)
  clear hb HOF
  have hb : Below w3.heap.size w3 (w3.alloc (.cells #[.int .i64 0, .int .i64 0, .int .i64 0, .bool false, .slice oa 0 oac] 30)) := (Below.refl _ _).alloc (Nat.le_refl _) _
  replace HB := Lib.hid (bel_call HB.out hb)
  replace HM1 := Lib.hid (HM1.out.later hb)
  replace HX1 := Lib.hid (HX1.out.below (by simp) hb)
  clear hb
  have HP8 := Lib.hid (fun wx : World => put_any (show Mg wx wx.heap.size (.agg #[.int .i64 0, .int .i64 0, .slice none 0 0, .slice none 0 0, .slice none 0 0, .slice none 0 0]) ms00 from mg_bare wx 0 0) (Nat.le_refl _) mild00 (by decide) (show CapR _ ms00.ar.length from capR_bare (.int .i64 0) (.int .i64 0)) (show Eg wx wx.heap.size (.agg #[.int .i64 100, .int .i64 0, .int .i64 0, .bool false, .slice none 0 0]) kE from eg_bare wx 100 0 0 false) (Nat.le_refl _) (by decide) (by simp [kE]))
  unfold PuPost at HP8
  simp only [k_pu8] at HP8
  go_wp2_with fail
  refine (HP8.out _).mono ?_; rintro e w4 ⟨v, rfl, ho, hb⟩
  obtain ⟨q1, p1, q2, p2, q3, p3, q4, p4, hvv⟩ := own_shape4 ho
  have hvv2 : v = .agg #[.int .i64 0, .int .i64 0, .slice q1 0 p1, .slice q2 0 p2, .slice q3 0 p3, .slice q4 1 p4] := hvv
  subst hvv2
  have HM8 : Hid (Mg w4 w4.heap.size (.agg #[.int .i64 0, .int .i64 0, .slice q1 0 p1, .slice q2 0 p2, .slice q3 0 p3, .slice q4 1 p4]) kS) := Lib.hid (ho.mg (by decide))
  replace HB := Lib.hid (bel_call HB.out hb)
  replace HM1 := Lib.hid (HM1.out.later hb)
  replace HX1 := Lib.hid (HX1.out.below (by simp) hb)
  clear hb ho hvv HP8
  obtain ⟨g8, hg8⟩ : ∃ g, w4.heap.size = g := ⟨_, rfl⟩
  have hl8 := HX1.out.lt (by simp)
  have hbx := cel_new6 w4 (.int .i64 0) (.int .i64 0) (.slice q1 0 p1) (.slice q2 0 p2) (.slice q3 0 p3) (.slice q4 1 p4) 25
  rw [hg8] at hbx
  have hb : Below w4.heap.size w4 (w4.alloc (.cells #[.int .i64 0, .int .i64 0, .slice q1 0 p1, .slice q2 0 p2, .slice q3 0 p3, .slice q4 1 p4] 25)) := (Below.refl _ _).alloc (Nat.le_refl _) _
  replace HB := Lib.hid (bel_call HB.out hb)
  replace HM1 := Lib.hid (HM1.out.later hb)
  replace HX1 := Lib.hid (HX1.out.below (by simp) hb)
  replace HM8 := Lib.hid (HM8.out.later hb)
  have HX8 := Lib.hid hbx
  clear hb hbx
  have HSZ := Lib.hid (show gA + 1 ≤ g8 ∧ g8 + 1 ≤ (w4.alloc (.cells #[.int .i64 0, .int .i64 0, .slice q1 0 p1, .slice q2 0 p2, .slice q3 0 p3, .slice q4 1 p4] 25)).heap.size by
    constructor
    · omega
    · simp [hg8])
  clear hl8
  go_wp2_with fail
  obtain ⟨wc, hwc⟩ : ∃ X, (w4.alloc (.cells #[.int .i64 0, .int .i64 0, .slice q1 0 p1, .slice q2 0 p2, .slice q3 0 p3, .slice q4 1 p4] 25)).drew = X := ⟨_, rfl⟩
  have hb : Below (w4.alloc (.cells #[.int .i64 0, .int .i64 0, .slice q1 0 p1, .slice q2 0 p2, .slice q3 0 p3, .slice q4 1 p4] 25)).heap.size (w4.alloc (.cells #[.int .i64 0, .int .i64 0, .slice q1 0 p1, .slice q2 0 p2, .slice q3 0 p3, .slice q4 1 p4] 25)) wc := by rw [← hwc]; exact (Below.refl _ _).drew
  replace HB := Lib.hid (bel_call HB.out hb)
  replace HM1 := Lib.hid (HM1.out.later hb)
  replace HX1 := Lib.hid (HX1.out.below (by simp) hb)
  replace HM8 := Lib.hid (HM8.out.later hb)
  replace HX8 := Lib.hid (HX8.out.below (by simp) hb)
  obtain ⟨B0, hB0⟩ : ∃ b, wc.heap.size = b := ⟨_, rfl⟩
  have HBS := Lib.hid (show B0 ≤ wc.heap.size ∧ g8 + 1 ≤ B0 ∧ gA + 1 ≤ g8 ∧ w.heap.size ≤ B0 by have h := HSZ.out; have h2 := hb.size; have h3 := HB.out.size; omega)
  replace HM1 : Hid (Mg wc B0 (.agg #[.int .i64 7, .int .i64 0, .slice b1 0 e1, .slice b2 0 e2, .slice b3 0 e3, .slice b4 1 e4]) aw1) := Lib.hid (hB0 ▸ HM1.out)
  replace HM8 : Hid (Mg wc B0 (.agg #[.int .i64 0, .int .i64 0, .slice q1 0 p1, .slice q2 0 p2, .slice q3 0 p3, .slice q4 1 p4]) kS) := Lib.hid (hB0 ▸ HM8.out)
  clear hb HSZ hg8 hB0
  refine wp_region_tilk (S := (fun wx => wx.cell? ⟨gA, 5, none⟩ = some (.slice b4 1 e4))) [9] (by kernel_rfl) (by rw [hwc]; exact (HX1.out.c 5 (by simp))) (fun hHeld => ?_)
  refine tilk_take (i := 1) (oi := { dst := some 43, op := Op.fieldAddr 25 (Operand.tmp 1) 5, type := 0, pos := "outright.go:68", after := #[], guard := none }) (v := ?_) rfl (by kernel_rfl) (by kernel_rfl) (by kernel_rfl) (fun _ _ _ h => h) (Or.inl ⟨by rfl, ?_⟩) (by assumption) ?_
  rotate_left 1
  · intro w hSw; (try dsimp only at hSw); go_simp; try (with_reducible rfl)
  try simp only [Act.put, List.setIfInBounds_toArray, List.set_cons_zero, List.set_cons_succ]
  refine tilk_take (i := 2) (oi := { dst := some 44, op := Op.load 23 (Operand.tmp 43), type := 23, pos := "outright.go:68", after := #[{ on := 1, ground := Ground.data }], guard := none }) (v := ?_) rfl (by kernel_rfl) (by kernel_rfl) (by kernel_rfl) (fun _ _ _ h => h) (Or.inl ⟨by rfl, ?_⟩) (by assumption) ?_
  rotate_left 1
  · intro w hSw; (try dsimp only at hSw); go_simp; try (with_reducible rfl)
  try simp only [Act.put, List.setIfInBounds_toArray, List.set_cons_zero, List.set_cons_succ]
  refine tilk_take (i := 4) (oi := { dst := some 46, op := Op.fieldAddr 25 (Operand.tmp 1) 5, type := 0, pos := "outright.go:68", after := #[], guard := none }) (v := ?_) rfl (by kernel_rfl) (by kernel_rfl) (by kernel_rfl) (fun _ _ _ h => h) (Or.inl ⟨by rfl, ?_⟩) (by assumption) ?_
  rotate_left 1
  · intro w hSw; (try dsimp only at hSw); go_simp; try (with_reducible rfl)
  try simp only [Act.put, List.setIfInBounds_toArray, List.set_cons_zero, List.set_cons_succ]
  refine tilk_take (i := 5) (oi := { dst := some 47, op := Op.load 23 (Operand.tmp 46), type := 23, pos := "outright.go:68", after := #[{ on := 4, ground := Ground.data }], guard := none }) (v := ?_) rfl (by kernel_rfl) (by kernel_rfl) (by kernel_rfl) (fun _ _ _ h => h) (Or.inl ⟨by rfl, ?_⟩) (by assumption) ?_
  rotate_left 1
  · intro w hSw; (try dsimp only at hSw); go_simp; try (with_reducible rfl)
  try simp only [Act.put, List.setIfInBounds_toArray, List.set_cons_zero, List.set_cons_succ]
  refine tilk_ready (rs := [0, 8]) (by kernel_rfl) (by simp) ?_
  refine TilkAll.cons (o := { dst := some 42, op := Op.buildSlice 23 0 #[], type := 23, pos := "outright.go:68", after := #[], guard := none }) rfl (fun K hK => ?_) (TilkAll.cons (o := { dst := some 10, op := Op.alloc 25, type := 0, pos := "outright.go:68", after := #[], guard := none }) rfl (fun K hK => ?_) (TilkAll.nil))
  have ho := World.ownsRow_made (e := 48) (size := 5) (base := B0) wc #[] 0 HBS.out.1 (by decide) (by simp)
  have hb : Below wc.heap.size wc (wc.alloc (.cells #[] 48)) := (Below.refl _ _).alloc (Nat.le_refl _) _
  obtain ⟨gl, hgl⟩ : ∃ g, wc.heap.size = g := ⟨_, rfl⟩
  obtain ⟨wn, hwn⟩ : ∃ X, wc.alloc (.cells #[] 48) = X := ⟨_, rfl⟩
  rw [hwn, hgl] at ho
  rw [hwn] at hb
  go_simp
  try rw [hwn]
  try rw [hgl]
  replace HB := Lib.hid (bel_call HB.out hb)
  replace HX1 := Lib.hid (HX1.out.below (by simp) hb)
  replace HX8 := Lib.hid (HX8.out.below (by simp) hb)
  replace HM1 := Lib.hid (HM1.out.below hb HBS.out.1)
  replace HM8 := Lib.hid (HM8.out.below hb HBS.out.1)
  replace HBS := Lib.hid (And.intro (Nat.le_trans HBS.out.1 hb.size) HBS.out.2)
  have HO := Lib.hid (show OwnRc wn B0 (.slice (some ⟨gl, 0, none⟩) 0 0) [] from ho)
  clear ho hb hwn hgl
  obtain ⟨wc, hwc⟩ : ∃ X, wn = X := ⟨_, rfl⟩
  rw [hwc] at HB HM1 HX1 HM8 HX8 HBS HO ⊢
  clear hwc
  refine hK.out _ _ (HX1.out.c 5 (by simp)) (fun hHeld => ?_)
  clear hK K
  try simp only [Act.put, List.setIfInBounds_toArray, List.set_cons_zero, List.set_cons_succ]
  refine tilk_ready (rs := [3, 8]) (by kernel_rfl) (by simp) ?_
  refine TilkAll.cons (o := { dst := some 45, op := Op.call { callee := Callee.builtin Builtin.append, args := #[Operand.tmp 42, Operand.tmp 44], argTypes := #[23, 23] }, type := 23, pos := "outright.go:68", after := #[{ on := 0, ground := Ground.data }, { on := 2, ground := Ground.data }], guard := none }) rfl (fun K hK => ?_) (TilkAll.cons (o := { dst := some 10, op := Op.alloc 25, type := 0, pos := "outright.go:68", after := #[], guard := none }) rfl (fun K hK => ?_) (TilkAll.nil))
  have hsr : SR wc B0 (.slice b4 1 e4) [awR] := by
    obtain ⟨_, _, _, _, he, _, _, _, h⟩ := HM1.out
    injection he with he
    simp only [Array.mk.injEq, List.cons.injEq, and_true] at he
    rw [he.2.2.2.2.2]
    exact h
  obtain ⟨a3, c3, wn, hrun, ho, ha, _⟩ := run_appRc HO.out hsr (by decide) HBS.out.1
  have hlt := World.ownsRow.lt HO.out
  have hb : Below B0 wc wn := ha.below fun k hk => ⟨by have := HBS.out.1; omega, fun hg => by have := (hlt _ hg).1; omega⟩
  have hrun2 : (Builtin.append_ #[23, 23] 23 #[.slice (some ⟨gl, 0, none⟩) 0 0, .slice b4 1 e4]).run Try.prog wc = .ok (.slice a3 1 c3) wn := hrun
  have ho2 : OwnRc wn B0 (.slice a3 1 c3) [awR] := ho
  have HRUN := Lib.hid hrun2
  replace HB := Lib.hid (HB.out.trans (hb.mono (by have := HX1.out.lt (by simp); have := HBS.out; omega)))
  replace HM1 := Lib.hid (HM1.out.below hb (Nat.le_refl _))
  replace HM8 := Lib.hid (HM8.out.below hb (Nat.le_refl _))
  replace HX1 := Lib.hid (HX1.out.aside (by simp) ha (fun hg => by have := (hlt _ hg).1; have := HBS.out; omega))
  replace HX8 := Lib.hid (HX8.out.aside (by simp) ha (fun hg => by have := (hlt _ hg).1; have := HBS.out; omega))
  replace HBS := Lib.hid (And.intro (Nat.le_trans HBS.out.1 ha.size) HBS.out.2)
  replace HO := Lib.hid ho2
  clear hrun hrun2 ho ho2 ha hlt hb hsr
  refine oper_app_run (.tmp 42) (.tmp 44) 23 23 rfl rfl rfl rfl HRUN.out ?_
  obtain ⟨wc, hwc⟩ : ∃ X, wn = X := ⟨_, rfl⟩
  rw [hwc] at HB HM1 HX1 HM8 HX8 HBS HO ⊢
  clear hwc HRUN
  refine hK.out _ _ (HX1.out.c 5 (by simp)) (fun hHeld => ?_)
  clear hK K
  try simp only [Act.put, List.setIfInBounds_toArray, List.set_cons_zero, List.set_cons_succ]
  refine tilk_ready (rs := [6, 8]) (by kernel_rfl) (by simp) ?_
  refine TilkAll.cons (o := { dst := some 48, op := Op.call { callee := Callee.builtin Builtin.append, args := #[Operand.tmp 45, Operand.tmp 47], argTypes := #[23, 23] }, type := 23, pos := "outright.go:68", after := #[{ on := 3, ground := Ground.data }, { on := 5, ground := Ground.data }, { on := 3, ground := Ground.chain }], guard := none }) rfl (fun K hK => ?_) (TilkAll.cons (o := { dst := some 10, op := Op.alloc 25, type := 0, pos := "outright.go:68", after := #[], guard := none }) rfl (fun K hK => ?_) (TilkAll.nil))
  have hsr : SR wc B0 (.slice b4 1 e4) [awR] := by
    obtain ⟨_, _, _, _, he, _, _, _, h⟩ := HM1.out
    injection he with he
    simp only [Array.mk.injEq, List.cons.injEq, and_true] at he
    rw [he.2.2.2.2.2]
    exact h
  obtain ⟨a6, c6, wn, hrun, ho, ha, _⟩ := run_appRc HO.out hsr (by decide) HBS.out.1
  have hlt := World.ownsRow.lt HO.out
  have hb : Below B0 wc wn := ha.below fun k hk => ⟨by have := HBS.out.1; omega, fun hg => by have := (hlt _ hg).1; omega⟩
  have hrun2 : (Builtin.append_ #[23, 23] 23 #[.slice a3 1 c3, .slice b4 1 e4]).run Try.prog wc = .ok (.slice a6 2 c6) wn := hrun
  have ho2 : OwnRc wn B0 (.slice a6 2 c6) [awR, awR] := ho
  have HRUN := Lib.hid hrun2
  replace HB := Lib.hid (HB.out.trans (hb.mono (by have := HX1.out.lt (by simp); have := HBS.out; omega)))
  replace HM1 := Lib.hid (HM1.out.below hb (Nat.le_refl _))
  replace HM8 := Lib.hid (HM8.out.below hb (Nat.le_refl _))
  replace HX1 := Lib.hid (HX1.out.aside (by simp) ha (fun hg => by have := (hlt _ hg).1; have := HBS.out; omega))
  replace HX8 := Lib.hid (HX8.out.aside (by simp) ha (fun hg => by have := (hlt _ hg).1; have := HBS.out; omega))
  replace HBS := Lib.hid (And.intro (Nat.le_trans HBS.out.1 ha.size) HBS.out.2)
  replace HO := Lib.hid ho2
  clear hrun hrun2 ho ho2 ha hlt hb hsr
  refine oper_app_run (.tmp 45) (.tmp 47) 23 23 rfl rfl rfl rfl HRUN.out ?_
  obtain ⟨wc, hwc⟩ : ∃ X, wn = X := ⟨_, rfl⟩
  rw [hwc] at HB HM1 HX1 HM8 HX8 HBS HO ⊢
  clear hwc HRUN
  refine hK.out _ _ (HX1.out.c 5 (by simp)) (fun hHeld => ?_)
  clear hK K
  try simp only [Act.put, List.setIfInBounds_toArray, List.set_cons_zero, List.set_cons_succ]
  refine tilk_take (i := 7) (oi := { dst := some 49, op := Op.build 25 #[(5, Operand.tmp 48)], type := 25, pos := "outright.go:68", after := #[{ on := 6, ground := Ground.data }], guard := none }) (v := ?_) rfl (by kernel_rfl) (by kernel_rfl) (by kernel_rfl) (fun _ _ _ h => h) (Or.inl ⟨by rfl, ?_⟩) (by assumption) ?_
  rotate_left 1
  · intro w hSw; (try dsimp only at hSw); go_simp; try (with_reducible rfl)
  try simp only [Act.put, List.setIfInBounds_toArray, List.set_cons_zero, List.set_cons_succ]
  refine tilk_ready (rs := [8]) (by kernel_rfl) (by simp) ?_
  refine TilkAll.cons (o := { dst := some 10, op := Op.alloc 25, type := 0, pos := "outright.go:68", after := #[], guard := none }) rfl (fun K hK => ?_) (TilkAll.nil)
  have hnew := World.alloc_heap_new wc (.cells #[.int .i64 0, .int .i64 0, .slice none 0 0, .slice none 0 0, .slice none 0 0, .slice none 0 0] 25)
  have hb : Below wc.heap.size wc (wc.alloc (.cells #[.int .i64 0, .int .i64 0, .slice none 0 0, .slice none 0 0, .slice none 0 0, .slice none 0 0] 25)) := (Below.refl _ _).alloc (Nat.le_refl _) _
  obtain ⟨mb, hmb⟩ : ∃ g, wc.heap.size = g := ⟨_, rfl⟩
  obtain ⟨wn, hwn⟩ : ∃ X, wc.alloc (.cells #[.int .i64 0, .int .i64 0, .slice none 0 0, .slice none 0 0, .slice none 0 0, .slice none 0 0] 25) = X := ⟨_, rfl⟩
  have hmB : B0 ≤ mb := by have := HBS.out.1; omega
  rw [hwn, hmb] at hnew
  rw [hwn] at hb
  go_simp
  try rw [hwn]
  try rw [hmb]
  replace HB := Lib.hid (bel_call HB.out hb)
  replace HX1 := Lib.hid (HX1.out.below (by simp) hb)
  replace HX8 := Lib.hid (HX8.out.below (by simp) hb)
  replace HM1 := Lib.hid (HM1.out.below hb HBS.out.1)
  replace HM8 := Lib.hid (HM8.out.below hb HBS.out.1)
  replace HBS := Lib.hid (And.intro (Nat.le_trans HBS.out.1 hb.size) HBS.out.2)
  replace HO := Lib.hid (show OwnRc _ _ _ _ from row_below HO.out hb)
  have HMB := Lib.hid hnew
  have HMS := Lib.hid hmB
  clear hnew hb hwn hmb hmB
  obtain ⟨wc, hwc⟩ : ∃ X, wn = X := ⟨_, rfl⟩
  rw [hwc] at HB HM1 HX1 HM8 HX8 HBS HMB HO ⊢
  clear hwc
  refine hK.out _ _ (HX1.out.c 5 (by simp)) (fun hHeld => ?_)
  clear hK K
  try simp only [Act.put, List.setIfInBounds_toArray, List.set_cons_zero, List.set_cons_succ]
  rotate_left 1
  have hnew := World.alloc_heap_new wc (.cells #[.int .i64 0, .int .i64 0, .slice none 0 0, .slice none 0 0, .slice none 0 0, .slice none 0 0] 25)
  have hb : Below wc.heap.size wc (wc.alloc (.cells #[.int .i64 0, .int .i64 0, .slice none 0 0, .slice none 0 0, .slice none 0 0, .slice none 0 0] 25)) := (Below.refl _ _).alloc (Nat.le_refl _) _
  obtain ⟨mb, hmb⟩ : ∃ g, wc.heap.size = g := ⟨_, rfl⟩
  obtain ⟨wn, hwn⟩ : ∃ X, wc.alloc (.cells #[.int .i64 0, .int .i64 0, .slice none 0 0, .slice none 0 0, .slice none 0 0, .slice none 0 0] 25) = X := ⟨_, rfl⟩
  have hmB : B0 ≤ mb := by have := HBS.out.1; omega
  rw [hwn, hmb] at hnew
  rw [hwn] at hb
  go_simp
  try rw [hwn]
  try rw [hmb]
  replace HB := Lib.hid (bel_call HB.out hb)
  replace HX1 := Lib.hid (HX1.out.below (by simp) hb)
  replace HX8 := Lib.hid (HX8.out.below (by simp) hb)
  replace HM1 := Lib.hid (HM1.out.below hb HBS.out.1)
  replace HM8 := Lib.hid (HM8.out.below hb HBS.out.1)
  replace HBS := Lib.hid (And.intro (Nat.le_trans HBS.out.1 hb.size) HBS.out.2)
  replace HO := Lib.hid (show OwnRc _ _ _ _ from row_below HO.out hb)
  have HMB := Lib.hid hnew
  have HMS := Lib.hid hmB
  clear hnew hb hwn hmb hmB
  obtain ⟨wc, hwc⟩ : ∃ X, wn = X := ⟨_, rfl⟩
  rw [hwc] at HB HM1 HX1 HM8 HX8 HBS HMB HO ⊢
  clear hwc
  refine hK.out _ _ (HX1.out.c 5 (by simp)) (fun hHeld => ?_)
  clear hK K
  try simp only [Act.put, List.setIfInBounds_toArray, List.set_cons_zero, List.set_cons_succ]
  refine tilk_ready (rs := [6]) (by kernel_rfl) (by simp) ?_
  refine TilkAll.cons (o := { dst := some 48, op := Op.call { callee := Callee.builtin Builtin.append, args := #[Operand.tmp 45, Operand.tmp 47], argTypes := #[23, 23] }, type := 23, pos := "outright.go:68", after := #[{ on := 3, ground := Ground.data }, { on := 5, ground := Ground.data }, { on := 3, ground := Ground.chain }], guard := none }) rfl (fun K hK => ?_) (TilkAll.nil)
  have hsr : SR wc B0 (.slice b4 1 e4) [awR] := by
    obtain ⟨_, _, _, _, he, _, _, _, h⟩ := HM1.out
    injection he with he
    simp only [Array.mk.injEq, List.cons.injEq, and_true] at he
    rw [he.2.2.2.2.2]
    exact h
  obtain ⟨a6, c6, wn, hrun, ho, ha, _⟩ := run_appRc HO.out hsr (by decide) HBS.out.1
  have hlt := World.ownsRow.lt HO.out
  have hb : Below B0 wc wn := ha.below fun k hk => ⟨by have := HBS.out.1; omega, fun hg => by have := (hlt _ hg).1; omega⟩
  have hrun2 : (Builtin.append_ #[23, 23] 23 #[.slice a3 1 c3, .slice b4 1 e4]).run Try.prog wc = .ok (.slice a6 2 c6) wn := hrun
  have ho2 : OwnRc wn B0 (.slice a6 2 c6) [awR, awR] := ho
  have HRUN := Lib.hid hrun2
  replace HMB := Lib.hid ((ha.block mb (Array.getElem?_eq_some_iff.mp HMB.out).1 (own_ne HO.out HMB.out (by decide))).trans HMB.out)
  replace HB := Lib.hid (HB.out.trans (hb.mono (by have := HX1.out.lt (by simp); have := HBS.out; omega)))
  replace HM1 := Lib.hid (HM1.out.below hb (Nat.le_refl _))
  replace HM8 := Lib.hid (HM8.out.below hb (Nat.le_refl _))
  replace HX1 := Lib.hid (HX1.out.aside (by simp) ha (fun hg => by have := (hlt _ hg).1; have := HBS.out; omega))
  replace HX8 := Lib.hid (HX8.out.aside (by simp) ha (fun hg => by have := (hlt _ hg).1; have := HBS.out; omega))
  replace HBS := Lib.hid (And.intro (Nat.le_trans HBS.out.1 ha.size) HBS.out.2)
  replace HO := Lib.hid ho2
  clear hrun hrun2 ho ho2 ha hlt hb hsr
  refine oper_app_run (.tmp 45) (.tmp 47) 23 23 rfl rfl rfl rfl HRUN.out ?_
  obtain ⟨wc, hwc⟩ : ∃ X, wn = X := ⟨_, rfl⟩
  rw [hwc] at HB HM1 HX1 HM8 HX8 HBS HO HMB ⊢
  clear hwc HRUN
  refine hK.out _ _ (HX1.out.c 5 (by simp)) (fun hHeld => ?_)
  clear hK K
  try simp only [Act.put, List.setIfInBounds_toArray, List.set_cons_zero, List.set_cons_succ]
  refine tilk_take (i := 7) (oi := { dst := some 49, op := Op.build 25 #[(5, Operand.tmp 48)], type := 25, pos := "outright.go:68", after := #[{ on := 6, ground := Ground.data }], guard := none }) (v := ?_) rfl (by kernel_rfl) (by kernel_rfl) (by kernel_rfl) (fun _ _ _ h => h) (Or.inl ⟨by rfl, ?_⟩) (by assumption) ?_
  rotate_left 1
  · intro w hSw; (try dsimp only at hSw); go_simp; try (with_reducible rfl)
  try simp only [Act.put, List.setIfInBounds_toArray, List.set_cons_zero, List.set_cons_succ]
  rotate_left 1
  have hnew := World.alloc_heap_new wc (.cells #[.int .i64 0, .int .i64 0, .slice none 0 0, .slice none 0 0, .slice none 0 0, .slice none 0 0] 25)
  have hb : Below wc.heap.size wc (wc.alloc (.cells #[.int .i64 0, .int .i64 0, .slice none 0 0, .slice none 0 0, .slice none 0 0, .slice none 0 0] 25)) := (Below.refl _ _).alloc (Nat.le_refl _) _
  obtain ⟨mb, hmb⟩ : ∃ g, wc.heap.size = g := ⟨_, rfl⟩
  obtain ⟨wn, hwn⟩ : ∃ X, wc.alloc (.cells #[.int .i64 0, .int .i64 0, .slice none 0 0, .slice none 0 0, .slice none 0 0, .slice none 0 0] 25) = X := ⟨_, rfl⟩
  have hmB : B0 ≤ mb := by have := HBS.out.1; omega
  rw [hwn, hmb] at hnew
  rw [hwn] at hb
  go_simp
  try rw [hwn]
  try rw [hmb]
  replace HB := Lib.hid (bel_call HB.out hb)
  replace HX1 := Lib.hid (HX1.out.below (by simp) hb)
  replace HX8 := Lib.hid (HX8.out.below (by simp) hb)
  replace HM1 := Lib.hid (HM1.out.below hb HBS.out.1)
  replace HM8 := Lib.hid (HM8.out.below hb HBS.out.1)
  replace HBS := Lib.hid (And.intro (Nat.le_trans HBS.out.1 hb.size) HBS.out.2)
  replace HO := Lib.hid (show OwnRc _ _ _ _ from row_below HO.out hb)
  have HMB := Lib.hid hnew
  have HMS := Lib.hid hmB
  clear hnew hb hwn hmb hmB
  obtain ⟨wc, hwc⟩ : ∃ X, wn = X := ⟨_, rfl⟩
  rw [hwc] at HB HM1 HX1 HM8 HX8 HBS HMB HO ⊢
  clear hwc
  refine hK.out _ _ (HX1.out.c 5 (by simp)) (fun hHeld => ?_)
  clear hK K
  try simp only [Act.put, List.setIfInBounds_toArray, List.set_cons_zero, List.set_cons_succ]
  refine tilk_ready (rs := [3]) (by kernel_rfl) (by simp) ?_
  refine TilkAll.cons (o := { dst := some 45, op := Op.call { callee := Callee.builtin Builtin.append, args := #[Operand.tmp 42, Operand.tmp 44], argTypes := #[23, 23] }, type := 23, pos := "outright.go:68", after := #[{ on := 0, ground := Ground.data }, { on := 2, ground := Ground.data }], guard := none }) rfl (fun K hK => ?_) (TilkAll.nil)
  have hsr : SR wc B0 (.slice b4 1 e4) [awR] := by
    obtain ⟨_, _, _, _, he, _, _, _, h⟩ := HM1.out
    injection he with he
    simp only [Array.mk.injEq, List.cons.injEq, and_true] at he
    rw [he.2.2.2.2.2]
    exact h
  obtain ⟨a3, c3, wn, hrun, ho, ha, _⟩ := run_appRc HO.out hsr (by decide) HBS.out.1
  have hlt := World.ownsRow.lt HO.out
  have hb : Below B0 wc wn := ha.below fun k hk => ⟨by have := HBS.out.1; omega, fun hg => by have := (hlt _ hg).1; omega⟩
  have hrun2 : (Builtin.append_ #[23, 23] 23 #[.slice (some ⟨gl, 0, none⟩) 0 0, .slice b4 1 e4]).run Try.prog wc = .ok (.slice a3 1 c3) wn := hrun
  have ho2 : OwnRc wn B0 (.slice a3 1 c3) [awR] := ho
  have HRUN := Lib.hid hrun2
  replace HMB := Lib.hid ((ha.block mb (Array.getElem?_eq_some_iff.mp HMB.out).1 (own_ne HO.out HMB.out (by decide))).trans HMB.out)
  replace HB := Lib.hid (HB.out.trans (hb.mono (by have := HX1.out.lt (by simp); have := HBS.out; omega)))
  replace HM1 := Lib.hid (HM1.out.below hb (Nat.le_refl _))
  replace HM8 := Lib.hid (HM8.out.below hb (Nat.le_refl _))
  replace HX1 := Lib.hid (HX1.out.aside (by simp) ha (fun hg => by have := (hlt _ hg).1; have := HBS.out; omega))
  replace HX8 := Lib.hid (HX8.out.aside (by simp) ha (fun hg => by have := (hlt _ hg).1; have := HBS.out; omega))
  replace HBS := Lib.hid (And.intro (Nat.le_trans HBS.out.1 ha.size) HBS.out.2)
  replace HO := Lib.hid ho2
  clear hrun hrun2 ho ho2 ha hlt hb hsr
  refine oper_app_run (.tmp 42) (.tmp 44) 23 23 rfl rfl rfl rfl HRUN.out ?_
  obtain ⟨wc, hwc⟩ : ∃ X, wn = X := ⟨_, rfl⟩
  rw [hwc] at HB HM1 HX1 HM8 HX8 HBS HO HMB ⊢
  clear hwc HRUN
  refine hK.out _ _ (HX1.out.c 5 (by simp)) (fun hHeld => ?_)
  clear hK K
  try simp only [Act.put, List.setIfInBounds_toArray, List.set_cons_zero, List.set_cons_succ]
  refine tilk_ready (rs := [6]) (by kernel_rfl) (by simp) ?_
  refine TilkAll.cons (o := { dst := some 48, op := Op.call { callee := Callee.builtin Builtin.append, args := #[Operand.tmp 45, Operand.tmp 47], argTypes := #[23, 23] }, type := 23, pos := "outright.go:68", after := #[{ on := 3, ground := Ground.data }, { on := 5, ground := Ground.data }, { on := 3, ground := Ground.chain }], guard := none }) rfl (fun K hK => ?_) (TilkAll.nil)
  have hsr : SR wc B0 (.slice b4 1 e4) [awR] := by
    obtain ⟨_, _, _, _, he, _, _, _, h⟩ := HM1.out
    injection he with he
    simp only [Array.mk.injEq, List.cons.injEq, and_true] at he
    rw [he.2.2.2.2.2]
    exact h
  obtain ⟨a6, c6, wn, hrun, ho, ha, _⟩ := run_appRc HO.out hsr (by decide) HBS.out.1
  have hlt := World.ownsRow.lt HO.out
  have hb : Below B0 wc wn := ha.below fun k hk => ⟨by have := HBS.out.1; omega, fun hg => by have := (hlt _ hg).1; omega⟩
  have hrun2 : (Builtin.append_ #[23, 23] 23 #[.slice a3 1 c3, .slice b4 1 e4]).run Try.prog wc = .ok (.slice a6 2 c6) wn := hrun
  have ho2 : OwnRc wn B0 (.slice a6 2 c6) [awR, awR] := ho
  have HRUN := Lib.hid hrun2
  replace HMB := Lib.hid ((ha.block mb (Array.getElem?_eq_some_iff.mp HMB.out).1 (own_ne HO.out HMB.out (by decide))).trans HMB.out)
  replace HB := Lib.hid (HB.out.trans (hb.mono (by have := HX1.out.lt (by simp); have := HBS.out; omega)))
  replace HM1 := Lib.hid (HM1.out.below hb (Nat.le_refl _))
  replace HM8 := Lib.hid (HM8.out.below hb (Nat.le_refl _))
  replace HX1 := Lib.hid (HX1.out.aside (by simp) ha (fun hg => by have := (hlt _ hg).1; have := HBS.out; omega))
  replace HX8 := Lib.hid (HX8.out.aside (by simp) ha (fun hg => by have := (hlt _ hg).1; have := HBS.out; omega))
  replace HBS := Lib.hid (And.intro (Nat.le_trans HBS.out.1 ha.size) HBS.out.2)
  replace HO := Lib.hid ho2
  clear hrun hrun2 ho ho2 ha hlt hb hsr
  refine oper_app_run (.tmp 45) (.tmp 47) 23 23 rfl rfl rfl rfl HRUN.out ?_
  obtain ⟨wc, hwc⟩ : ∃ X, wn = X := ⟨_, rfl⟩
  rw [hwc] at HB HM1 HX1 HM8 HX8 HBS HO HMB ⊢
  clear hwc HRUN
  refine hK.out _ _ (HX1.out.c 5 (by simp)) (fun hHeld => ?_)
  clear hK K
  try simp only [Act.put, List.setIfInBounds_toArray, List.set_cons_zero, List.set_cons_succ]
  refine tilk_take (i := 7) (oi := { dst := some 49, op := Op.build 25 #[(5, Operand.tmp 48)], type := 25, pos := "outright.go:68", after := #[{ on := 6, ground := Ground.data }], guard := none }) (v := ?_) rfl (by kernel_rfl) (by kernel_rfl) (by kernel_rfl) (fun _ _ _ h => h) (Or.inl ⟨by rfl, ?_⟩) (by assumption) ?_
  rotate_left 1
  · intro w hSw; (try dsimp only at hSw); go_simp; try (with_reducible rfl)
  try simp only [Act.put, List.setIfInBounds_toArray, List.set_cons_zero, List.set_cons_succ]
  rotate_left 1
  have hnew := World.alloc_heap_new wc (.cells #[.int .i64 0, .int .i64 0, .slice none 0 0, .slice none 0 0, .slice none 0 0, .slice none 0 0] 25)
  have hb : Below wc.heap.size wc (wc.alloc (.cells #[.int .i64 0, .int .i64 0, .slice none 0 0, .slice none 0 0, .slice none 0 0, .slice none 0 0] 25)) := (Below.refl _ _).alloc (Nat.le_refl _) _
  obtain ⟨mb, hmb⟩ : ∃ g, wc.heap.size = g := ⟨_, rfl⟩
  obtain ⟨wn, hwn⟩ : ∃ X, wc.alloc (.cells #[.int .i64 0, .int .i64 0, .slice none 0 0, .slice none 0 0, .slice none 0 0, .slice none 0 0] 25) = X := ⟨_, rfl⟩
  have hmB : B0 ≤ mb := by have := HBS.out.1; omega
  rw [hwn, hmb] at hnew
  rw [hwn] at hb
  go_simp
  try rw [hwn]
  try rw [hmb]
  replace HB := Lib.hid (bel_call HB.out hb)
  replace HX1 := Lib.hid (HX1.out.below (by simp) hb)
  replace HX8 := Lib.hid (HX8.out.below (by simp) hb)
  replace HM1 := Lib.hid (HM1.out.below hb HBS.out.1)
  replace HM8 := Lib.hid (HM8.out.below hb HBS.out.1)
  replace HBS := Lib.hid (And.intro (Nat.le_trans HBS.out.1 hb.size) HBS.out.2)
  have HMB := Lib.hid hnew
  have HMS := Lib.hid hmB
  clear hnew hb hwn hmb hmB
  obtain ⟨wc, hwc⟩ : ∃ X, wn = X := ⟨_, rfl⟩
  rw [hwc] at HB HM1 HX1 HM8 HX8 HBS HMB ⊢
  clear hwc
  refine hK.out _ _ (HX1.out.c 5 (by simp)) (fun hHeld => ?_)
  clear hK K
  try simp only [Act.put, List.setIfInBounds_toArray, List.set_cons_zero, List.set_cons_succ]
  refine tilk_ready (rs := [0]) (by kernel_rfl) (by simp) ?_
  refine TilkAll.cons (o := { dst := some 42, op := Op.buildSlice 23 0 #[], type := 23, pos := "outright.go:68", after := #[], guard := none }) rfl (fun K hK => ?_) (TilkAll.nil)
  have ho := World.ownsRow_made (e := 48) (size := 5) (base := B0) wc #[] 0 HBS.out.1 (by decide) (by simp)
  have hb : Below wc.heap.size wc (wc.alloc (.cells #[] 48)) := (Below.refl _ _).alloc (Nat.le_refl _) _
  obtain ⟨gl, hgl⟩ : ∃ g, wc.heap.size = g := ⟨_, rfl⟩
  obtain ⟨wn, hwn⟩ : ∃ X, wc.alloc (.cells #[] 48) = X := ⟨_, rfl⟩
  rw [hwn, hgl] at ho
  rw [hwn] at hb
  go_simp
  try rw [hwn]
  try rw [hgl]
  replace HB := Lib.hid (bel_call HB.out hb)
  replace HX1 := Lib.hid (HX1.out.below (by simp) hb)
  replace HX8 := Lib.hid (HX8.out.below (by simp) hb)
  replace HM1 := Lib.hid (HM1.out.below hb HBS.out.1)
  replace HM8 := Lib.hid (HM8.out.below hb HBS.out.1)
  replace HBS := Lib.hid (And.intro (Nat.le_trans HBS.out.1 hb.size) HBS.out.2)
  replace HMB := Lib.hid ((hb.block mb (Array.getElem?_eq_some_iff.mp HMB.out).1).trans HMB.out)
  have HO := Lib.hid (show OwnRc wn B0 (.slice (some ⟨gl, 0, none⟩) 0 0) [] from ho)
  clear ho hb hwn hgl
  obtain ⟨wc, hwc⟩ : ∃ X, wn = X := ⟨_, rfl⟩
  rw [hwc] at HB HM1 HX1 HM8 HX8 HBS HO HMB ⊢
  clear hwc
  refine hK.out _ _ (HX1.out.c 5 (by simp)) (fun hHeld => ?_)
  clear hK K
  try simp only [Act.put, List.setIfInBounds_toArray, List.set_cons_zero, List.set_cons_succ]
  refine tilk_ready (rs := [3]) (by kernel_rfl) (by simp) ?_
  refine TilkAll.cons (o := { dst := some 45, op := Op.call { callee := Callee.builtin Builtin.append, args := #[Operand.tmp 42, Operand.tmp 44], argTypes := #[23, 23] }, type := 23, pos := "outright.go:68", after := #[{ on := 0, ground := Ground.data }, { on := 2, ground := Ground.data }], guard := none }) rfl (fun K hK => ?_) (TilkAll.nil)
  have hsr : SR wc B0 (.slice b4 1 e4) [awR] := by
    obtain ⟨_, _, _, _, he, _, _, _, h⟩ := HM1.out
    injection he with he
    simp only [Array.mk.injEq, List.cons.injEq, and_true] at he
    rw [he.2.2.2.2.2]
    exact h
  obtain ⟨a3, c3, wn, hrun, ho, ha, _⟩ := run_appRc HO.out hsr (by decide) HBS.out.1
  have hlt := World.ownsRow.lt HO.out
  have hb : Below B0 wc wn := ha.below fun k hk => ⟨by have := HBS.out.1; omega, fun hg => by have := (hlt _ hg).1; omega⟩
  have hrun2 : (Builtin.append_ #[23, 23] 23 #[.slice (some ⟨gl, 0, none⟩) 0 0, .slice b4 1 e4]).run Try.prog wc = .ok (.slice a3 1 c3) wn := hrun
  have ho2 : OwnRc wn B0 (.slice a3 1 c3) [awR] := ho
  have HRUN := Lib.hid hrun2
  replace HMB := Lib.hid ((ha.block mb (Array.getElem?_eq_some_iff.mp HMB.out).1 (own_ne HO.out HMB.out (by decide))).trans HMB.out)
  replace HB := Lib.hid (HB.out.trans (hb.mono (by have := HX1.out.lt (by simp); have := HBS.out; omega)))
  replace HM1 := Lib.hid (HM1.out.below hb (Nat.le_refl _))
  replace HM8 := Lib.hid (HM8.out.below hb (Nat.le_refl _))
  replace HX1 := Lib.hid (HX1.out.aside (by simp) ha (fun hg => by have := (hlt _ hg).1; have := HBS.out; omega))
  replace HX8 := Lib.hid (HX8.out.aside (by simp) ha (fun hg => by have := (hlt _ hg).1; have := HBS.out; omega))
  replace HBS := Lib.hid (And.intro (Nat.le_trans HBS.out.1 ha.size) HBS.out.2)
  replace HO := Lib.hid ho2
  clear hrun hrun2 ho ho2 ha hlt hb hsr
  refine oper_app_run (.tmp 42) (.tmp 44) 23 23 rfl rfl rfl rfl HRUN.out ?_
  obtain ⟨wc, hwc⟩ : ∃ X, wn = X := ⟨_, rfl⟩
  rw [hwc] at HB HM1 HX1 HM8 HX8 HBS HO HMB ⊢
  clear hwc HRUN
  refine hK.out _ _ (HX1.out.c 5 (by simp)) (fun hHeld => ?_)
  clear hK K
  try simp only [Act.put, List.setIfInBounds_toArray, List.set_cons_zero, List.set_cons_succ]
  refine tilk_ready (rs := [6]) (by kernel_rfl) (by simp) ?_
  refine TilkAll.cons (o := { dst := some 48, op := Op.call { callee := Callee.builtin Builtin.append, args := #[Operand.tmp 45, Operand.tmp 47], argTypes := #[23, 23] }, type := 23, pos := "outright.go:68", after := #[{ on := 3, ground := Ground.data }, { on := 5, ground := Ground.data }, { on := 3, ground := Ground.chain }], guard := none }) rfl (fun K hK => ?_) (TilkAll.nil)
  have hsr : SR wc B0 (.slice b4 1 e4) [awR] := by
    obtain ⟨_, _, _, _, he, _, _, _, h⟩ := HM1.out
    injection he with he
    simp only [Array.mk.injEq, List.cons.injEq, and_true] at he
    rw [he.2.2.2.2.2]
    exact h
  obtain ⟨a6, c6, wn, hrun, ho, ha, _⟩ := run_appRc HO.out hsr (by decide) HBS.out.1
  have hlt := World.ownsRow.lt HO.out
  have hb : Below B0 wc wn := ha.below fun k hk => ⟨by have := HBS.out.1; omega, fun hg => by have := (hlt _ hg).1; omega⟩
  have hrun2 : (Builtin.append_ #[23, 23] 23 #[.slice a3 1 c3, .slice b4 1 e4]).run Try.prog wc = .ok (.slice a6 2 c6) wn := hrun
  have ho2 : OwnRc wn B0 (.slice a6 2 c6) [awR, awR] := ho
  have HRUN := Lib.hid hrun2
  replace HMB := Lib.hid ((ha.block mb (Array.getElem?_eq_some_iff.mp HMB.out).1 (own_ne HO.out HMB.out (by decide))).trans HMB.out)
  replace HB := Lib.hid (HB.out.trans (hb.mono (by have := HX1.out.lt (by simp); have := HBS.out; omega)))
  replace HM1 := Lib.hid (HM1.out.below hb (Nat.le_refl _))
  replace HM8 := Lib.hid (HM8.out.below hb (Nat.le_refl _))
  replace HX1 := Lib.hid (HX1.out.aside (by simp) ha (fun hg => by have := (hlt _ hg).1; have := HBS.out; omega))
  replace HX8 := Lib.hid (HX8.out.aside (by simp) ha (fun hg => by have := (hlt _ hg).1; have := HBS.out; omega))
  replace HBS := Lib.hid (And.intro (Nat.le_trans HBS.out.1 ha.size) HBS.out.2)
  replace HO := Lib.hid ho2
  clear hrun hrun2 ho ho2 ha hlt hb hsr
  refine oper_app_run (.tmp 45) (.tmp 47) 23 23 rfl rfl rfl rfl HRUN.out ?_
  obtain ⟨wc, hwc⟩ : ∃ X, wn = X := ⟨_, rfl⟩
  rw [hwc] at HB HM1 HX1 HM8 HX8 HBS HO HMB ⊢
  clear hwc HRUN
  refine hK.out _ _ (HX1.out.c 5 (by simp)) (fun hHeld => ?_)
  clear hK K
  try simp only [Act.put, List.setIfInBounds_toArray, List.set_cons_zero, List.set_cons_succ]
  refine tilk_take (i := 7) (oi := { dst := some 49, op := Op.build 25 #[(5, Operand.tmp 48)], type := 25, pos := "outright.go:68", after := #[{ on := 6, ground := Ground.data }], guard := none }) (v := ?_) rfl (by kernel_rfl) (by kernel_rfl) (by kernel_rfl) (fun _ _ _ h => h) (Or.inl ⟨by rfl, ?_⟩) (by assumption) ?_
  rotate_left 1
  · intro w hSw; (try dsimp only at hSw); go_simp; try (with_reducible rfl)
  try simp only [Act.put, List.setIfInBounds_toArray, List.set_cons_zero, List.set_cons_succ]
  rotate_left 1
  iterate 4
    · refine tilk_ready (rs := [9]) (by kernel_rfl) (by simp) ?_
      refine TilkAll.last (i := 9) (o := { dst := none, op := Op.store 25 (Operand.tmp 10) (Operand.tmp 49), type := 0, pos := "outright.go:68", after := #[{ on := 8, ground := Ground.data }, { on := 7, ground := Ground.data }, { on := 6, ground := Ground.chain }, { on := 0, ground := Ground.phase }, { on := 1, ground := Ground.phase }, { on := 2, ground := Ground.phase }, { on := 3, ground := Ground.phase }, { on := 4, ground := Ground.phase }, { on := 5, ground := Ground.phase }, { on := 6, ground := Ground.phase }, { on := 7, ground := Ground.phase }, { on := 8, ground := Ground.phase }], guard := none }) rfl (fun K hK => ?_) (TilkAll.nil)
      have zc : ∀ (j : Nat) (u : Value), (#[Value.int .i64 0, .int .i64 0, .slice none 0 0, .slice none 0 0, .slice none 0 0, .slice none 0 0])[j]? = some u → wc.cell? ⟨mb, j, none⟩ = some u := fun j u hu => by have h := HMB.out; simp [World.cell?, h, hu]
      have t0 := zc 0 _ rfl
      have t1 := zc 1 _ rfl
      have t2 := zc 2 _ rfl
      have t3 := zc 3 _ rfl
      have t4 := zc 4 _ rfl
      have t5 := zc 5 _ rfl
      have fm : ∀ j, wc.frozen? ⟨mb, j, none⟩ = false := fun j => by have h := HMB.out; simp [World.frozen?, h]
      go_simp
      have hcz : Cel wc mb [.int .i64 0, .int .i64 0, .slice none 0 0, .slice none 0 0, .slice none 0 0, .slice none 0 0] := ⟨fun j hj => by
        match j, hj with
        | 0, _ => exact t0
        | 1, _ => exact t1
        | 2, _ => exact t2
        | 3, _ => exact t3
        | 4, _ => exact t4
        | 5, _ => exact t5, fm⟩
      have hxt := cel_put6 hcz (.int .i64 0) (.int .i64 0) (.slice none 0 0) (.slice none 0 0) (.slice none 0 0) (.slice a6 2 c6)
      have hst := aside_put6 wc mb (.int .i64 0) (.int .i64 0) (.slice none 0 0) (.slice none 0 0) (.slice none 0 0) (.slice a6 2 c6)
      unfold put6 at hxt hst
      have hmb := HMS.out
      have HXT := Lib.hid hxt
      have HRW := Lib.hid (show OwnRc _ B0 (.slice a6 2 c6) [awR, awR] from row_aside HO.out hst (fun k hk hg => own_ne HO.out HMB.out (by decide) (by rw [hk, hg])))
      have hb := hst.below (B := B0) fun k hk => ⟨by have := HBS.out.1; omega, by omega⟩
      replace HB := Lib.hid (HB.out.trans (hb.mono (by have := HX1.out.lt (by simp); have := HBS.out; omega)))
      replace HM1 := Lib.hid ((HM1.out.below hb (Nat.le_refl _)).wide (Nat.le_trans HBS.out.1 hst.size))
      replace HM8 := Lib.hid ((HM8.out.below hb (Nat.le_refl _)).wide (Nat.le_trans HBS.out.1 hst.size))
      replace HX1 := Lib.hid (HX1.out.aside (by simp) hst (by have := HBS.out; omega))
      replace HX8 := Lib.hid (HX8.out.aside (by simp) hst (by have := HBS.out; omega))
      clear zc t0 t1 t2 t3 t4 t5 fm hcz hxt hst hmb hb HO HMB HMS
      refine hK.out _ _ trivial (fun hHeld => ?_)
      clear hK K
      try simp only [Act.put, List.setIfInBounds_toArray, List.set_cons_zero, List.set_cons_succ]
      refine tilk_done (by kernel_rfl) ?_ _
      clear hHeld
      obtain ⟨WE, hWE⟩ : ∃ X, (((((wc.setCell ⟨mb, 0, none⟩ (.int .i64 0)).setCell ⟨mb, 1, none⟩ (.int .i64 0)).setCell ⟨mb, 2, none⟩ (.slice none 0 0)).setCell ⟨mb, 3, none⟩ (.slice none 0 0)).setCell ⟨mb, 4, none⟩ (.slice none 0 0)).setCell ⟨mb, 5, none⟩ (.slice a6 2 c6) = X := ⟨_, rfl⟩
      rw [hWE] at HB HM1 HX1 HM8 HX8 HXT HRW ⊢
      clear hWE
      have HMT := Lib.hid (show Mg WE WE.heap.size (.agg #[.int .i64 0, .int .i64 0, .slice none 0 0, .slice none 0 0, .slice none 0 0, .slice a6 2 c6]) kT from ⟨_, _, _, _, rfl, Lst.nil _ _, Lst.nil _ _, Lst.nil _ _, Lst.own HRW.out (by decide)⟩)
      have HOT := Lib.hid (of_any HMT.out (Nat.le_refl _) mildT)
      unfold OfPost at HOT
      rw [k_ofT] at HOT
      obtain ⟨c0, c1, c2, c3, c4, c5⟩ := HXT.out.six
      go_wp2_with fail
      refine HOT.out.mono ?_; rintro e w6 ⟨v, rfl, hv, hb⟩
      obtain ⟨o, hv1, hso⟩ := hv
      obtain ⟨ob, obc, ho1⟩ := row_shape hso
      have ho2 : o = .slice ob 0 obc := ho1
      subst ho2
      have hv2 : v = .agg #[.int .i64 0, .int .i64 0, .int .i64 0, .bool false, .slice ob 0 obc] := hv1
      subst hv2
      clear hso
      replace HB := Lib.hid (bel_call HB.out hb)
      replace HM1 := Lib.hid (HM1.out.later hb)
      replace HX1 := Lib.hid (HX1.out.below (by simp) hb)
      replace HM8 := Lib.hid (HM8.out.later hb)
      replace HX8 := Lib.hid (HX8.out.below (by simp) hb)
      clear hb HOT HMT HXT HRW c0 c1 c2 c3 c4 c5 HBS
      have hb : Below w6.heap.size w6 (w6.alloc (.cells #[.int .i64 0, .int .i64 0, .int .i64 0, .bool false, .slice ob 0 obc] 30)) := (Below.refl _ _).alloc (Nat.le_refl _) _
      replace HB := Lib.hid (bel_call HB.out hb)
      replace HM1 := Lib.hid (HM1.out.later hb)
      replace HX1 := Lib.hid (HX1.out.below (by simp) hb)
      replace HM8 := Lib.hid (HM8.out.later hb)
      replace HX8 := Lib.hid (HX8.out.below (by simp) hb)
      clear hb
      obtain ⟨g9, hg9⟩ : ∃ g, w6.heap.size = g := ⟨_, rfl⟩
      have hone : SR ((w6.alloc (.cells #[.int .i64 0, .int .i64 0, .int .i64 0, .bool false, .slice ob 0 obc] 30)).alloc (.cells #[.string ⟨#[0]⟩, .int .i64 41, .int .i64 0, .int .i64 0, .string ⟨#[0, 1, 0, 2, 9]⟩] 48)) ((w6.alloc (.cells #[.int .i64 0, .int .i64 0, .int .i64 0, .bool false, .slice ob 0 obc] 30)).heap.size + 1) (.slice (some ⟨(w6.alloc (.cells #[.int .i64 0, .int .i64 0, .int .i64 0, .bool false, .slice ob 0 obc] 30)).heap.size, 0, none⟩) 1 1) [kC] :=
        sr_one (w6.alloc (.cells #[.int .i64 0, .int .i64 0, .int .i64 0, .bool false, .slice ob 0 obc] 30)) kC
      simp only [World.size_alloc, hg9] at hone
      have hb : Below (w6.alloc (.cells #[.int .i64 0, .int .i64 0, .int .i64 0, .bool false, .slice ob 0 obc] 30)).heap.size (w6.alloc (.cells #[.int .i64 0, .int .i64 0, .int .i64 0, .bool false, .slice ob 0 obc] 30)) ((w6.alloc (.cells #[.int .i64 0, .int .i64 0, .int .i64 0, .bool false, .slice ob 0 obc] 30)).alloc (.cells #[.string ⟨#[0]⟩, .int .i64 41, .int .i64 0, .int .i64 0, .string ⟨#[0, 1, 0, 2, 9]⟩] 48)) := (Below.refl _ _).alloc (Nat.le_refl _) _
      replace HB := Lib.hid (bel_call HB.out hb)
      replace HM1 := Lib.hid (HM1.out.later hb)
      replace HX1 := Lib.hid (HX1.out.below (by simp) hb)
      replace HM8 := Lib.hid (HM8.out.later hb)
      replace HX8 := Lib.hid (HX8.out.below (by simp) hb)
      clear hb
      have hmu : Mg ((w6.alloc (.cells #[.int .i64 0, .int .i64 0, .int .i64 0, .bool false, .slice ob 0 obc] 30)).alloc (.cells #[.string ⟨#[0]⟩, .int .i64 41, .int .i64 0, .int .i64 0, .string ⟨#[0, 1, 0, 2, 9]⟩] 48)) ((w6.alloc (.cells #[.int .i64 0, .int .i64 0, .int .i64 0, .bool false, .slice ob 0 obc] 30)).alloc (.cells #[.string ⟨#[0]⟩, .int .i64 41, .int .i64 0, .int .i64 0, .string ⟨#[0, 1, 0, 2, 9]⟩] 48)).heap.size
        (.agg #[.int .i64 0, .int .i64 0, .slice none 0 0, .slice none 0 0, .slice none 0 0, .slice (some ⟨g9 + 1, 0, none⟩) 1 1]) kU := ⟨_, _, _, _, rfl, Lst.nil _ _, Lst.nil _ _, Lst.nil _ _, Lst.wide hone (by simp [hg9])⟩
      have hbx := cel_new6 ((w6.alloc (.cells #[.int .i64 0, .int .i64 0, .int .i64 0, .bool false, .slice ob 0 obc] 30)).alloc (.cells #[.string ⟨#[0]⟩, .int .i64 41, .int .i64 0, .int .i64 0, .string ⟨#[0, 1, 0, 2, 9]⟩] 48)) (.int .i64 0) (.int .i64 0) (.slice none 0 0) (.slice none 0 0) (.slice none 0 0) (.slice (some ⟨g9 + 1, 0, none⟩) 1 1) 25
      simp only [World.size_alloc, hg9] at hbx
      have HMU := Lib.hid hmu
      clear hone hmu
      have hb : Below ((w6.alloc (.cells #[.int .i64 0, .int .i64 0, .int .i64 0, .bool false, .slice ob 0 obc] 30)).alloc (.cells #[.string ⟨#[0]⟩, .int .i64 41, .int .i64 0, .int .i64 0, .string ⟨#[0, 1, 0, 2, 9]⟩] 48)).heap.size ((w6.alloc (.cells #[.int .i64 0, .int .i64 0, .int .i64 0, .bool false, .slice ob 0 obc] 30)).alloc (.cells #[.string ⟨#[0]⟩, .int .i64 41, .int .i64 0, .int .i64 0, .string ⟨#[0, 1, 0, 2, 9]⟩] 48)) (((w6.alloc (.cells #[.int .i64 0, .int .i64 0, .int .i64 0, .bool false, .slice ob 0 obc] 30)).alloc (.cells #[.string ⟨#[0]⟩, .int .i64 41, .int .i64 0, .int .i64 0, .string ⟨#[0, 1, 0, 2, 9]⟩] 48)).alloc (.cells #[.int .i64 0, .int .i64 0, .slice none 0 0, .slice none 0 0, .slice none 0 0, .slice (some ⟨g9 + 1, 0, none⟩) 1 1] 25)) := (Below.refl _ _).alloc (Nat.le_refl _) _
      replace HB := Lib.hid (bel_call HB.out hb)
      replace HM1 := Lib.hid (HM1.out.later hb)
      replace HX1 := Lib.hid (HX1.out.below (by simp) hb)
      replace HM8 := Lib.hid (HM8.out.later hb)
      replace HX8 := Lib.hid (HX8.out.below (by simp) hb)
      replace HMU := Lib.hid (HMU.out.later hb)
      clear hb
      have HOU := Lib.hid (of_any HMU.out (Nat.le_refl _) mildU)
      unfold OfPost at HOU
      rw [k_ofU] at HOU
      obtain ⟨c0, c1, c2, c3, c4, c5⟩ := hbx.six
      clear hbx
      go_wp2_with fail
      refine HOU.out.mono ?_; rintro e w7 ⟨v, rfl, hv, hb⟩
      obtain ⟨o, hv1, hso⟩ := hv
      obtain ⟨od, odc, ho1⟩ := row_shape hso
      have ho2 : o = .slice od 0 odc := ho1
      subst ho2
      have hv2 : v = .agg #[.int .i64 0, .int .i64 0, .int .i64 0, .bool false, .slice od 0 odc] := hv1
      subst hv2
      clear hso
      replace HB := Lib.hid (bel_call HB.out hb)
      replace HM1 := Lib.hid (HM1.out.later hb)
      replace HX1 := Lib.hid (HX1.out.below (by simp) hb)
      replace HM8 := Lib.hid (HM8.out.later hb)
      replace HX8 := Lib.hid (HX8.out.below (by simp) hb)
      clear hb HOU HMU c0 c1 c2 c3 c4 c5
      have hb : Below w7.heap.size w7 (w7.alloc (.cells #[.int .i64 0, .int .i64 0, .int .i64 0, .bool false, .slice od 0 odc] 30)) := (Below.refl _ _).alloc (Nat.le_refl _) _
      replace HB := Lib.hid (bel_call HB.out hb)
      replace HM1 := Lib.hid (HM1.out.later hb)
      replace HX1 := Lib.hid (HX1.out.below (by simp) hb)
      replace HM8 := Lib.hid (HM8.out.later hb)
      replace HX8 := Lib.hid (HX8.out.below (by simp) hb)
      clear hb
      go_wp2_with fail
      refine (awake9_any _).mono ?_; rintro e w8 ⟨rfl, hb⟩
      replace HB := Lib.hid (bel_call HB.out hb)
      replace HM1 := Lib.hid (HM1.out.later hb)
      replace HX1 := Lib.hid (HX1.out.below (by simp) hb)
      replace HM8 := Lib.hid (HM8.out.later hb)
      replace HX8 := Lib.hid (HX8.out.below (by simp) hb)
      clear hb
      obtain ⟨c0, c1, c2, c3, c4, c5⟩ := HX1.out.six
      go_wp2_with fail
      refine (code_any HM1.out (Nat.le_refl _) aw_mild1).mono ?_; rw [k_co]; rintro e w9 ⟨rfl, hb⟩
      replace HB := Lib.hid (bel_call HB.out hb)
      replace HM1 := Lib.hid (HM1.out.later hb)
      replace HX1 := Lib.hid (HX1.out.below (by simp) hb)
      replace HM8 := Lib.hid (HM8.out.later hb)
      replace HX8 := Lib.hid (HX8.out.below (by simp) hb)
      clear hb c0 c1 c2 c3 c4 c5
      go_wp2_with fail
      refine (room_any (show Mg _ _ _ ms00 from mg_bare _ 0 0) (Nat.le_refl _) mild00).mono ?_; rw [k_ro0]; rintro e w10 ⟨rfl, hb⟩
      replace HB := Lib.hid (bel_call HB.out hb)
      replace HM1 := Lib.hid (HM1.out.later hb)
      replace HX1 := Lib.hid (HX1.out.below (by simp) hb)
      replace HM8 := Lib.hid (HM8.out.later hb)
      replace HX8 := Lib.hid (HX8.out.below (by simp) hb)
      clear hb
      obtain ⟨c0, c1, c2, c3, c4, c5⟩ := HX8.out.six
      go_wp2_with fail
      refine (room_any HM8.out (Nat.le_refl _) mildS).mono ?_; rw [k_ro8]; rintro e w11 ⟨rfl, hb⟩
      replace HB := Lib.hid (bel_call HB.out hb)
      clear hb c0 c1 c2 c3 c4 c5 HX8 HM8 HX1 HM1
      go_wp2_with fail
      refine (checkE_any (show Eg _ _ _ kX from eg_bare _ 0 128 0 false) (Nat.le_refl _) (by decide) (by simp [kX])).mono ?_; rw [k_ck]; rintro e w12 ⟨rfl, hb⟩
      replace HB := Lib.hid (bel_call HB.out hb)
      clear hb
      go_wp2_with fail
      go_ret
      exact ⟨rfl, by first | exact HB.out | (rw [← hN]; exact HB.out) | (rw [hN]; exact HB.out)⟩


end Go.Proofs.Ytcjgbholgbjejaa
