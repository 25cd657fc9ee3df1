/-
  The example that each statement asks: awake.
-/
import Derived.Test.YtdikgjbpjdnodaaGreatT25
import Derived.Test.YtdikgjbpjdnodaaGreatT00
import Derived.Laws.Bits128
import Derived.Test.YtdikgjbpjdnodaaGreatT02
import Derived.Deep.RegionHeld
namespace Go.Proofs.YtdikgjbpjdnodaaGreat
open Go.RowKit Go.Shelf
set_option linter.unusedVariables false
set_option linter.unusedSimpArgs false
set_option maxRecDepth 100000

/-- The question that is asked, and its bytes. -/
def ask0 : Ms := ⟨7, 256, [⟨[1, 97, 0], 1, 1⟩], [], [], []⟩
def ask0B : List UInt8 := [0, 7, 1, 0, 0, 1, 0, 0, 0, 0, 0, 0, 1, 97, 0, 0, 1, 0, 1]

theorem ask0_short : Shorts [[97]] := by decide
theorem ask0_chk : chk [1, 97, 0] = 0 := shorts_chk ask0_short
theorem ask0_labs : labs [1, 97, 0] = [[97]] := shorts_labs ask0_short
theorem ask0_err : askE [1, 97, 0] 1 1 = 0 := by unfold askE; rw [ask0_chk]; decide
theorem ask0_may : chkM ask0 = 0 := by
  unfold chkM
  rw [if_neg (by decide), if_neg (by decide)]
  simp [ask0, Ms.its, fst0, It.err, ask0_err]
theorem ask0_wr : wrM ask0 = (some ask0B, 0) := by
  rw [wrM_fin ask0_may]
  have e : wrI (headM ask0) [] 0 (.q ⟨[1, 97, 0], 1, 1⟩) = ⟨[1, 97, 0] ++ (two 1 ++ two 1), 0, nameK [] 0 12 [1, 97, 0], nameE [] 0 12 [1, 97, 0]⟩ := by
    unfold wrI askW
    have hp : pkE 0 12 [1, 97, 0] = 0 := by unfold pkE; rw [ask0_chk]; decide
    show (if askE [1, 97, 0] 1 1 ≠ 0 then _ else if pkE 0 12 [1, 97, 0] ≠ 0 then _ else _) = _
    rw [ask0_err, if_neg (by decide), hp, if_neg (by decide)]
    have hn : nameB [] 0 12 [1, 97, 0] = [1, 97, 0] := by
      unfold nameB
      rw [if_pos hp, ask0_labs]
      decide
    show (⟨nameB [] 0 12 [1, 97, 0] ++ _, _, _, _⟩ : WR) = _
    rw [hn]
    rfl
  show wfin (wrIs [.q ⟨[1, 97, 0], 1, 1⟩] (headM ask0) [] 0) = _
  rw [wrIs, e]
  rfl
theorem ask0_rd : rdM ask0B = .ok ask0 := wrM_back ask0_wr
theorem ask0_fine : ask0.Fine := ⟨by decide, by decide, by decide, by decide⟩

theorem lit_sl (w : World) (l : List UInt8) : Sl (w.alloc (.cells ((iz l).map (Value.int .u8)).toArray 5)) w.heap.size (w.heap.size + 1) (.slice (some ⟨w.heap.size, 0, none⟩) l.length l.length) (iz l) := by
  have := sl_lit w (iz l)
  rw [iz_len] at this
  exact this

theorem asked_any (w : World) : Calls Tryz.prog 35 #[] w fun e w' => ∃ v, e = .returned v ∧ Mg w' w'.heap.size v ask0 ∧ Below w.heap.size w w' := by
  go_enter Tryz.func35, Tryz.ntmps35
  go_wp2
  have hs := sq_one (w.alloc (.cells #[.int .i64 7, .int .i64 256, .slice (some ⟨w.heap.size + 1, 0, none⟩) 1 1, .slice none 0 0, .slice none 0 0, .slice none 0 0] 25)) ⟨[1, 97, 0], 1, 1⟩
  rw [World.size_alloc] at hs
  refine bodyPost_ret (by simp [results, Tryz.results35, go_sem]) rfl ⟨.agg #[.int .i64 7, .int .i64 256, .slice (some ⟨w.heap.size + 1, 0, none⟩) 1 1, .slice none 0 0, .slice none 0 0, .slice none 0 0], rfl, ?_, ?_⟩
  · exact ⟨_, _, _, _, rfl, Lst.wide hs (by simp), Lst.nil _ _, Lst.nil _ _, Lst.nil _ _⟩
  · exact ((Below.refl _ _).alloc (Nat.le_refl _) _).alloc (by simp) _

set_option maxHeartbeats 8000000 in
theorem awakeM_any (w : World) : Calls Tryz.prog 18 #[] w (Tells w (.bool true)) := by
  have HAsk := Lib.hid (fun wx => asked_any wx)
  have HWr := Lib.hid (fun (wx : World) (v : Value) (h : Mg wx wx.heap.size v ask0) => writeM_any h (Nat.le_refl _) ask0_fine (by decide))
  rw [ask0_wr] at HWr
  have HRd := Lib.hid (fun (wx : World) {lo hi : Nat} {vb : Value} (h : Sl wx lo hi vb (iz ask0B)) (hh : hi ≤ wx.heap.size) => readM_any h hh (by decide))
  rw [ask0_rd] at HRd
  have HB := Lib.hid (Below.refl w.heap.size w)
  go_enter Tryz.func18, Tryz.ntmps18
  go_wp2_with fail
  refine (HAsk.out _).mono ?_; rintro e w1 ⟨v1, rfl, hm1, hb⟩
  replace HB := Lib.hid (bel_call HB.out hb)
  have HM1 := Lib.hid hm1
  clear hm1 hb
  go_wp2_with fail
  refine (HWr.out _ _ HM1.out).mono ?_; rintro e w2 ⟨v2, rfl, ho2, hb⟩
  replace HB := Lib.hid (bel_call HB.out hb)
  have HO2 := Lib.hid (show OwnB w2 w1.heap.size v2 ask0B from ho2)
  clear ho2 hb HM1
  go_wp2_with fail
  refine (HRd.out _ HO2.out.sl (Nat.le_refl _)).mono ?_; rintro e w3 ⟨v3, rfl, hm3, hb⟩
  replace HB := Lib.hid (bel_call HB.out hb)
  replace HO2 := Lib.hid (HO2.out.below hb)
  obtain ⟨q3, a3, n3, r3, rfl, hmm⟩ := hm3
  obtain ⟨xa, xn, xc, rfl⟩ : ∃ a n c, q3 = .slice a n c := by obtain ⟨a, c, h⟩ := Lst.shape hmm.1; exact ⟨a, _, c, h⟩
  obtain ⟨ya, yn, yc, rfl⟩ : ∃ a n c, a3 = .slice a n c := by obtain ⟨a, c, h⟩ := Lst.shape hmm.2.1; exact ⟨a, _, c, h⟩
  obtain ⟨za, zn, zc, rfl⟩ : ∃ a n c, n3 = .slice a n c := by obtain ⟨a, c, h⟩ := Lst.shape hmm.2.2.1; exact ⟨a, _, c, h⟩
  obtain ⟨ta, tn, tc, rfl⟩ : ∃ a n c, r3 = .slice a n c := by obtain ⟨a, c, h⟩ := Lst.shape hmm.2.2.2; exact ⟨a, _, c, h⟩
  have hm3 : Mg w3 w3.heap.size (.agg #[.int .i64 ask0.id, .int .i64 ask0.fl, (.slice xa xn xc), (.slice ya yn yc), (.slice za zn zc), (.slice ta tn tc)]) ask0 := ⟨_, _, _, _, rfl, hmm⟩
  clear hmm hb
  have e0 : ask0.id = 7 := rfl
  have e1 : ask0.fl = 256 := rfl
  rw [e0, e1] at hm3 ⊢
  obtain ⟨g3, hg3⟩ : ∃ g, w3.heap.size = g := ⟨_, rfl⟩
  obtain ⟨W4, hW4⟩ : ∃ X, w3.alloc (.cells #[.int .i64 7, .int .i64 256, (.slice xa xn xc), (.slice ya yn yc), (.slice za zn zc), (.slice ta tn tc)] 25) = X := ⟨_, rfl⟩
  obtain ⟨W5, hW5⟩ : ∃ X, W4.alloc (.cells #[.int .i64 0, .int .i64 0] 43) = X := ⟨_, rfl⟩
  have s4 : W4.heap.size = g3 + 1 := by rw [← hW4, World.size_alloc, hg3]
  have b5 : Below w3.heap.size w3 W5 := by rw [← hW5, ← hW4]; exact ((Below.refl _ _).alloc (Nat.le_refl _) _).alloc (by simp) _
  have hx : Cel W5 g3 [.int .i64 7, .int .i64 256, (.slice xa xn xc), (.slice ya yn yc), (.slice za zn zc), (.slice ta tn tc)] := by
    have := cel_new6 w3 (.int .i64 7) (.int .i64 256) (.slice xa xn xc) (.slice ya yn yc) (.slice za zn zc) (.slice ta tn tc) 25
    rw [hW4, hg3] at this
    exact this.below (by simp) (by rw [← hW5]; exact (Below.refl _ _).alloc (Nat.le_refl _) _)
  have hy : Cel W5 (g3 + 1) [.int .i64 0, .int .i64 0] := by
    have := cel_new2 W4 (.int .i64 0) (.int .i64 0) 43
    rwa [hW5, s4] at this
  obtain ⟨WX, hWX⟩ : ∃ X, W5.drew = X := ⟨_, rfl⟩
  have b6 : Below w3.heap.size w3 WX := by rw [← hWX]; exact b5.drew
  have HX := Lib.hid (show Cel WX g3 [.int .i64 7, .int .i64 256, (.slice xa xn xc), (.slice ya yn yc), (.slice za zn zc), (.slice ta tn tc)] by rw [← hWX]; exact ⟨hx.c, hx.fz⟩)
  have HY := Lib.hid (show Cel WX (g3 + 1) [.int .i64 0, .int .i64 0] by rw [← hWX]; exact ⟨hy.c, hy.fz⟩)
  replace HB := Lib.hid (bel_call HB.out b6)
  replace HO2 := Lib.hid (HO2.out.below b6)
  have HM3 := Lib.hid (hm3.later b6)
  clear hx hy b5 b6 hm3 e0 e1
  subst hW5
  go_wp2_with fail
  refine wp_region_held_drew (S := (fun wx => wx.cell? ⟨g3 + 1, 0, none⟩ = some (.int .i64 0) ∧ wx.cell? ⟨g3, 0, none⟩ = some (.int .i64 7) ∧ wx.cell? ⟨g3, 1, none⟩ = some (.int .i64 256) ∧ wx.cell? ⟨g3, 2, none⟩ = some (.slice xa xn xc) ∧ wx.cell? ⟨g3, 3, none⟩ = some (.slice ya yn yc) ∧ wx.cell? ⟨g3, 4, none⟩ = some (.slice za zn zc) ∧ wx.cell? ⟨g3, 5, none⟩ = some (.slice ta tn tc))) (by kernel_rfl) (by rw [hWX]; exact ⟨HY.out.c 0 (by simp), HX.out.six⟩) (fun hHeld => ?_)
  refine wpAnyH_take (i := 0) (oi := { dst := some 15, op := Op.move (Operand.tmp 2), type := 29, pos := "outright.go:20", after := #[], guard := none }) (v := ?_) rfl (by kernel_rfl) (by kernel_rfl) (by kernel_rfl) (fun _ _ _ h => h) (Or.inl ⟨by rfl, ?_⟩) (by assumption) ?_
  rotate_left 1
  · intro w hSw; (try dsimp only at hSw); go_simp; try (with_reducible rfl)
  try simp only [Act.put, List.setIfInBounds_toArray, List.set_cons_zero, List.set_cons_succ]
  refine wpAnyH_take (i := 1) (oi := { dst := some 16, op := Op.binOp BinOp.eql 29 (Operand.tmp 15) (Operand.const (Value.int IntKind.i64 0)) 29, type := 4, pos := "outright.go:20", after := #[{ on := 0, ground := Ground.data }], guard := none }) (v := ?_) rfl (by kernel_rfl) (by kernel_rfl) (by kernel_rfl) (fun _ _ _ h => h) (Or.inl ⟨by rfl, ?_⟩) (by assumption) ?_
  rotate_left 1
  · intro w hSw; (try dsimp only at hSw); go_simp; try (with_reducible rfl)
  try simp only [Act.put, List.setIfInBounds_toArray, List.set_cons_zero, List.set_cons_succ]
  refine wpAnyH_take (i := 2) (oi := { dst := some 17, op := Op.move (Operand.tmp 16), type := 4, pos := "outright.go:20", after := #[{ on := 1, ground := Ground.data }], guard := none }) (v := ?_) rfl (by kernel_rfl) (by kernel_rfl) (by kernel_rfl) (fun _ _ _ h => h) (Or.inl ⟨by rfl, ?_⟩) (by assumption) ?_
  rotate_left 1
  · intro w hSw; (try dsimp only at hSw); go_simp; try (with_reducible rfl)
  try simp only [Act.put, List.setIfInBounds_toArray, List.set_cons_zero, List.set_cons_succ]
  refine wpAnyH_take (i := 3) (oi := { dst := some 18, op := Op.move (Operand.tmp 1), type := 28, pos := "outright.go:20", after := #[{ on := 2, ground := Ground.guard }], guard := some (2, true) }) (v := ?_) rfl (by kernel_rfl) (by kernel_rfl) (by kernel_rfl) (fun _ _ _ h => h) (Or.inl ⟨by rfl, ?_⟩) (by assumption) ?_
  rotate_left 1
  · intro w hSw; (try dsimp only at hSw); go_simp; try (with_reducible rfl)
  try simp only [Act.put, List.setIfInBounds_toArray, List.set_cons_zero, List.set_cons_succ]
  refine wpAnyH_ready (rs := [4]) (by kernel_rfl) (by simp) ?_
  refine AllReadyH.cons (o := { dst := some 19, op := Op.buildSlice 28 19 #[(0, Operand.const (Value.int IntKind.u8 0)), (1, Operand.const (Value.int IntKind.u8 7)), (2, Operand.const (Value.int IntKind.u8 1)), (3, Operand.const (Value.int IntKind.u8 0)), (4, Operand.const (Value.int IntKind.u8 0)), (5, Operand.const (Value.int IntKind.u8 1)), (6, Operand.const (Value.int IntKind.u8 0)), (7, Operand.const (Value.int IntKind.u8 0)), (8, Operand.const (Value.int IntKind.u8 0)), (9, Operand.const (Value.int IntKind.u8 0)), (10, Operand.const (Value.int IntKind.u8 0)), (11, Operand.const (Value.int IntKind.u8 0)), (12, Operand.const (Value.int IntKind.u8 1)), (13, Operand.const (Value.int IntKind.u8 97)), (14, Operand.const (Value.int IntKind.u8 0)), (15, Operand.const (Value.int IntKind.u8 0)), (16, Operand.const (Value.int IntKind.u8 1)), (17, Operand.const (Value.int IntKind.u8 0)), (18, Operand.const (Value.int IntKind.u8 1))], type := 28, pos := "outright.go:20", after := #[{ on := 2, ground := Ground.guard }], guard := some (2, true) }) rfl (fun K hK => ?_) (AllReadyH.nil)
  go_simp
  have hb : Below WX.heap.size WX (WX.alloc (.cells #[.int .u8 0, .int .u8 7, .int .u8 1, .int .u8 0, .int .u8 0, .int .u8 1, .int .u8 0, .int .u8 0, .int .u8 0, .int .u8 0, .int .u8 0, .int .u8 0, .int .u8 1, .int .u8 97, .int .u8 0, .int .u8 0, .int .u8 1, .int .u8 0, .int .u8 1] 5)) := (Below.refl _ _).alloc (Nat.le_refl _) _
  have HS := Lib.hid (show Sl (WX.alloc (.cells #[.int .u8 0, .int .u8 7, .int .u8 1, .int .u8 0, .int .u8 0, .int .u8 1, .int .u8 0, .int .u8 0, .int .u8 0, .int .u8 0, .int .u8 0, .int .u8 0, .int .u8 1, .int .u8 97, .int .u8 0, .int .u8 0, .int .u8 1, .int .u8 0, .int .u8 1] 5)) WX.heap.size (WX.heap.size + 1) (.slice (some ⟨WX.heap.size, 0, none⟩) 19 19) (iz ask0B) from lit_sl WX ask0B)
  replace HX := Lib.hid (HX.out.below (by simp) hb)
  replace HY := Lib.hid (HY.out.below (by simp) hb)
  replace HB := Lib.hid (bel_call HB.out hb)
  replace HO2 := Lib.hid (HO2.out.below hb)
  replace HM3 := Lib.hid (HM3.out.later hb)
  clear hb
  refine hK.out _ _ ⟨HY.out.c 0 (by simp), HX.out.six⟩ (fun hHeld => ?_)
  clear hK K
  try simp only [Act.put, List.setIfInBounds_toArray, List.set_cons_zero, List.set_cons_succ]
  refine wpAnyH_ready (rs := [5]) (by kernel_rfl) (by simp) ?_
  refine AllReadyH.cons (o := { dst := some 20, op := Op.call { callee := Callee.value (Operand.func 15), args := #[Operand.tmp 18, Operand.tmp 19], argTypes := #[28, 28] }, type := 4, pos := "outright.go:20", after := #[{ on := 3, ground := Ground.data }, { on := 4, ground := Ground.data }, { on := 2, ground := Ground.chain }, { on := 2, ground := Ground.guard }], guard := some (2, true) }) rfl (fun K hK => ?_) (AllReadyH.nil)
  go_simp
  refine (same_any HO2.out.sl HS.out).mono ?_; rintro e0 w5 ⟨rfl, rfl⟩
  try go_wp2_with fail
  refine hK.out _ _ ⟨HY.out.c 0 (by simp), HX.out.six⟩ (fun hHeld => ?_)
  clear hK K
  try simp only [Act.put, List.setIfInBounds_toArray, List.set_cons_zero, List.set_cons_succ]
  refine wpAnyH_take (i := 6) (oi := { dst := some 21, op := Op.pick (Operand.tmp 17) (Operand.tmp 20) (Operand.const (Value.bool false)), type := 4, pos := "outright.go:20", after := #[{ on := 2, ground := Ground.data }, { on := 5, ground := Ground.data }], guard := none }) (v := ?_) rfl (by kernel_rfl) (by kernel_rfl) (by kernel_rfl) (fun _ _ _ h => h) (Or.inl ⟨by rfl, ?_⟩) (by assumption) ?_
  rotate_left 1
  · intro w hSw; (try dsimp only at hSw); go_simp; try (with_reducible rfl)
  try simp only [Act.put, List.setIfInBounds_toArray, List.set_cons_zero, List.set_cons_succ]
  refine wpAnyH_take (i := 7) (oi := { dst := some 22, op := Op.move (Operand.tmp 21), type := 4, pos := "outright.go:20", after := #[{ on := 6, ground := Ground.data }, { on := 5, ground := Ground.chain }], guard := none }) (v := ?_) rfl (by kernel_rfl) (by kernel_rfl) (by kernel_rfl) (fun _ _ _ h => h) (Or.inl ⟨by rfl, ?_⟩) (by assumption) ?_
  rotate_left 1
  · intro w hSw; (try dsimp only at hSw); go_simp; try (with_reducible rfl)
  try simp only [Act.put, List.setIfInBounds_toArray, List.set_cons_zero, List.set_cons_succ]
  refine wpAnyH_take (i := 8) (oi := { dst := some 23, op := Op.fieldAddr 43 (Operand.tmp 4) 0, type := 0, pos := "outright.go:20", after := #[{ on := 7, ground := Ground.guard }], guard := some (7, true) }) (v := ?_) rfl (by kernel_rfl) (by kernel_rfl) (by kernel_rfl) (fun _ _ _ h => h) (Or.inl ⟨by rfl, ?_⟩) (by assumption) ?_
  rotate_left 1
  · intro w hSw; (try dsimp only at hSw); go_simp; try (with_reducible rfl)
  try simp only [Act.put, List.setIfInBounds_toArray, List.set_cons_zero, List.set_cons_succ]
  refine wpAnyH_take (i := 9) (oi := { dst := some 24, op := Op.load 29 (Operand.tmp 23), type := 29, pos := "outright.go:20", after := #[{ on := 8, ground := Ground.data }, { on := 7, ground := Ground.guard }], guard := some (7, true) }) (v := ?_) rfl (by kernel_rfl) (by kernel_rfl) (by kernel_rfl) (fun _ _ _ h => h) (Or.inl ⟨by rfl, ?_⟩) (by assumption) ?_
  rotate_left 1
  · intro w hSw; (try dsimp only at hSw); go_simp; try (with_reducible rfl)
  try simp only [Act.put, List.setIfInBounds_toArray, List.set_cons_zero, List.set_cons_succ]
  refine wpAnyH_take (i := 10) (oi := { dst := some 25, op := Op.binOp BinOp.eql 29 (Operand.tmp 24) (Operand.const (Value.int IntKind.i64 0)) 29, type := 4, pos := "outright.go:20", after := #[{ on := 9, ground := Ground.data }, { on := 7, ground := Ground.guard }], guard := some (7, true) }) (v := ?_) rfl (by kernel_rfl) (by kernel_rfl) (by kernel_rfl) (fun _ _ _ h => h) (Or.inl ⟨by rfl, ?_⟩) (by assumption) ?_
  rotate_left 1
  · intro w hSw; (try dsimp only at hSw); go_simp; try (with_reducible rfl)
  try simp only [Act.put, List.setIfInBounds_toArray, List.set_cons_zero, List.set_cons_succ]
  refine wpAnyH_take (i := 11) (oi := { dst := some 26, op := Op.pick (Operand.tmp 22) (Operand.tmp 25) (Operand.const (Value.bool false)), type := 4, pos := "outright.go:20", after := #[{ on := 7, ground := Ground.data }, { on := 10, ground := Ground.data }], guard := none }) (v := ?_) rfl (by kernel_rfl) (by kernel_rfl) (by kernel_rfl) (fun _ _ _ h => h) (Or.inl ⟨by rfl, ?_⟩) (by assumption) ?_
  rotate_left 1
  · intro w hSw; (try dsimp only at hSw); go_simp; try (with_reducible rfl)
  try simp only [Act.put, List.setIfInBounds_toArray, List.set_cons_zero, List.set_cons_succ]
  refine wpAnyH_take (i := 12) (oi := { dst := some 27, op := Op.move (Operand.tmp 26), type := 4, pos := "outright.go:20", after := #[{ on := 11, ground := Ground.data }, { on := 7, ground := Ground.chain }], guard := none }) (v := ?_) rfl (by kernel_rfl) (by kernel_rfl) (by kernel_rfl) (fun _ _ _ h => h) (Or.inl ⟨by rfl, ?_⟩) (by assumption) ?_
  rotate_left 1
  · intro w hSw; (try dsimp only at hSw); go_simp; try (with_reducible rfl)
  try simp only [Act.put, List.setIfInBounds_toArray, List.set_cons_zero, List.set_cons_succ]
  refine wpAnyH_take (i := 13) (oi := { dst := some 28, op := Op.load 25 (Operand.tmp 3), type := 25, pos := "outright.go:20", after := #[{ on := 12, ground := Ground.guard }], guard := some (12, true) }) (v := ?_) rfl (by kernel_rfl) (by kernel_rfl) (by kernel_rfl) (fun _ _ _ h => h) (Or.inl ⟨by rfl, ?_⟩) (by assumption) ?_
  rotate_left 1
  · intro w hSw; (try dsimp only at hSw); go_simp; try (with_reducible rfl)
  try simp only [Act.put, List.setIfInBounds_toArray, List.set_cons_zero, List.set_cons_succ]
  refine wpAnyH_ready (rs := [14]) (by kernel_rfl) (by simp) ?_
  refine AllReadyH.cons (o := { dst := some 29, op := Op.call { callee := Callee.value (Operand.func 35), args := #[], argTypes := #[] }, type := 25, pos := "outright.go:20", after := #[{ on := 12, ground := Ground.chain }, { on := 12, ground := Ground.guard }], guard := some (12, true) }) rfl (fun K hK => ?_) (AllReadyH.nil)
  go_simp
  refine (HAsk.out _).mono ?_; rintro e0 w6 ⟨v6, rfl, hm6, hb⟩
  have HM6 := Lib.hid hm6
  replace HX := Lib.hid (HX.out.below (by simp) hb)
  replace HY := Lib.hid (HY.out.below (by simp) hb)
  replace HB := Lib.hid (bel_call HB.out hb)
  replace HO2 := Lib.hid (HO2.out.below hb)
  replace HM3 := Lib.hid (HM3.out.later hb)
  clear hb hm6
  try go_wp2_with fail
  refine hK.out _ _ ⟨HY.out.c 0 (by simp), HX.out.six⟩ (fun hHeld => ?_)
  clear hK K
  try simp only [Act.put, List.setIfInBounds_toArray, List.set_cons_zero, List.set_cons_succ]
  refine wpAnyH_ready (rs := [15]) (by kernel_rfl) (by simp) ?_
  refine AllReadyH.cons (o := { dst := some 30, op := Op.call { callee := Callee.value (Operand.func 21), args := #[Operand.tmp 28, Operand.tmp 29], argTypes := #[25, 25] }, type := 4, pos := "outright.go:20", after := #[{ on := 13, ground := Ground.data }, { on := 14, ground := Ground.data }, { on := 14, ground := Ground.chain }, { on := 12, ground := Ground.guard }], guard := some (12, true) }) rfl (fun K hK => ?_) (AllReadyH.nil)
  go_simp
  refine (sameM_yes HM3.out HM6.out (Nat.le_refl _) (Nat.le_refl _)).mono ?_; rintro e0 w7 ⟨rfl, hb⟩
  replace HX := Lib.hid (HX.out.below (by simp) hb)
  replace HY := Lib.hid (HY.out.below (by simp) hb)
  replace HB := Lib.hid (bel_call HB.out hb)
  replace HO2 := Lib.hid (HO2.out.below hb)
  replace HM3 := Lib.hid (HM3.out.later hb)
  clear hb
  try go_wp2_with fail
  refine hK.out _ _ ⟨HY.out.c 0 (by simp), HX.out.six⟩ (fun hHeld => ?_)
  clear hK K
  try simp only [Act.put, List.setIfInBounds_toArray, List.set_cons_zero, List.set_cons_succ]
  refine wpAnyH_take (i := 16) (oi := { dst := some 31, op := Op.pick (Operand.tmp 27) (Operand.tmp 30) (Operand.const (Value.bool false)), type := 4, pos := "outright.go:20", after := #[{ on := 12, ground := Ground.data }, { on := 15, ground := Ground.data }], guard := none }) (v := ?_) rfl (by kernel_rfl) (by kernel_rfl) (by kernel_rfl) (fun _ _ _ h => h) (Or.inl ⟨by rfl, ?_⟩) (by assumption) ?_
  rotate_left 1
  · intro w hSw; (try dsimp only at hSw); go_simp; try (with_reducible rfl)
  try simp only [Act.put, List.setIfInBounds_toArray, List.set_cons_zero, List.set_cons_succ]
  refine wpAnyH_take (i := 17) (oi := { dst := some 0, op := Op.assign (Operand.tmp 31), type := 4, pos := "outright.go:20", after := #[{ on := 16, ground := Ground.data }, { on := 15, ground := Ground.chain }, { on := 0, ground := Ground.phase }, { on := 1, ground := Ground.phase }, { on := 2, ground := Ground.phase }, { on := 3, ground := Ground.phase }, { on := 4, ground := Ground.phase }, { on := 5, ground := Ground.phase }, { on := 6, ground := Ground.phase }, { on := 7, ground := Ground.phase }, { on := 8, ground := Ground.phase }, { on := 9, ground := Ground.phase }, { on := 10, ground := Ground.phase }, { on := 11, ground := Ground.phase }, { on := 12, ground := Ground.phase }, { on := 13, ground := Ground.phase }, { on := 14, ground := Ground.phase }, { on := 15, ground := Ground.phase }, { on := 16, ground := Ground.phase }], guard := none }) (v := ?_) rfl (by kernel_rfl) (by kernel_rfl) (by kernel_rfl) (fun _ _ _ h => h) (Or.inl ⟨by rfl, ?_⟩) (by assumption) ?_
  rotate_left 1
  · intro w hSw; (try dsimp only at hSw); go_simp; try (with_reducible rfl)
  try simp only [Act.put, List.setIfInBounds_toArray, List.set_cons_zero, List.set_cons_succ]
  refine wpAnyH_done (by kernel_rfl) ?_ _
  clear hHeld
  go_wp2_with fail
  go_ret
  exact ⟨rfl, HB.out⟩
end Go.Proofs.YtdikgjbpjdnodaaGreat

/-
  The bare answer: Reply, and its flags.
-/
namespace Go.Proofs.YtdikgjbpjdnodaaGreat
open Go.RowKit Go.Shelf
set_option linter.unusedVariables false
set_option linter.unusedSimpArgs false
set_option maxRecDepth 100000

/-- The answer while questions are being taken over. -/
structure Rp (w wr : World) (N : Nat) (i f : Int) (qv : Value) (l : List Qn) : Prop where
  bel : Below N w wr
  z : Cel wr (N + 1) [.int .i64 0, .int .i64 0, .slice none 0 0, .slice none 0 0, .slice none 0 0, .slice none 0 0]
  r : Cel wr (N + 2) [.int .i64 i, .int .i64 f, qv, .slice none 0 0, .slice none 0 0, .slice none 0 0]
  own : OwnQn wr (N + 3) qv l
  size : N + 3 ≤ wr.heap.size

section
variable {w wr w' : World} {N : Nat} {i f : Int} {qv : Value} {l : List Qn}
theorem Rp.later (h : Rp w wr N i f qv l) (hb : Below wr.heap.size wr w') : Rp w w' N i f qv l :=
  ⟨below_aside h.bel (Aside.of_all hb : Aside (fun _ => False) wr w') (fun k hk => ⟨by have := h.size; omega, id⟩), h.z.below (by simp) hb, h.r.below (by simp) hb, row_below h.own hb, Nat.le_trans h.size hb.size⟩
theorem Rp.aside {b : Nat} (h : Rp w wr N i f qv l) (ha : Aside (fun k => k = b) wr w') (hb : N + 3 ≤ b) (ho : ∀ k, qv.ownBlock = some k → k ≠ b) : Rp w w' N i f qv l :=
  ⟨below_aside h.bel ha (fun k hk => ⟨by have := h.size; omega, by omega⟩), h.z.aside (by simp) ha (by omega), h.r.aside (by simp) ha (by omega), row_aside h.own ha ho, Nat.le_trans h.size ha.size⟩
/-- A question is laid behind the others. -/
theorem Rp.app (h : Rp w wr N i f qv l) {hi : Nat} {u : Value} {x : Qn} (hx : SQ wr hi u [x]) (hl : l.length + 1 ≤ 1000000) :
    ∃ a c w6, (Builtin.append_ #[22, 22] 22 #[qv, u]).run Tryz.prog wr = .ok (.slice a (l.length + 1) c) w6 ∧ w6.frozen? ⟨N + 2, 2, none⟩ = false ∧ w6.cell? ⟨N + 2, 2, none⟩ = some qv ∧
      Rp w (w6.setCell ⟨N + 2, 2, none⟩ (.slice a (l.length + 1) c)) N i f (.slice a (l.length + 1) c) (l ++ [x]) ∧ (∀ b, (Value.slice a (l.length + 1) c).ownBlock = some b → qv.ownBlock = some b ∨ wr.heap.size ≤ b) := by
  obtain ⟨a, c, w6, h1, h2, h3, h4⟩ := run_appQn h.own hx hl h.size
  simp only [List.length_singleton] at h1 h2 h4
  have hlt := World.ownsRow.lt h.own
  have hG : ∀ k, k < N + 3 → ¬ qv.ownBlock = some k := fun k hk hg => by have := (hlt k hg).1; omega
  have z6 := h.z.aside (by simp) h3 (hG _ (by omega))
  have r6 := h.r.aside (by simp) h3 (hG _ (by omega))
  have hs := Nat.le_trans h.size h3.size
  have hst : Aside (fun k => k = N + 2) w6 (w6.setCell ⟨N + 2, 2, none⟩ (.slice a (l.length + 1) c)) := Aside.setCell w6 (p := ⟨N + 2, 2, none⟩) _ rfl
  refine ⟨a, c, w6, h1, r6.fz 2, r6.c 2 (by simp), ⟨?_, z6.other (a := ⟨N + 2, 2, none⟩) (by show N + 2 ≠ N + 1; omega) _, r6.set (o := 2) (by simp) _, row_aside h2 hst fun k hk hg => by have := (World.ownsRow.lt h2 k hk).1; omega, Nat.le_trans hs hst.size⟩, fun b hb => ?_⟩
  · exact below_aside (below_aside h.bel h3 (fun k hk => ⟨by have := h.size; omega, hG k (by omega)⟩)) hst (fun k hk => ⟨by omega, by omega⟩)
  · rcases h4 with h4 | h4
    · exact .inl (by rw [← h4]; exact hb)
    · right
      rw [h4] at hb
      injection hb with hb
      omega
end

section
variable {w : World} {q : Nat} {a0 a1 a2 a3 a4 a5 : Value}
/-- Six cells stored one after another. -/
def put6 (w : World) (q : Nat) (b0 b1 b2 b3 b4 b5 : Value) : World :=
  (((((w.setCell ⟨q, 0, none⟩ b0).setCell ⟨q, 1, none⟩ b1).setCell ⟨q, 2, none⟩ b2).setCell ⟨q, 3, none⟩ b3).setCell ⟨q, 4, none⟩ b4).setCell ⟨q, 5, none⟩ b5
theorem cel_put6 (h : Cel w q [a0, a1, a2, a3, a4, a5]) (b0 b1 b2 b3 b4 b5 : Value) : Cel (put6 w q b0 b1 b2 b3 b4 b5) q [b0, b1, b2, b3, b4, b5] := by
  have := (((((h.set (o := 0) (by simp) b0).set (o := 1) (by simp) b1).set (o := 2) (by simp) b2).set (o := 3) (by simp) b3).set (o := 4) (by simp) b4).set (o := 5) (by simp) b5
  simp only [List.set_cons_zero, List.set_cons_succ] at this
  exact this
theorem aside_put6 (w : World) (q : Nat) (b0 b1 b2 b3 b4 b5 : Value) : Aside (fun k => k = q) w (put6 w q b0 b1 b2 b3 b4 b5) := by
  have st : ∀ (x : World) (o : Nat) (v : Value), Aside (fun k => k = q) x (x.setCell ⟨q, o, none⟩ v) := fun x o v => Aside.setCell x (p := ⟨q, o, none⟩) v rfl
  exact (((((st _ _ _).trans (st _ _ _)).trans (st _ _ _)).trans (st _ _ _)).trans (st _ _ _)).trans (st _ _ _)
end

theorem row_base {w : World} {B B' k n : Nat} {e : TypeId} {v : Value} {xs : List Value} (h : w.ownsRow B e k v n xs) (hB : B' ≤ B) : w.ownsRow B' e k v n xs := by
  refine ⟨h.1, ?_⟩
  rcases h.2 with h2 | ⟨g, cap, cur, h2⟩
  · exact .inl h2
  · exact .inr ⟨g, cap, cur, h2.1, Nat.le_trans hB h2.2.1, h2.2.2⟩

end Go.Proofs.YtdikgjbpjdnodaaGreat

/-
  Questions and records copied with room to spare; that room is as it was.
-/
namespace Go.Proofs.YtdikgjbpjdnodaaGreat
open Go.RowKit Go.Shelf
set_option linter.unusedVariables false
set_option linter.unusedSimpArgs false
set_option maxRecDepth 100000

/-- The marks. -/
def qmark : Qn := ⟨[], 7, 0⟩
def rmark : Rc := ⟨[], 7, 0, 0, []⟩
/-- A copy with a mark behind it. -/
def CpQ (w : World) (B : Nat) (v : Value) (l : List Qn) : Prop := ∃ a c, v = .slice a l.length c ∧ OwnQn w B (.slice a (l.length + 1) c) (l ++ [qmark])
def CpR (w : World) (B : Nat) (v : Value) (l : List Rc) : Prop := ∃ a c, v = .slice a l.length c ∧ OwnRc w B (.slice a (l.length + 1) c) (l ++ [rmark])
theorem own_cut (a : Option Addr) (n m c : Nat) : (Value.slice a n c).ownBlock = (Value.slice a m c).ownBlock := by cases a <;> rfl
section
variable {w w' : World} {B : Nat} {v : Value}
theorem CpQ.below {l : List Qn} (h : CpQ w B v l) (hb : Below w.heap.size w w') : CpQ w' B v l := by
  obtain ⟨a, c, rfl, h1⟩ := h
  exact ⟨a, c, rfl, row_below h1 hb⟩
theorem CpR.below {l : List Rc} (h : CpR w B v l) (hb : Below w.heap.size w w') : CpR w' B v l := by
  obtain ⟨a, c, rfl, h1⟩ := h
  exact ⟨a, c, rfl, row_below h1 hb⟩
theorem CpQ.base {B' : Nat} {l : List Qn} (h : CpQ w B v l) (hB : B' ≤ B) : CpQ w B' v l := by
  obtain ⟨a, c, rfl, h1⟩ := h
  exact ⟨a, c, rfl, row_base h1 hB⟩
theorem CpR.base {B' : Nat} {l : List Rc} (h : CpR w B v l) (hB : B' ≤ B) : CpR w B' v l := by
  obtain ⟨a, c, rfl, h1⟩ := h
  exact ⟨a, c, rfl, row_base h1 hB⟩
theorem CpQ.aside {G : Nat → Prop} {l : List Qn} (h : CpQ w B v l) (ha : Aside G w w') (hG : ∀ k, v.ownBlock = some k → ¬ G k) : CpQ w' B v l := by
  obtain ⟨a, c, rfl, h1⟩ := h
  exact ⟨a, c, rfl, row_aside h1 ha fun k hk => hG k (by rw [own_cut a _ (l.length + 1)]; exact hk)⟩
theorem CpR.aside {G : Nat → Prop} {l : List Rc} (h : CpR w B v l) (ha : Aside G w w') (hG : ∀ k, v.ownBlock = some k → ¬ G k) : CpR w' B v l := by
  obtain ⟨a, c, rfl, h1⟩ := h
  exact ⟨a, c, rfl, row_aside h1 ha fun k hk => hG k (by rw [own_cut a _ (l.length + 1)]; exact hk)⟩
theorem CpQ.lt {l : List Qn} (h : CpQ w B v l) : ∀ k, v.ownBlock = some k → B ≤ k ∧ k < w.heap.size := by
  obtain ⟨a, c, rfl, h1⟩ := h
  exact fun k hk => World.ownsRow.lt h1 k (by rw [own_cut a _ l.length]; exact hk)
theorem CpR.lt {l : List Rc} (h : CpR w B v l) : ∀ k, v.ownBlock = some k → B ≤ k ∧ k < w.heap.size := by
  obtain ⟨a, c, rfl, h1⟩ := h
  exact fun k hk => World.ownsRow.lt h1 k (by rw [own_cut a _ l.length]; exact hk)
theorem CpQ.sq {l : List Qn} (h : CpQ w B v l) (hl : l.length ≤ 900000) : SQ w w.heap.size v l := by
  obtain ⟨a, c, rfl, h1⟩ := h
  have h2 := Lst.own h1 (by rw [List.length_append, List.length_singleton]; omega)
  rw [List.length_append, List.length_singleton, acq_app] at h2
  exact Lst.part h2 (by omega)
theorem CpR.sr {l : List Rc} (h : CpR w B v l) (hl : l.length ≤ 900000) : SR w w.heap.size v l := by
  obtain ⟨a, c, rfl, h1⟩ := h
  have h2 := Lst.own h1 (by rw [List.length_append, List.length_singleton]; omega)
  rw [List.length_append, List.length_singleton, acr_app] at h2
  exact Lst.part h2 (by omega)
end

/-- make, and what comes of it. -/
theorem make_qn (w : World) (n : Nat) (hn : n ≤ 900000) : ∃ w', (Instr.makeSlice 22 (.int .i64 0) (.int .i64 ((n : Int) + 2))).run Tryz.prog w = .ok (.slice (some ⟨w.heap.size, 0, none⟩) 0 (n + 2)) w' ∧ OwnQn w' w.heap.size (.slice (some ⟨w.heap.size, 0, none⟩) 0 (n + 2)) [] ∧ Below w.heap.size w w' := by
  obtain ⟨i0, hi, hz0, hz1, hz2⟩ := info_parts info_qn
  obtain ⟨w', h1, h2, h3⟩ := run_makeSlice_owned (P := Tryz.prog) (w := w) w.heap.size 22 56 i0 _ 3 Tryz.underlying22 hi hz0 hz1 .i64 .i64 (n + 2) (by omega) (by rw [hz2]; omega) (by unfold maxLen; omega) (Nat.le_refl _)
  exact ⟨w', by rw [show ((n : Int) + 2) = ((n + 2 : Nat) : Int) by omega]; exact h1, h2, (Aside.grown h3 (G := fun _ => False) fun _ h => by simp at h).below fun k hk => ⟨hk, id⟩⟩
theorem make_rc (w : World) (n : Nat) (hn : n ≤ 900000) : ∃ w', (Instr.makeSlice 23 (.int .i64 0) (.int .i64 ((n : Int) + 2))).run Tryz.prog w = .ok (.slice (some ⟨w.heap.size, 0, none⟩) 0 (n + 2)) w' ∧ OwnRc w' w.heap.size (.slice (some ⟨w.heap.size, 0, none⟩) 0 (n + 2)) [] ∧ Below w.heap.size w w' := by
  obtain ⟨i0, hi, hz0, hz1, hz2⟩ := info_parts info_rc
  obtain ⟨w', h1, h2, h3⟩ := run_makeSlice_owned (P := Tryz.prog) (w := w) w.heap.size 23 78 i0 _ 5 Tryz.underlying23 hi hz0 hz1 .i64 .i64 (n + 2) (by omega) (by rw [hz2]; omega) (by unfold maxLen; omega) (Nat.le_refl _)
  exact ⟨w', by rw [show ((n : Int) + 2) = ((n + 2 : Nat) : Int) by omega]; exact h1, h2, (Aside.grown h3 (G := fun _ => False) fun _ h => by simp at h).below fun k hk => ⟨hk, id⟩⟩
/-- A row's first entries, and one more than a slice has. -/
theorem size_qn (wx : World) : (sizeOf (Tryz.prog.elem 22)).run Tryz.prog wx = .ok 3 wx := by kernel_rfl
theorem size_rc (wx : World) : (sizeOf (Tryz.prog.elem 23)).run Tryz.prog wx = .ok 5 wx := by kernel_rfl
theorem cut_qn (a : Option Addr) (n m c : Nat) (hm : m ≤ c) (wx : World) : (Instr.slice 22 (.slice a n c) none (some (.int .i64 m)) none).run Tryz.prog wx = .ok (.slice a m c) wx := by
  rw [run_slice_h (P := Tryz.prog) wx 22 a n c Tryz.underlying22 .i64 m (by omega) (by omega), size_qn]
  show Result.ok (sliced a 0 m c 3) wx = _
  unfold sliced
  by_cases h0 : c = 0
  · rw [if_pos h0, Nat.sub_zero, Nat.sub_zero]
  · rw [if_neg h0, Nat.sub_zero, Nat.sub_zero]
    cases a with
    | none => rfl
    | some x => simp [Addr.add]
theorem cut_rc (a : Option Addr) (n m c : Nat) (hm : m ≤ c) (wx : World) : (Instr.slice 23 (.slice a n c) none (some (.int .i64 m)) none).run Tryz.prog wx = .ok (.slice a m c) wx := by
  rw [run_slice_h (P := Tryz.prog) wx 23 a n c Tryz.underlying23 .i64 m (by omega) (by omega), size_rc]
  show Result.ok (sliced a 0 m c 5) wx = _
  unfold sliced
  by_cases h0 : c = 0
  · rw [if_pos h0, Nat.sub_zero, Nat.sub_zero]
  · rw [if_neg h0, Nat.sub_zero, Nat.sub_zero]
    cases a with
    | none => rfl
    | some x => simp [Addr.add]
theorem row_cap {w : World} {B k n : Nat} {e : TypeId} {a : Option Addr} {m c : Nat} {xs : List Value} (h : w.ownsRow B e k (.slice a m c) n xs) : n ≤ c := by
  rcases h.2 with ⟨h2, h0⟩ | ⟨g, cap, cur, h2, _, _, h3, _⟩
  · omega
  · injection h2 with _ _ h2
    omega

set_option maxHeartbeats 2000000 in
theorem copyR_any {w : World} {hi : Nat} {u : Value} {l : List Rc} (h : SR w hi u l) (h1 : hi ≤ w.heap.size) (hl : l.length ≤ 900000) :
    Calls Tryz.prog 36 #[u] w (fun e w' => ∃ v, e = .returned v ∧ CpR w' w.heap.size v l ∧ Below w.heap.size w w') := by
  obtain ⟨w1, hmk, ho1, hb1⟩ := make_rc w l.length hl
  have hu1 : SR w1 hi u l := Lst.below h hb1 h1
  obtain ⟨a2, c2, w2, hr2, ho2, ha2, hk2⟩ := run_appRc ho1 hu1 (by simp; omega) hb1.size
  simp only [List.length_nil, Nat.zero_add, List.nil_append] at hr2 ho2
  have hl1 := World.ownsRow.lt ho1
  have hb2 : Below w.heap.size w w2 := below_aside hb1 ha2 (fun k hk => ⟨Nat.lt_of_lt_of_le hk hb1.size, fun hg => by have := (hl1 k hg).1; omega⟩)
  have hone := sr_one w2 rmark
  have hb3 : Below w.heap.size w (w2.alloc (.cells #[.string (bs rmark.n), .int .i64 rmark.t, .int .i64 rmark.c, .int .i64 rmark.l, .string (bs rmark.d)] 78)) := bel_alloc hb2 _
  obtain ⟨a4, c4, w4, hr4, ho4, ha4, _⟩ := run_appRc (World.ownsRow.alloc ho2 _ : OwnRc (w2.alloc (.cells #[.string (bs rmark.n), .int .i64 rmark.t, .int .i64 rmark.c, .int .i64 rmark.l, .string (bs rmark.d)] 78)) _ _ _) hone (by simp; omega) hb3.size
  simp only [List.length_singleton] at hr4 ho4
  have hl2 := World.ownsRow.lt ho2
  have hb4 : Below w.heap.size w w4 := below_aside hb3 ha4 (fun k hk => ⟨Nat.lt_of_lt_of_le hk hb3.size, fun hg => by have := (hl2 k hg).1; omega⟩)
  have hcut := cut_rc a4 (l.length + 1) l.length c4 (by have := row_cap ho4; rw [List.length_append, List.length_singleton] at this; omega)
  have HO := Lib.hid (show CpR w4 w.heap.size (.slice a4 l.length c4) l from ⟨_, _, rfl, ho4⟩)
  have HB := Lib.hid hb4
  have HR2 := Lib.hid hr2
  have HR4 := Lib.hid hr4
  have HLN := Lib.hid hl
  obtain ⟨a, c, rfl⟩ := Lst.shape h
  obtain ⟨n, hn⟩ : ∃ n, l.length = n := ⟨_, rfl⟩
  rw [hn] at HO HR2 HR4 hcut hmk HLN ⊢
  clear h h1 hl ho1 hb1 hu1 hr2 ho2 ha2 hk2 hl1 hb2 hone hb3 hr4 ho4 ha4 hl2 hb4
  have hn2 := HLN.out
  go_enter Tryz.func36, Tryz.ntmps36
  go_wp2_with (first | (at_builtin; refine wpList_append_run (.tmp 6) (.tmp 7) 23 23 rfl rfl rfl rfl HR2.out ?_) | (at_builtin; refine wpList_append_run (.tmp 8) (.tmp 10) 23 23 rfl rfl rfl rfl HR4.out ?_))
  go_ret
  exact ⟨_, rfl, HO.out, HB.out⟩
end Go.Proofs.YtdikgjbpjdnodaaGreat

/-
  The room behind copied records is as it was.
-/
namespace Go.Proofs.YtdikgjbpjdnodaaGreat
open Go.RowKit Go.Shelf
set_option linter.unusedVariables false
set_option linter.unusedSimpArgs false
set_option maxRecDepth 100000

theorem CpR.spot {w : World} {B : Nat} {v : Value} {l : List Rc} (h : CpR w B v l) : ∃ g c, v = .slice (some ⟨g, 0, none⟩) l.length c ∧ l.length + 1 ≤ c ∧ w.cell? ⟨g, l.length * 5 + 1, none⟩ = some (.int .i64 7) := by
  obtain ⟨a, c, rfl, h1⟩ := h
  have hc := row_cap h1
  rw [List.length_append, List.length_singleton] at hc
  have hcells := fun g hg => World.ownsRow.cells h1 (g := g) hg
  rcases h1.2 with ⟨_, h0⟩ | ⟨g, cap, cur, h2, _⟩
  · simp at h0
  · injection h2 with h2 h3 h4
    subst h2
    refine ⟨g, c, rfl, hc, ?_⟩
    have := hcells g rfl (l.length * 5 + 1) (.int .i64 7) (by
      rw [acr_app, List.getElem?_append_right (by rw [acr_len]; omega), acr_len, Nat.add_sub_cancel_left]
      rfl)
    rw [WideShapes.add_plain, Nat.zero_add] at this
    exact this
theorem CpQ.spot {w : World} {B : Nat} {v : Value} {l : List Qn} (h : CpQ w B v l) : ∃ g c, v = .slice (some ⟨g, 0, none⟩) l.length c ∧ l.length + 1 ≤ c ∧ w.cell? ⟨g, l.length * 3 + 1, none⟩ = some (.int .i64 7) := by
  obtain ⟨a, c, rfl, h1⟩ := h
  have hc := row_cap h1
  rw [List.length_append, List.length_singleton] at hc
  have hcells := fun g hg => World.ownsRow.cells h1 (g := g) hg
  rcases h1.2 with ⟨_, h0⟩ | ⟨g, cap, cur, h2, _⟩
  · simp at h0
  · injection h2 with h2 h3 h4
    subst h2
    refine ⟨g, c, rfl, hc, ?_⟩
    have := hcells g rfl (l.length * 3 + 1) (.int .i64 7) (by
      rw [acq_app, List.getElem?_append_right (by rw [acq_len]; omega), acq_len, Nat.add_sub_cancel_left]
      rfl)
    rw [WideShapes.add_plain, Nat.zero_add] at this
    exact this

set_option maxHeartbeats 2000000 in
theorem keptR_any {w : World} {B : Nat} {v : Value} {l : List Rc} (h : CpR w B v l) (hl : l.length ≤ 900000) : Calls Tryz.prog 48 #[v] w fun e w' => e = .returned (.bool true) ∧ w = w' := by
  obtain ⟨g, c, rfl, hc, h7⟩ := h.spot
  obtain ⟨n, hn⟩ : ∃ n, l.length = n := ⟨_, rfl⟩
  rw [hn] at hc h7 hl ⊢
  clear h hn
  have hcut : ∀ wx, (Instr.slice 23 (.slice (some ⟨g, 0, none⟩) n c) none (some (.int .i64 ((n : Int) + 1))) none).run Tryz.prog wx = .ok (.slice (some ⟨g, 0, none⟩) (n + 1) c) wx := fun wx => by
    rw [show ((n : Int) + 1) = ((n + 1 : Nat) : Int) by omega]
    exact cut_rc _ n (n + 1) c hc wx
  have e1 : ((n + 1 : Nat) : Int) - 1 = n := by omega
  have e2 : ((n : Int) + 1) - 1 = n := by omega
  go_enter Tryz.func48, Tryz.ntmps48
  go_wp2
  go_ret
  exact ⟨rfl, rfl⟩
/-- A message's copy, with marks behind its lists. -/
def CpM (w : World) (B : Nat) (v : Value) (m : Ms) : Prop := ∃ q a n r, v = .agg #[.int .i64 m.id, .int .i64 m.fl, q, a, n, r] ∧ CpQ w B q m.q ∧ CpR w B a m.an ∧ CpR w B n m.ns ∧ CpR w B r m.ar
theorem CpM.below {w w' : World} {B : Nat} {v : Value} {m : Ms} (h : CpM w B v m) (hb : Below w.heap.size w w') : CpM w' B v m := by
  obtain ⟨q, a, n, r, rfl, h1, h2, h3, h4⟩ := h
  exact ⟨q, a, n, r, rfl, h1.below hb, h2.below hb, h3.below hb, h4.below hb⟩
theorem CpM.mg {w : World} {B : Nat} {v : Value} {m : Ms} (h : CpM w B v m) (hl : m.q.length + m.an.length + m.ns.length + m.ar.length ≤ 900000) : Mg w w.heap.size v m := by
  obtain ⟨q, a, n, r, rfl, h1, h2, h3, h4⟩ := h
  exact ⟨q, a, n, r, rfl, h1.sq (by omega), h2.sr (by omega), h3.sr (by omega), h4.sr (by omega)⟩

set_option maxHeartbeats 4000000 in
theorem keptM_any {w : World} {B hi : Nat} {u v : Value} {m : Ms} (h : CpM w B u m) (h2 : Mg w hi v m) (h1 : hi ≤ w.heap.size) (hl : m.q.length + m.an.length + m.ns.length + m.ar.length ≤ 900000) :
    Calls Tryz.prog 17 #[u, v] w (Tells w (.bool true)) := by
  have HMG := Lib.hid (h.mg hl)
  have HM2 := Lib.hid (h2.wide h1)
  obtain ⟨q, a, n, r, rfl, cq, ca, cn, cr⟩ := h
  obtain ⟨q', a', n', r', rfl, hq, ha, hn, hr⟩ := h2
  obtain ⟨qa, qc, rfl⟩ := Lst.shape hq
  obtain ⟨aa, ac, rfl⟩ := Lst.shape ha
  obtain ⟨na, nc, rfl⟩ := Lst.shape hn
  obtain ⟨ra, rc, rfl⟩ := Lst.shape hr
  have HCA := Lib.hid (fun wx (hb : Below w.heap.size w wx) => keptR_any (ca.below hb) (by omega))
  have HCN := Lib.hid (fun wx (hb : Below w.heap.size w wx) => keptR_any (cn.below hb) (by omega))
  have HCR := Lib.hid (fun wx (hb : Below w.heap.size w wx) => keptR_any (cr.below hb) (by omega))
  obtain ⟨g, c, rfl, hc, h7⟩ := cq.spot
  obtain ⟨a1, c1, rfl, _⟩ := ca
  obtain ⟨a2, c2, rfl, _⟩ := cn
  obtain ⟨a3, c3, rfl, _⟩ := cr
  obtain ⟨i0, hi0⟩ : ∃ i, m.id = i := ⟨_, rfl⟩
  obtain ⟨f0, hf0⟩ : ∃ i, m.fl = i := ⟨_, rfl⟩
  obtain ⟨lq, hlq⟩ : ∃ i, m.q.length = i := ⟨_, rfl⟩
  obtain ⟨la, hla⟩ : ∃ i, m.an.length = i := ⟨_, rfl⟩
  obtain ⟨ln, hln⟩ : ∃ i, m.ns.length = i := ⟨_, rfl⟩
  obtain ⟨lr, hlr⟩ : ∃ i, m.ar.length = i := ⟨_, rfl⟩
  rw [hi0, hf0, hlq, hla, hln, hlr] at HMG HM2
  rw [hi0, hf0, hlq, hla, hln, hlr]
  rw [hlq] at hc h7
  rw [hla] at HCA
  rw [hln] at HCN
  rw [hlr] at HCR
  rw [hlq, hla, hln, hlr] at hl
  have hcut : ∀ wx, (Instr.slice 22 (.slice (some ⟨g, 0, none⟩) lq c) none (some (.int .i64 ((lq : Int) + 1))) none).run Tryz.prog wx = .ok (.slice (some ⟨g, 0, none⟩) (lq + 1) c) wx := fun wx => by
    rw [show ((lq : Int) + 1) = ((lq + 1 : Nat) : Int) by omega]
    exact cut_qn _ lq (lq + 1) c hc wx
  have e1 : ((lq + 1 : Nat) : Int) - 1 = lq := by omega
  have e2 : ((lq : Int) + 1) - 1 = lq := by omega
  have hb0 : Below w.heap.size w ((w.alloc (.cells #[.int .i64 i0, .int .i64 f0, .slice (some ⟨g, 0, none⟩) lq c, .slice a1 la c1, .slice a2 ln c2, .slice a3 lr c3] 25)).alloc (.cells #[.int .i64 i0, .int .i64 f0, .slice qa lq qc, .slice aa la ac, .slice na ln nc, .slice ra lr rc] 25)) := ((Below.refl _ _).alloc (Nat.le_refl _) _).alloc (by simp) _
  obtain ⟨N, hN⟩ : ∃ N, w.heap.size = N := ⟨_, rfl⟩
  have hx := (cel_new6 w (.int .i64 i0) (.int .i64 f0) (.slice (some ⟨g, 0, none⟩) lq c) (.slice a1 la c1) (.slice a2 ln c2) (.slice a3 lr c3) 25).below (by simp) ((Below.refl _ _).alloc (Nat.le_refl _) (.cells #[.int .i64 i0, .int .i64 f0, .slice qa lq qc, .slice aa la ac, .slice na ln nc, .slice ra lr rc] 25))
  rw [hN] at hx
  have hgl : g < w.heap.size := World.block_lt_of_cell? w _ h7
  have HX := Lib.hid hx
  have HB := Lib.hid hb0
  have H7 := Lib.hid h7
  have HGL := Lib.hid hgl
  replace HMG := Lib.hid (HMG.out.later hb0)
  replace HM2 := Lib.hid (HM2.out.later hb0)
  clear hx hb0 h7 hgl hq ha hn hr h1 cq hi0 hf0 hlq hla hln hlr
  go_enter Tryz.func17, Tryz.ntmps17
  go_wp2_with fail
  refine (sameM_yes HMG.out HM2.out (Nat.le_refl _) (Nat.le_refl _)).mono ?_; rintro e w1 ⟨rfl, hb⟩
  replace HB := Lib.hid (bel_call HB.out hb)
  replace HX := Lib.hid (HX.out.below (by simp) hb)
  have k7 : w1.cell? ⟨g, lq * 3 + 1, none⟩ = some (.int .i64 7) := (HB.out.cell (p := ⟨g, lq * 3 + 1, none⟩) HGL.out).trans H7.out
  obtain ⟨c0, d1, d2, d3, d4, d5⟩ := HX.out.six
  clear hb
  go_wp2_with fail
  refine (HCA.out _ HB.out).mono ?_; rintro e w2 ⟨rfl, rfl⟩
  go_wp2_with fail
  refine (HCN.out _ HB.out).mono ?_; rintro e w2 ⟨rfl, rfl⟩
  go_wp2_with fail
  refine (HCR.out _ HB.out).mono ?_; rintro e w2 ⟨rfl, rfl⟩
  go_wp2_with fail
  go_ret
  exact ⟨rfl, HB.out⟩
end Go.Proofs.YtdikgjbpjdnodaaGreat

/-
  A region whose loads are fixed by what holds till its last operation, a store, comes up.
-/
namespace Go.Proofs.YtdikgjbpjdnodaaGreat
open Go.RowKit Go.Shelf
set_option linter.unusedVariables false
set_option linter.unusedSimpArgs false

section
variable {P : Program} {md : Region.Mode} {ops : Array Oper} {Q : Exit → Act → World → Prop} {S : World → Prop} {k : Nat}

/-- In whatever order; S holds behind each operation but number k. -/
def Till (P : Program) (md : Region.Mode) (ops : Array Oper) (Q : Exit → Act → World → Prop) (S : World → Prop) (k : Nat) (n : Nat) (l : Array Bool) (a : Act) (w : World) : Prop :=
  match n with
  | 0 => Region.ready md ops l = [] ∧ Q .normal a w
  | n + 1 => (Region.ready md ops l = [] → Q .normal a w) ∧ ∀ i, i ∈ Region.ready md ops l → wpOp P ops Q i (fun a' w' => (i ≠ k → S w') ∧ Till P md ops Q S k n (l.setIfInBounds i true) a' w') a w

theorem Till.any (n : Nat) : ∀ (l : Array Bool) (a : Act) (w : World), Till P md ops Q S k n l a w → wpAny P md ops Q n l a w := by
  induction n with
  | zero => exact fun _ _ _ h => h
  | succ n ih => exact fun l a w h => ⟨h.1, fun i hi => wpOp_mono (fun a' w' hh => ih _ a' w' hh.2) (h.2 i hi)⟩

/-- While i has not come up, nothing that waits for it may. -/
theorem not_ready {i j : Nat} {l : Array Bool} (hi : i ∈ Region.ready md ops l) {o : Oper} (ho : ops[j]? = some o) (hj : j ∈ Region.ready md ops l) {e : Edge} (he : e ∈ o.after) (hb : Region.binds md e = true) : e.on ≠ i := by
  rintro rfl
  obtain ⟨_, o', ho', hall⟩ := mem_ready.1 hj
  obtain rfl : o = o' := by rw [ho] at ho'; exact Option.some.inj ho'
  have h1 := hall e he hb
  have h0 := (mem_ready.1 hi).1
  by_cases hs : e.on < l.size
  · simp only [Array.getD, hs, dite_true] at h0 h1
    rw [h0] at h1
    cases h1
  · simp only [Array.getD, hs, dite_false] at h1
    cases h1

/-- What yields the same wherever S holds may be taken first, if number k waits for it. -/
theorem till_first {i : Nat} {oi ok : Oper} {v : Value} (hi : ops[i]? = some oi) (hk : ops[k]? = some ok) {e : Edge} (he : e ∈ ok.after) (hbe : Region.binds md e = true) (hei : e.on = i) (hns : Region.noSelect ops = true)
    (hQ : ∀ c a w, Q (.panic c) (a.put oi.dst v) w → Q (.panic c) a w) (n : Nat) : ∀ (l : Array Bool) (a : Act) (w : World),
      (∀ j oj, ops[j]? = some oj → j ≠ i → l.getD j true = false → (∀ e ∈ oj.after, Region.binds md e = true → e.on ≠ i) → oi.apart ops oj = true) →
      i ∈ Region.ready md ops l → YieldsIf P ops S oi v a → S w → Till P md ops Q S k n (l.setIfInBounds i true) (a.put oi.dst v) w → Till P md ops Q S k (n + 1) l a w := by
  have hsel := Region.noSelect_spec hns
  induction n with
  | zero =>
    intro l a w _ hr hy hS H
    refine ⟨fun h => absurd (h ▸ hr) (by simp), fun j hj => ?_⟩
    rcases Nat.decEq j i with hji | rfl
    · have hm := ready_mono hj hji
      rw [H.1] at hm
      exact absurd hm (by simp)
    · exact hy.wpOp hi hS ⟨fun _ => hS, H⟩
  | succ n ih =>
    intro l a w hf hr hy hS H
    refine ⟨fun h => absurd (h ▸ hr) (by simp), fun j hj => ?_⟩
    rcases Nat.decEq j i with hji | rfl
    · obtain ⟨hun, oj, hoj, _⟩ := mem_ready.1 hj
      have hjk : j ≠ k := by
        rintro rfl
        exact not_ready hr hk hj he hbe hei
      have hap := hf j oj hoj hji hun fun e' he' hb' => not_ready hr hoj hj he' hb'
      refine wpOp_mono ?_ (wpOp_putIf hoj hap (fun cs b => hsel i oi cs b hi) (fun cs b => hsel j oj cs b hoj) hQ hy (H.2 j (ready_mono hj hji)))
      rintro a' w' ⟨hy', hS', hT⟩
      refine ⟨hS', ih _ a' w' (fun m om hm hmi hmu hmn => hf m om hm hmi ?_ hmn) (ready_mono hr (Ne.symm hji)) hy' (hS' hjk) ?_⟩
      · rcases Nat.decEq j m with hjm | rfl
        · rwa [getD_set_ne true hjm] at hmu
        · exact hun
      · rw [Array.setIfInBounds_comm _ _ hji]
        exact hT
    · exact hy.wpOp hi hS ⟨fun _ => hS, H⟩

/-- Number k waits for number i. -/
def waitsB (md : Region.Mode) (ops : Array Oper) (k i : Nat) : Bool := match ops[k]? with
  | some o => o.after.any fun e => Region.binds md e && e.on == i
  | none => false

theorem till_take {i : Nat} {oi : Oper} {v : Value} {n : Nat} {l : Array Bool} {a : Act} {w : World} (hi : ops[i]? = some oi) (hs : Region.noSelect ops = true) (hf : Region.free md ops l i = true)
    (hr : (Region.ready md ops l).contains i = true) (hQ : ∀ c a w, Q (.panic c) (a.put oi.dst v) w → Q (.panic c) a w) (hy : YieldsIf P ops S oi v a) (hS : S w)
    (h : Till P md ops Q S k n (l.setIfInBounds i true) (a.put oi.dst v) w) (hw : waitsB md ops k i = true := by kernel_rfl) : Till P md ops Q S k (n + 1) l a w := by
  unfold waitsB at hw
  split at hw
  · rename_i ok hk
    obtain ⟨e, he, hbe⟩ := Array.any_eq_true'.mp hw
    rw [Bool.and_eq_true] at hbe
    exact till_first hi hk he hbe.1 (by simpa using hbe.2) hs hQ n l a w (Region.free_spec hi hf) (by simpa using hr) hy hS h
  · cases hw

def TillAll (P : Program) (md : Region.Mode) (ops : Array Oper) (Q : Exit → Act → World → Prop) (S : World → Prop) (k : Nat) (n : Nat) (l : Array Bool) (a : Act) (w : World) (rs : List Nat) : Prop :=
  ∀ i, i ∈ rs → wpOp P ops Q i (fun a' w' => (i ≠ k → S w') ∧ Till P md ops Q S k n (l.setIfInBounds i true) a' w') a w
theorem TillAll.nil {n : Nat} {l : Array Bool} {a : Act} {w : World} : TillAll P md ops Q S k n l a w [] := fun _ h => by cases h
theorem TillAll.cons {n : Nat} {l : Array Bool} {a : Act} {w : World} {i : Nat} {o : Oper} {rs : List Nat} (ho : ops[i]? = some o)
    (h : ∀ K' : Act → World → Prop, Shut (∀ a w, S w → (S w → Till P md ops Q S k n (l.setIfInBounds i true) a w) → K' a w) → if Region.wanted o (yielded ops a.tmps) = true then Oper.wp P o a w K' Q else K' (a.put o.dst undef) w)
    (hs : TillAll P md ops Q S k n l a w rs) (hik : i ≠ k := by decide) : TillAll P md ops Q S k n l a w (i :: rs) := fun j hj => by
  rcases List.mem_cons.1 hj with rfl | hj
  · exact wpOp_step ho fun K' hK => h K' fun a w hS hW => hK a w ⟨fun _ => hS, hW hS⟩
  · exact hs j hj
/-- The last one. -/
theorem TillAll.last {n : Nat} {l : Array Bool} {a : Act} {w : World} {o : Oper} {rs : List Nat} (ho : ops[k]? = some o)
    (h : ∀ K' : Act → World → Prop, Shut (∀ a w, True → (True → Till P md ops Q S k n (l.setIfInBounds k true) a w) → K' a w) → if Region.wanted o (yielded ops a.tmps) = true then Oper.wp P o a w K' Q else K' (a.put o.dst undef) w)
    (hs : TillAll P md ops Q S k n l a w rs) : TillAll P md ops Q S k n l a w (k :: rs) := fun j hj => by
  rcases List.mem_cons.1 hj with rfl | hj
  · exact wpOp_step ho fun K' hK => h K' fun a w _ hW => hK a w ⟨fun hk => absurd rfl hk, hW trivial⟩
  · exact hs j hj
theorem till_ready {rs : List Nat} {n : Nat} {l : Array Bool} {a : Act} {w : World} (hr : Region.ready md ops l = rs) (hne : rs ≠ []) (h : TillAll P md ops Q S k n l a w rs) : Till P md ops Q S k (n + 1) l a w :=
  ⟨fun h0 => absurd (hr ▸ h0) hne, hr ▸ h⟩
theorem till_done {l : Array Bool} {a : Act} {w : World} (hr : Region.ready md ops l = []) (h : Q .normal a w) (n : Nat) : Till P md ops Q S k n l a w := by
  cases n with
  | zero => exact ⟨hr, h⟩
  | succ n => exact ⟨fun _ => h, fun i hi => by rw [hr] at hi; cases hi⟩
theorem wp_region_till {id : Nat} {a : Act} {w : World} (k : Nat) (hm : P.follows .mixedOrders = true) (hS : S w.drew)
    (h : S w.drew → Till P .any ops Q S k ops.size (Array.replicate ops.size false) a w.drew) : (Code.region id ops true).wp P Q a w :=
  wp_region_any hm (Till.any _ _ _ _ (h hS))
end
end Go.Proofs.YtdikgjbpjdnodaaGreat
