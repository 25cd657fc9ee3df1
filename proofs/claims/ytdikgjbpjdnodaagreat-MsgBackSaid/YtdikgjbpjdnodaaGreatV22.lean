/-
  The example that each statement asks: awake.
-/
import Derived.Test.YtdikgjbpjdnodaaGreatV21
import Derived.Test.YtdikgjbpjdnodaaGreatV06
import Derived.Laws.Bits128
import Derived.Test.YtdikgjbpjdnodaaGreatV02
import Derived.Test.YtdikgjbpjdnodaaGreatV15
import Derived.Test.YtdikgjbpjdnodaaGreatV00
namespace Go.Proofs.YtdikgjbpjdnodaaGreat
open Go.RowKit Go.Shelf
set_option linter.unusedVariables false
set_option linter.unusedSimpArgs false
set_option maxRecDepth 100000

/-- The question that is asked, and its bytes. -/
def ask0 : Ms := ⟨7, 256, [⟨[1, 97, 0], 1, 1⟩], [], [], []⟩
def ask0B : List UInt8 := [0, 7, 1, 0, 0, 1, 0, 0, 0, 0, 0, 0, 1, 97, 0, 0, 1, 0, 1]

theorem ask0_short : Shorts [[97]] := by decide
theorem ask0_chk : chk [1, 97, 0] = 0 := shorts_chk ask0_short
theorem ask0_labs : labs [1, 97, 0] = [[97]] := shorts_labs ask0_short
theorem ask0_err : askE [1, 97, 0] 1 1 = 0 := by unfold askE; rw [ask0_chk]; decide
theorem ask0_may : chkM ask0 = 0 := by
  unfold chkM
  rw [if_neg (by decide), if_neg (by decide)]
  simp [ask0, Ms.its, fst0, It.err, ask0_err]
theorem ask0_wr : wrM ask0 = (some ask0B, 0) := by
  rw [wrM_fin ask0_may]
  have e : wrI (headM ask0) [] 0 (.q ⟨[1, 97, 0], 1, 1⟩) = ⟨[1, 97, 0] ++ (two 1 ++ two 1), 0, nameK [] 0 12 [1, 97, 0], nameE [] 0 12 [1, 97, 0]⟩ := by
    unfold wrI askW
    have hp : pkE 0 12 [1, 97, 0] = 0 := by unfold pkE; rw [ask0_chk]; decide
    show (if askE [1, 97, 0] 1 1 ≠ 0 then _ else if pkE 0 12 [1, 97, 0] ≠ 0 then _ else _) = _
    rw [ask0_err, if_neg (by decide), hp, if_neg (by decide)]
    have hn : nameB [] 0 12 [1, 97, 0] = [1, 97, 0] := by
      unfold nameB
      rw [if_pos hp, ask0_labs]
      decide
    show (⟨nameB [] 0 12 [1, 97, 0] ++ _, _, _, _⟩ : WR) = _
    rw [hn]
    rfl
  show wfin (wrIs [.q ⟨[1, 97, 0], 1, 1⟩] (headM ask0) [] 0) = _
  rw [wrIs, e]
  rfl
theorem ask0_rd : rdM ask0B = .ok ask0 := wrM_back ask0_wr
theorem ask0_fine : ask0.Fine := ⟨by decide, by decide, by decide, by decide⟩

theorem lit_sl (w : World) (l : List UInt8) : Sl (w.alloc (.cells ((iz l).map (Value.int .u8)).toArray 5)) w.heap.size (w.heap.size + 1) (.slice (some ⟨w.heap.size, 0, none⟩) l.length l.length) (iz l) := by
  have := sl_lit w (iz l)
  rw [iz_len] at this
  exact this

theorem asked_any (w : World) : Calls Tryz.prog 35 #[] w fun e w' => ∃ v, e = .returned v ∧ Mg w' w'.heap.size v ask0 ∧ Below w.heap.size w w' := by
  go_enter Tryz.func35, Tryz.ntmps35
  go_wp2
  have hs := sq_one (w.alloc (.cells #[.int .i64 7, .int .i64 256, .slice (some ⟨w.heap.size + 1, 0, none⟩) 1 1, .slice none 0 0, .slice none 0 0, .slice none 0 0] 25)) ⟨[1, 97, 0], 1, 1⟩
  rw [World.size_alloc] at hs
  refine bodyPost_ret (by simp [results, Tryz.results35, go_sem]) rfl ⟨.agg #[.int .i64 7, .int .i64 256, .slice (some ⟨w.heap.size + 1, 0, none⟩) 1 1, .slice none 0 0, .slice none 0 0, .slice none 0 0], rfl, ?_, ?_⟩
  · exact ⟨_, _, _, _, rfl, Lst.wide hs (by simp), Lst.nil _ _, Lst.nil _ _, Lst.nil _ _⟩
  · exact ((Below.refl _ _).alloc (Nat.le_refl _) _).alloc (by simp) _

set_option maxHeartbeats 8000000 in
theorem awakeM_any (w : World) : Calls Tryz.prog 18 #[] w (Tells w (.bool true)) := by
  have HAsk := Lib.hid (fun wx => asked_any wx)
  have HWr := Lib.hid (fun (wx : World) (v : Value) (h : Mg wx wx.heap.size v ask0) => writeM_any h (Nat.le_refl _) ask0_fine (by decide))
  rw [ask0_wr] at HWr
  have HRd := Lib.hid (fun (wx : World) {lo hi : Nat} {vb : Value} (h : Sl wx lo hi vb (iz ask0B)) (hh : hi ≤ wx.heap.size) => readM_any h hh (by decide))
  rw [ask0_rd] at HRd
  have HB := Lib.hid (Below.refl w.heap.size w)
  go_enter Tryz.func18, Tryz.ntmps18
  go_wp2_with fail
  refine (HAsk.out _).mono ?_; rintro e w1 ⟨v1, rfl, hm1, hb⟩
  replace HB := Lib.hid (bel_call HB.out hb)
  have HM1 := Lib.hid hm1
  clear hm1 hb
  go_wp2_with fail
  refine (HWr.out _ _ HM1.out).mono ?_; rintro e w2 ⟨v2, rfl, ho2, hb⟩
  replace HB := Lib.hid (bel_call HB.out hb)
  have HO2 := Lib.hid (show OwnB w2 w1.heap.size v2 ask0B from ho2)
  clear ho2 hb HM1
  go_wp2_with fail
  refine (HRd.out _ HO2.out.sl (Nat.le_refl _)).mono ?_; rintro e w3 ⟨v3, rfl, hm3, hb⟩
  replace HB := Lib.hid (bel_call HB.out hb)
  replace HO2 := Lib.hid (HO2.out.below hb)
  obtain ⟨q3, a3, n3, r3, rfl, hmm⟩ := hm3
  obtain ⟨xa, xn, xc, rfl⟩ : ∃ a n c, q3 = .slice a n c := by obtain ⟨a, c, h⟩ := Lst.shape hmm.1; exact ⟨a, _, c, h⟩
  obtain ⟨ya, yn, yc, rfl⟩ : ∃ a n c, a3 = .slice a n c := by obtain ⟨a, c, h⟩ := Lst.shape hmm.2.1; exact ⟨a, _, c, h⟩
  obtain ⟨za, zn, zc, rfl⟩ : ∃ a n c, n3 = .slice a n c := by obtain ⟨a, c, h⟩ := Lst.shape hmm.2.2.1; exact ⟨a, _, c, h⟩
  obtain ⟨ta, tn, tc, rfl⟩ : ∃ a n c, r3 = .slice a n c := by obtain ⟨a, c, h⟩ := Lst.shape hmm.2.2.2; exact ⟨a, _, c, h⟩
  have hm3 : Mg w3 w3.heap.size (.agg #[.int .i64 ask0.id, .int .i64 ask0.fl, (.slice xa xn xc), (.slice ya yn yc), (.slice za zn zc), (.slice ta tn tc)]) ask0 := ⟨_, _, _, _, rfl, hmm⟩
  clear hmm hb
  have e0 : ask0.id = 7 := rfl
  have e1 : ask0.fl = 256 := rfl
  rw [e0, e1] at hm3 ⊢
  obtain ⟨g3, hg3⟩ : ∃ g, w3.heap.size = g := ⟨_, rfl⟩
  obtain ⟨W4, hW4⟩ : ∃ X, w3.alloc (.cells #[.int .i64 7, .int .i64 256, (.slice xa xn xc), (.slice ya yn yc), (.slice za zn zc), (.slice ta tn tc)] 25) = X := ⟨_, rfl⟩
  obtain ⟨W5, hW5⟩ : ∃ X, W4.alloc (.cells #[.int .i64 0, .int .i64 0] 43) = X := ⟨_, rfl⟩
  have s4 : W4.heap.size = g3 + 1 := by rw [← hW4, World.size_alloc, hg3]
  have b5 : Below w3.heap.size w3 W5 := by rw [← hW5, ← hW4]; exact ((Below.refl _ _).alloc (Nat.le_refl _) _).alloc (by simp) _
  have hx : Cel W5 g3 [.int .i64 7, .int .i64 256, (.slice xa xn xc), (.slice ya yn yc), (.slice za zn zc), (.slice ta tn tc)] := by
    have := cel_new6 w3 (.int .i64 7) (.int .i64 256) (.slice xa xn xc) (.slice ya yn yc) (.slice za zn zc) (.slice ta tn tc) 25
    rw [hW4, hg3] at this
    exact this.below (by simp) (by rw [← hW5]; exact (Below.refl _ _).alloc (Nat.le_refl _) _)
  have hy : Cel W5 (g3 + 1) [.int .i64 0, .int .i64 0] := by
    have := cel_new2 W4 (.int .i64 0) (.int .i64 0) 43
    rwa [hW5, s4] at this
  obtain ⟨WX, hWX⟩ : ∃ X, W5.drew = X := ⟨_, rfl⟩
  have b6 : Below w3.heap.size w3 WX := by rw [← hWX]; exact b5.drew
  have HX := Lib.hid (show Cel WX g3 [.int .i64 7, .int .i64 256, (.slice xa xn xc), (.slice ya yn yc), (.slice za zn zc), (.slice ta tn tc)] by rw [← hWX]; exact ⟨hx.c, hx.fz⟩)
  have HY := Lib.hid (show Cel WX (g3 + 1) [.int .i64 0, .int .i64 0] by rw [← hWX]; exact ⟨hy.c, hy.fz⟩)
  replace HB := Lib.hid (bel_call HB.out b6)
  replace HO2 := Lib.hid (HO2.out.below b6)
  have HM3 := Lib.hid (hm3.later b6)
  clear hx hy b5 b6 hm3 e0 e1
  subst hW5
  go_wp2_with fail
  refine wp_region_held_drew (S := (fun wx => wx.cell? ⟨g3 + 1, 0, none⟩ = some (.int .i64 0) ∧ wx.cell? ⟨g3, 0, none⟩ = some (.int .i64 7) ∧ wx.cell? ⟨g3, 1, none⟩ = some (.int .i64 256) ∧ wx.cell? ⟨g3, 2, none⟩ = some (.slice xa xn xc) ∧ wx.cell? ⟨g3, 3, none⟩ = some (.slice ya yn yc) ∧ wx.cell? ⟨g3, 4, none⟩ = some (.slice za zn zc) ∧ wx.cell? ⟨g3, 5, none⟩ = some (.slice ta tn tc))) (by kernel_rfl) (by rw [hWX]; exact ⟨HY.out.c 0 (by simp), HX.out.six⟩) (fun hHeld => ?_)
  refine wpAnyH_take (i := 0) (oi := { dst := some 15, op := Op.move (Operand.tmp 2), type := 29, pos := "outright.go:20", after := #[], guard := none }) (v := ?_) rfl (by kernel_rfl) (by kernel_rfl) (by kernel_rfl) (fun _ _ _ h => h) (Or.inl ⟨by rfl, ?_⟩) (by assumption) ?_
  rotate_left 1
  · intro w hSw; (try dsimp only at hSw); go_simp; try (with_reducible rfl)
  try simp only [Act.put, List.setIfInBounds_toArray, List.set_cons_zero, List.set_cons_succ]
  refine wpAnyH_take (i := 1) (oi := { dst := some 16, op := Op.binOp BinOp.eql 29 (Operand.tmp 15) (Operand.const (Value.int IntKind.i64 0)) 29, type := 4, pos := "outright.go:20", after := #[{ on := 0, ground := Ground.data }], guard := none }) (v := ?_) rfl (by kernel_rfl) (by kernel_rfl) (by kernel_rfl) (fun _ _ _ h => h) (Or.inl ⟨by rfl, ?_⟩) (by assumption) ?_
  rotate_left 1
  · intro w hSw; (try dsimp only at hSw); go_simp; try (with_reducible rfl)
  try simp only [Act.put, List.setIfInBounds_toArray, List.set_cons_zero, List.set_cons_succ]
  refine wpAnyH_take (i := 2) (oi := { dst := some 17, op := Op.move (Operand.tmp 16), type := 4, pos := "outright.go:20", after := #[{ on := 1, ground := Ground.data }], guard := none }) (v := ?_) rfl (by kernel_rfl) (by kernel_rfl) (by kernel_rfl) (fun _ _ _ h => h) (Or.inl ⟨by rfl, ?_⟩) (by assumption) ?_
  rotate_left 1
  · intro w hSw; (try dsimp only at hSw); go_simp; try (with_reducible rfl)
  try simp only [Act.put, List.setIfInBounds_toArray, List.set_cons_zero, List.set_cons_succ]
  refine wpAnyH_take (i := 3) (oi := { dst := some 18, op := Op.move (Operand.tmp 1), type := 28, pos := "outright.go:20", after := #[{ on := 2, ground := Ground.guard }], guard := some (2, true) }) (v := ?_) rfl (by kernel_rfl) (by kernel_rfl) (by kernel_rfl) (fun _ _ _ h => h) (Or.inl ⟨by rfl, ?_⟩) (by assumption) ?_
  rotate_left 1
  · intro w hSw; (try dsimp only at hSw); go_simp; try (with_reducible rfl)
  try simp only [Act.put, List.setIfInBounds_toArray, List.set_cons_zero, List.set_cons_succ]
  refine wpAnyH_ready (rs := [4]) (by kernel_rfl) (by simp) ?_
  refine AllReadyH.cons (o := { dst := some 19, op := Op.buildSlice 28 19 #[(0, Operand.const (Value.int IntKind.u8 0)), (1, Operand.const (Value.int IntKind.u8 7)), (2, Operand.const (Value.int IntKind.u8 1)), (3, Operand.const (Value.int IntKind.u8 0)), (4, Operand.const (Value.int IntKind.u8 0)), (5, Operand.const (Value.int IntKind.u8 1)), (6, Operand.const (Value.int IntKind.u8 0)), (7, Operand.const (Value.int IntKind.u8 0)), (8, Operand.const (Value.int IntKind.u8 0)), (9, Operand.const (Value.int IntKind.u8 0)), (10, Operand.const (Value.int IntKind.u8 0)), (11, Operand.const (Value.int IntKind.u8 0)), (12, Operand.const (Value.int IntKind.u8 1)), (13, Operand.const (Value.int IntKind.u8 97)), (14, Operand.const (Value.int IntKind.u8 0)), (15, Operand.const (Value.int IntKind.u8 0)), (16, Operand.const (Value.int IntKind.u8 1)), (17, Operand.const (Value.int IntKind.u8 0)), (18, Operand.const (Value.int IntKind.u8 1))], type := 28, pos := "outright.go:20", after := #[{ on := 2, ground := Ground.guard }], guard := some (2, true) }) rfl (fun K hK => ?_) (AllReadyH.nil)
  go_simp
  have hb : Below WX.heap.size WX (WX.alloc (.cells #[.int .u8 0, .int .u8 7, .int .u8 1, .int .u8 0, .int .u8 0, .int .u8 1, .int .u8 0, .int .u8 0, .int .u8 0, .int .u8 0, .int .u8 0, .int .u8 0, .int .u8 1, .int .u8 97, .int .u8 0, .int .u8 0, .int .u8 1, .int .u8 0, .int .u8 1] 5)) := (Below.refl _ _).alloc (Nat.le_refl _) _
  have HS := Lib.hid (show Sl (WX.alloc (.cells #[.int .u8 0, .int .u8 7, .int .u8 1, .int .u8 0, .int .u8 0, .int .u8 1, .int .u8 0, .int .u8 0, .int .u8 0, .int .u8 0, .int .u8 0, .int .u8 0, .int .u8 1, .int .u8 97, .int .u8 0, .int .u8 0, .int .u8 1, .int .u8 0, .int .u8 1] 5)) WX.heap.size (WX.heap.size + 1) (.slice (some ⟨WX.heap.size, 0, none⟩) 19 19) (iz ask0B) from lit_sl WX ask0B)
  replace HX := Lib.hid (HX.out.below (by simp) hb)
  replace HY := Lib.hid (HY.out.below (by simp) hb)
  replace HB := Lib.hid (bel_call HB.out hb)
  replace HO2 := Lib.hid (HO2.out.below hb)
  replace HM3 := Lib.hid (HM3.out.later hb)
  clear hb
  refine hK.out _ _ ⟨HY.out.c 0 (by simp), HX.out.six⟩ (fun hHeld => ?_)
  clear hK K
  try simp only [Act.put, List.setIfInBounds_toArray, List.set_cons_zero, List.set_cons_succ]
  refine wpAnyH_ready (rs := [5]) (by kernel_rfl) (by simp) ?_
  refine AllReadyH.cons (o := { dst := some 20, op := Op.call { callee := Callee.value (Operand.func 15), args := #[Operand.tmp 18, Operand.tmp 19], argTypes := #[28, 28] }, type := 4, pos := "outright.go:20", after := #[{ on := 3, ground := Ground.data }, { on := 4, ground := Ground.data }, { on := 2, ground := Ground.chain }, { on := 2, ground := Ground.guard }], guard := some (2, true) }) rfl (fun K hK => ?_) (AllReadyH.nil)
  go_simp
  refine (same_any HO2.out.sl HS.out).mono ?_; rintro e0 w5 ⟨rfl, rfl⟩
  try go_wp2_with fail
  refine hK.out _ _ ⟨HY.out.c 0 (by simp), HX.out.six⟩ (fun hHeld => ?_)
  clear hK K
  try simp only [Act.put, List.setIfInBounds_toArray, List.set_cons_zero, List.set_cons_succ]
  refine wpAnyH_take (i := 6) (oi := { dst := some 21, op := Op.pick (Operand.tmp 17) (Operand.tmp 20) (Operand.const (Value.bool false)), type := 4, pos := "outright.go:20", after := #[{ on := 2, ground := Ground.data }, { on := 5, ground := Ground.data }], guard := none }) (v := ?_) rfl (by kernel_rfl) (by kernel_rfl) (by kernel_rfl) (fun _ _ _ h => h) (Or.inl ⟨by rfl, ?_⟩) (by assumption) ?_
  rotate_left 1
  · intro w hSw; (try dsimp only at hSw); go_simp; try (with_reducible rfl)
  try simp only [Act.put, List.setIfInBounds_toArray, List.set_cons_zero, List.set_cons_succ]
  refine wpAnyH_take (i := 7) (oi := { dst := some 22, op := Op.move (Operand.tmp 21), type := 4, pos := "outright.go:20", after := #[{ on := 6, ground := Ground.data }, { on := 5, ground := Ground.chain }], guard := none }) (v := ?_) rfl (by kernel_rfl) (by kernel_rfl) (by kernel_rfl) (fun _ _ _ h => h) (Or.inl ⟨by rfl, ?_⟩) (by assumption) ?_
  rotate_left 1
  · intro w hSw; (try dsimp only at hSw); go_simp; try (with_reducible rfl)
  try simp only [Act.put, List.setIfInBounds_toArray, List.set_cons_zero, List.set_cons_succ]
  refine wpAnyH_take (i := 8) (oi := { dst := some 23, op := Op.fieldAddr 43 (Operand.tmp 4) 0, type := 0, pos := "outright.go:20", after := #[{ on := 7, ground := Ground.guard }], guard := some (7, true) }) (v := ?_) rfl (by kernel_rfl) (by kernel_rfl) (by kernel_rfl) (fun _ _ _ h => h) (Or.inl ⟨by rfl, ?_⟩) (by assumption) ?_
  rotate_left 1
  · intro w hSw; (try dsimp only at hSw); go_simp; try (with_reducible rfl)
  try simp only [Act.put, List.setIfInBounds_toArray, List.set_cons_zero, List.set_cons_succ]
  refine wpAnyH_take (i := 9) (oi := { dst := some 24, op := Op.load 29 (Operand.tmp 23), type := 29, pos := "outright.go:20", after := #[{ on := 8, ground := Ground.data }, { on := 7, ground := Ground.guard }], guard := some (7, true) }) (v := ?_) rfl (by kernel_rfl) (by kernel_rfl) (by kernel_rfl) (fun _ _ _ h => h) (Or.inl ⟨by rfl, ?_⟩) (by assumption) ?_
  rotate_left 1
  · intro w hSw; (try dsimp only at hSw); go_simp; try (with_reducible rfl)
  try simp only [Act.put, List.setIfInBounds_toArray, List.set_cons_zero, List.set_cons_succ]
  refine wpAnyH_take (i := 10) (oi := { dst := some 25, op := Op.binOp BinOp.eql 29 (Operand.tmp 24) (Operand.const (Value.int IntKind.i64 0)) 29, type := 4, pos := "outright.go:20", after := #[{ on := 9, ground := Ground.data }, { on := 7, ground := Ground.guard }], guard := some (7, true) }) (v := ?_) rfl (by kernel_rfl) (by kernel_rfl) (by kernel_rfl) (fun _ _ _ h => h) (Or.inl ⟨by rfl, ?_⟩) (by assumption) ?_
  rotate_left 1
  · intro w hSw; (try dsimp only at hSw); go_simp; try (with_reducible rfl)
  try simp only [Act.put, List.setIfInBounds_toArray, List.set_cons_zero, List.set_cons_succ]
  refine wpAnyH_take (i := 11) (oi := { dst := some 26, op := Op.pick (Operand.tmp 22) (Operand.tmp 25) (Operand.const (Value.bool false)), type := 4, pos := "outright.go:20", after := #[{ on := 7, ground := Ground.data }, { on := 10, ground := Ground.data }], guard := none }) (v := ?_) rfl (by kernel_rfl) (by kernel_rfl) (by kernel_rfl) (fun _ _ _ h => h) (Or.inl ⟨by rfl, ?_⟩) (by assumption) ?_
  rotate_left 1
  · intro w hSw; (try dsimp only at hSw); go_simp; try (with_reducible rfl)
  try simp only [Act.put, List.setIfInBounds_toArray, List.set_cons_zero, List.set_cons_succ]
  refine wpAnyH_take (i := 12) (oi := { dst := some 27, op := Op.move (Operand.tmp 26), type := 4, pos := "outright.go:20", after := #[{ on := 11, ground := Ground.data }, { on := 7, ground := Ground.chain }], guard := none }) (v := ?_) rfl (by kernel_rfl) (by kernel_rfl) (by kernel_rfl) (fun _ _ _ h => h) (Or.inl ⟨by rfl, ?_⟩) (by assumption) ?_
  rotate_left 1
  · intro w hSw; (try dsimp only at hSw); go_simp; try (with_reducible rfl)
  try simp only [Act.put, List.setIfInBounds_toArray, List.set_cons_zero, List.set_cons_succ]
  refine wpAnyH_take (i := 13) (oi := { dst := some 28, op := Op.load 25 (Operand.tmp 3), type := 25, pos := "outright.go:20", after := #[{ on := 12, ground := Ground.guard }], guard := some (12, true) }) (v := ?_) rfl (by kernel_rfl) (by kernel_rfl) (by kernel_rfl) (fun _ _ _ h => h) (Or.inl ⟨by rfl, ?_⟩) (by assumption) ?_
  rotate_left 1
  · intro w hSw; (try dsimp only at hSw); go_simp; try (with_reducible rfl)
  try simp only [Act.put, List.setIfInBounds_toArray, List.set_cons_zero, List.set_cons_succ]
  refine wpAnyH_ready (rs := [14]) (by kernel_rfl) (by simp) ?_
  refine AllReadyH.cons (o := { dst := some 29, op := Op.call { callee := Callee.value (Operand.func 35), args := #[], argTypes := #[] }, type := 25, pos := "outright.go:20", after := #[{ on := 12, ground := Ground.chain }, { on := 12, ground := Ground.guard }], guard := some (12, true) }) rfl (fun K hK => ?_) (AllReadyH.nil)
  go_simp
  refine (HAsk.out _).mono ?_; rintro e0 w6 ⟨v6, rfl, hm6, hb⟩
  have HM6 := Lib.hid hm6
  replace HX := Lib.hid (HX.out.below (by simp) hb)
  replace HY := Lib.hid (HY.out.below (by simp) hb)
  replace HB := Lib.hid (bel_call HB.out hb)
  replace HO2 := Lib.hid (HO2.out.below hb)
  replace HM3 := Lib.hid (HM3.out.later hb)
  clear hb hm6
  try go_wp2_with fail
  refine hK.out _ _ ⟨HY.out.c 0 (by simp), HX.out.six⟩ (fun hHeld => ?_)
  clear hK K
  try simp only [Act.put, List.setIfInBounds_toArray, List.set_cons_zero, List.set_cons_succ]
  refine wpAnyH_ready (rs := [15]) (by kernel_rfl) (by simp) ?_
  refine AllReadyH.cons (o := { dst := some 30, op := Op.call { callee := Callee.value (Operand.func 21), args := #[Operand.tmp 28, Operand.tmp 29], argTypes := #[25, 25] }, type := 4, pos := "outright.go:20", after := #[{ on := 13, ground := Ground.data }, { on := 14, ground := Ground.data }, { on := 14, ground := Ground.chain }, { on := 12, ground := Ground.guard }], guard := some (12, true) }) rfl (fun K hK => ?_) (AllReadyH.nil)
  go_simp
  refine (sameM_yes HM3.out HM6.out (Nat.le_refl _) (Nat.le_refl _)).mono ?_; rintro e0 w7 ⟨rfl, hb⟩
  replace HX := Lib.hid (HX.out.below (by simp) hb)
  replace HY := Lib.hid (HY.out.below (by simp) hb)
  replace HB := Lib.hid (bel_call HB.out hb)
  replace HO2 := Lib.hid (HO2.out.below hb)
  replace HM3 := Lib.hid (HM3.out.later hb)
  clear hb
  try go_wp2_with fail
  refine hK.out _ _ ⟨HY.out.c 0 (by simp), HX.out.six⟩ (fun hHeld => ?_)
  clear hK K
  try simp only [Act.put, List.setIfInBounds_toArray, List.set_cons_zero, List.set_cons_succ]
  refine wpAnyH_take (i := 16) (oi := { dst := some 31, op := Op.pick (Operand.tmp 27) (Operand.tmp 30) (Operand.const (Value.bool false)), type := 4, pos := "outright.go:20", after := #[{ on := 12, ground := Ground.data }, { on := 15, ground := Ground.data }], guard := none }) (v := ?_) rfl (by kernel_rfl) (by kernel_rfl) (by kernel_rfl) (fun _ _ _ h => h) (Or.inl ⟨by rfl, ?_⟩) (by assumption) ?_
  rotate_left 1
  · intro w hSw; (try dsimp only at hSw); go_simp; try (with_reducible rfl)
  try simp only [Act.put, List.setIfInBounds_toArray, List.set_cons_zero, List.set_cons_succ]
  refine wpAnyH_take (i := 17) (oi := { dst := some 0, op := Op.assign (Operand.tmp 31), type := 4, pos := "outright.go:20", after := #[{ on := 16, ground := Ground.data }, { on := 15, ground := Ground.chain }, { on := 0, ground := Ground.phase }, { on := 1, ground := Ground.phase }, { on := 2, ground := Ground.phase }, { on := 3, ground := Ground.phase }, { on := 4, ground := Ground.phase }, { on := 5, ground := Ground.phase }, { on := 6, ground := Ground.phase }, { on := 7, ground := Ground.phase }, { on := 8, ground := Ground.phase }, { on := 9, ground := Ground.phase }, { on := 10, ground := Ground.phase }, { on := 11, ground := Ground.phase }, { on := 12, ground := Ground.phase }, { on := 13, ground := Ground.phase }, { on := 14, ground := Ground.phase }, { on := 15, ground := Ground.phase }, { on := 16, ground := Ground.phase }], guard := none }) (v := ?_) rfl (by kernel_rfl) (by kernel_rfl) (by kernel_rfl) (fun _ _ _ h => h) (Or.inl ⟨by rfl, ?_⟩) (by assumption) ?_
  rotate_left 1
  · intro w hSw; (try dsimp only at hSw); go_simp; try (with_reducible rfl)
  try simp only [Act.put, List.setIfInBounds_toArray, List.set_cons_zero, List.set_cons_succ]
  refine wpAnyH_done (by kernel_rfl) ?_ _
  clear hHeld
  go_wp2_with fail
  go_ret
  exact ⟨rfl, HB.out⟩
end Go.Proofs.YtdikgjbpjdnodaaGreat

/-
  The bare answer: Reply, and its flags.
-/
namespace Go.Proofs.YtdikgjbpjdnodaaGreat
open Go.RowKit Go.Shelf
set_option linter.unusedVariables false
set_option linter.unusedSimpArgs false
set_option maxRecDepth 100000

/-- The answer while questions are being taken over. -/
structure Rp (w wr : World) (N : Nat) (i f : Int) (qv : Value) (l : List Qn) : Prop where
  bel : Below N w wr
  z : Cel wr (N + 1) [.int .i64 0, .int .i64 0, .slice none 0 0, .slice none 0 0, .slice none 0 0, .slice none 0 0]
  r : Cel wr (N + 2) [.int .i64 i, .int .i64 f, qv, .slice none 0 0, .slice none 0 0, .slice none 0 0]
  own : OwnQn wr (N + 3) qv l
  size : N + 3 ≤ wr.heap.size

section
variable {w wr w' : World} {N : Nat} {i f : Int} {qv : Value} {l : List Qn}
theorem Rp.later (h : Rp w wr N i f qv l) (hb : Below wr.heap.size wr w') : Rp w w' N i f qv l :=
  ⟨below_aside h.bel (Aside.of_all hb : Aside (fun _ => False) wr w') (fun k hk => ⟨by have := h.size; omega, id⟩), h.z.below (by simp) hb, h.r.below (by simp) hb, row_below h.own hb, Nat.le_trans h.size hb.size⟩
theorem Rp.aside {b : Nat} (h : Rp w wr N i f qv l) (ha : Aside (fun k => k = b) wr w') (hb : N + 3 ≤ b) (ho : ∀ k, qv.ownBlock = some k → k ≠ b) : Rp w w' N i f qv l :=
  ⟨below_aside h.bel ha (fun k hk => ⟨by have := h.size; omega, by omega⟩), h.z.aside (by simp) ha (by omega), h.r.aside (by simp) ha (by omega), row_aside h.own ha ho, Nat.le_trans h.size ha.size⟩
/-- A question is laid behind the others. -/
theorem Rp.app (h : Rp w wr N i f qv l) {hi : Nat} {u : Value} {x : Qn} (hx : SQ wr hi u [x]) (hl : l.length + 1 ≤ 1000000) :
    ∃ a c w6, (Builtin.append_ #[22, 22] 22 #[qv, u]).run Tryz.prog wr = .ok (.slice a (l.length + 1) c) w6 ∧ w6.frozen? ⟨N + 2, 2, none⟩ = false ∧ w6.cell? ⟨N + 2, 2, none⟩ = some qv ∧
      Rp w (w6.setCell ⟨N + 2, 2, none⟩ (.slice a (l.length + 1) c)) N i f (.slice a (l.length + 1) c) (l ++ [x]) ∧ (∀ b, (Value.slice a (l.length + 1) c).ownBlock = some b → qv.ownBlock = some b ∨ wr.heap.size ≤ b) := by
  obtain ⟨a, c, w6, h1, h2, h3, h4⟩ := run_appQn h.own hx hl h.size
  simp only [List.length_singleton] at h1 h2 h4
  have hlt := World.ownsRow.lt h.own
  have hG : ∀ k, k < N + 3 → ¬ qv.ownBlock = some k := fun k hk hg => by have := (hlt k hg).1; omega
  have z6 := h.z.aside (by simp) h3 (hG _ (by omega))
  have r6 := h.r.aside (by simp) h3 (hG _ (by omega))
  have hs := Nat.le_trans h.size h3.size
  have hst : Aside (fun k => k = N + 2) w6 (w6.setCell ⟨N + 2, 2, none⟩ (.slice a (l.length + 1) c)) := Aside.setCell w6 (p := ⟨N + 2, 2, none⟩) _ rfl
  refine ⟨a, c, w6, h1, r6.fz 2, r6.c 2 (by simp), ⟨?_, z6.other (a := ⟨N + 2, 2, none⟩) (by show N + 2 ≠ N + 1; omega) _, r6.set (o := 2) (by simp) _, row_aside h2 hst fun k hk hg => by have := (World.ownsRow.lt h2 k hk).1; omega, Nat.le_trans hs hst.size⟩, fun b hb => ?_⟩
  · exact below_aside (below_aside h.bel h3 (fun k hk => ⟨by have := h.size; omega, hG k (by omega)⟩)) hst (fun k hk => ⟨by omega, by omega⟩)
  · rcases h4 with h4 | h4
    · exact .inl (by rw [← h4]; exact hb)
    · right
      rw [h4] at hb
      injection hb with hb
      omega
end

section
variable {w : World} {q : Nat} {a0 a1 a2 a3 a4 a5 : Value}
end

end Go.Proofs.YtdikgjbpjdnodaaGreat

/-
  The chapter's examples: MsgKnown.
-/
namespace Go.Proofs.YtdikgjbpjdnodaaGreat
open Go.RowKit Go.Shelf
set_option linter.unusedVariables false
set_option linter.unusedSimpArgs false
set_option maxRecDepth 100000

theorem iz_take (b : List UInt8) (m : Nat) : (iz b).take m = iz (b.take m) := by simp [iz, List.map_take]

def ms0 : Ms := ⟨0, 0, [], [], [], []⟩
/-- A message and a fault that were just made. -/
theorem two_new (w : World) (a0 a1 a2 a3 a4 a5 b0 b1 : Value) : Cel ((w.alloc (.cells #[a0, a1, a2, a3, a4, a5] 25)).alloc (.cells #[b0, b1] 43)) w.heap.size [a0, a1, a2, a3, a4, a5] ∧
    Cel ((w.alloc (.cells #[a0, a1, a2, a3, a4, a5] 25)).alloc (.cells #[b0, b1] 43)) (w.heap.size + 1) [b0, b1] ∧
    Below w.heap.size w ((w.alloc (.cells #[a0, a1, a2, a3, a4, a5] 25)).alloc (.cells #[b0, b1] 43)) ∧
    ((w.alloc (.cells #[a0, a1, a2, a3, a4, a5] 25)).alloc (.cells #[b0, b1] 43)).heap.size = w.heap.size + 1 + 1 := by
  refine ⟨(cel_new6 w a0 a1 a2 a3 a4 a5 25).below (by simp) ((Below.refl _ _).alloc (Nat.le_refl _) _), ?_, ((Below.refl _ _).alloc (Nat.le_refl _) _).alloc (by simp) _, by simp⟩
  have := cel_new2 (w.alloc (.cells #[a0, a1, a2, a3, a4, a5] 25)) b0 b1 43
  rwa [World.size_alloc] at this

end Go.Proofs.YtdikgjbpjdnodaaGreat

/-
  A message of too many entries, or of too long names and data: BigMessage.
-/
namespace Go.Proofs.YtdikgjbpjdnodaaGreat
open Go.RowKit Go.Shelf
set_option linter.unusedVariables false
set_option linter.unusedSimpArgs false
set_option maxRecDepth 100000

def bigRm (M : Nat) (x : Rc) : Bool := decide (M < x.n.length) || decide (M < x.d.length)
def bigQm (M : Nat) (x : Qn) : Bool := decide (M < x.n.length)
/-- More than so many entries, or a name or data of more than so many bytes. -/
def bigMs (most M : Nat) (m : Ms) : Bool := decide (most < m.q.length + m.an.length + m.ns.length + m.ar.length) || (m.q.any (bigQm M) || (m.an.any (bigRm M) || (m.ns.any (bigRm M) || m.ar.any (bigRm M))))

set_option maxHeartbeats 2000000 in
theorem bigRs_any {w : World} {hi : Nat} {u : Value} {l : List Rc} (M : Nat) (hM : M ≤ 1000000) (h : SR w hi u l) (h1 : hi ≤ w.heap.size) :
    Calls Tryz.prog 51 #[u, .int .i64 M] w fun e w' => e = .returned (.bool (l.any (bigRm M))) ∧ w = w' := by
  obtain ⟨r, hr⟩ : ∃ r, l.any (bigRm M) = r := ⟨_, rfl⟩
  rw [hr]
  have HR := Lib.hid hr
  have HX := Lib.hid h
  have HN := Lib.hid (Lst.len h)
  obtain ⟨a, c, rfl⟩ := Lst.shape h
  clear hr h
  go_enter Tryz.func51, Tryz.ntmps51
  go_wp2
  go_loopg [5] l.length (fun k v5 wr => ∃ j : Nat, j + k = l.length ∧ v5 = .int .i64 j ∧ Hid ((l.take j).any (bigRm M) = false) ∧ w = wr)
  case atStart => exact ⟨0, by omega, rfl, by simp [Hid], rfl⟩
  case round =>
    obtain ⟨j, hj, rfl, HA, rfl⟩ := hrel
    have hlen := HN.out
    by_cases hlt : j < l.length
    · obtain ⟨b, off, c2, he, hb, c0, _, _, _, c4⟩ := HX.out.at_ j hlt
      injection he with he hn3 hc3
      clear hn3 hc3
      subst he
      have hany := HA.out
      have htk : l.take (j + 1) = l.take j ++ [l[j]] := by rw [List.take_add_one, List.getElem?_eq_getElem hlt]; rfl
      have HM := Lib.hid (List.getElem_mem hlt)
      obtain ⟨x, hx⟩ : ∃ x, l[j] = x := ⟨_, rfl⟩
      rw [hx] at c0 c4 htk HM
      obtain ⟨n, t, cl, tl, d⟩ := x
      simp only at c0 c4
      have hns : (bs n).size = n.length := bs_size n
      have hds : (bs d).size = d.length := bs_size d
      by_cases h1 : M < n.length
      · have HE := Lib.hid (show r = true by rw [← HR.out]; exact List.any_eq_true.mpr ⟨_, HM.out, by unfold bigRm; simp [h1]⟩)
        have t1 : decide ((M : Int) < n.length) = true := by simp; omega
        clear hany htk hx HA HM
        go_wp2_with fail
        go_ret
        exact ⟨by rw [HE.out]; rfl, rfl⟩
      · have t1 : decide ((M : Int) < n.length) = false := by simp; omega
        by_cases h2 : M < d.length
        · have HE := Lib.hid (show r = true by rw [← HR.out]; exact List.any_eq_true.mpr ⟨_, HM.out, by unfold bigRm; simp [h2]⟩)
          have t2 : decide ((M : Int) < d.length) = true := by simp; omega
          clear hany htk hx HA HM
          go_wp2_with fail
          go_ret
          exact ⟨by rw [HE.out]; rfl, rfl⟩
        · have t2 : decide ((M : Int) < d.length) = false := by simp; omega
          have HA2 := Lib.hid (show (l.take (j + 1)).any (bigRm M) = false by rw [htk, List.any_append, hany]; simp [bigRm]; omega)
          clear hany htk hx HA HM
          go_wp2_with fail
          go_roundg (l.length - (j + 1))
          case measure => omega
          case rel => exact ⟨j + 1, by omega, by go_num, HA2, rfl⟩
    · have hje : j = l.length := by omega
      have HE := Lib.hid (show r = false by
        rw [← HR.out]
        have := HA.out
        rw [List.take_of_length_le (by omega)] at this
        exact this)
      clear HA
      have t1 : ¬ ((j : Int) < l.length) := by omega
      go_wp2_with fail
      go_ret
      exact ⟨by rw [HE.out]; rfl, rfl⟩

set_option maxHeartbeats 4000000 in
theorem bigM_any {w : World} {hi : Nat} {u : Value} {m : Ms} (most M : Nat) (hmo : most ≤ 1000000) (hM : M ≤ 1000000) (h : Mg w hi u m) (h1 : hi ≤ w.heap.size) :
    Calls Tryz.prog 29 #[u, .int .i64 most, .int .i64 M] w (Tells w (.bool (bigMs most M m))) := by
  obtain ⟨q, a, n, r, rfl, hq, ha, hn, hr⟩ := h
  have HLQ := Lib.hid (Lst.len hq)
  have HLA := Lib.hid (Lst.len ha)
  have HLN := Lib.hid (Lst.len hn)
  have HLR := Lib.hid (Lst.len hr)
  have HCA := Lib.hid (fun wx (hb : Below w.heap.size w wx) => bigRs_any M hM (Lst.below ha hb h1) (Nat.le_trans h1 hb.size))
  have HCN := Lib.hid (fun wx (hb : Below w.heap.size w wx) => bigRs_any M hM (Lst.below hn hb h1) (Nat.le_trans h1 hb.size))
  have HCR := Lib.hid (fun wx (hb : Below w.heap.size w wx) => bigRs_any M hM (Lst.below hr hb h1) (Nat.le_trans h1 hb.size))
  have HQ := Lib.hid hq
  have HHI := Lib.hid h1
  obtain ⟨qa, qc, rfl⟩ := Lst.shape hq
  obtain ⟨aa, ac, rfl⟩ := Lst.shape ha
  obtain ⟨na, nc, rfl⟩ := Lst.shape hn
  obtain ⟨ra, rc, rfl⟩ := Lst.shape hr
  obtain ⟨i0, hi0⟩ : ∃ i, m.id = i := ⟨_, rfl⟩
  obtain ⟨f0, hf0⟩ : ∃ i, m.fl = i := ⟨_, rfl⟩
  obtain ⟨R, hR⟩ : ∃ r, bigMs most M m = r := ⟨_, rfl⟩
  rw [hi0, hf0, hR]
  unfold bigMs at hR
  obtain ⟨b1, hb1⟩ : ∃ r, m.an.any (bigRm M) = r := ⟨_, rfl⟩
  obtain ⟨b2, hb2⟩ : ∃ r, m.ns.any (bigRm M) = r := ⟨_, rfl⟩
  obtain ⟨b3, hb3⟩ : ∃ r, m.ar.any (bigRm M) = r := ⟨_, rfl⟩
  rw [hb1, hb2, hb3] at hR
  rw [hb1] at HCA
  rw [hb2] at HCN
  rw [hb3] at HCR
  obtain ⟨l, hlq⟩ : ∃ l, m.q = l := ⟨_, rfl⟩
  rw [hlq] at hR HQ HLQ ⊢
  obtain ⟨ln, hln⟩ : ∃ l, m.an.length = l := ⟨_, rfl⟩
  rw [hln] at hR HLA HCA ⊢
  obtain ⟨lm, hlm⟩ : ∃ l, m.ns.length = l := ⟨_, rfl⟩
  rw [hlm] at hR HLN HCN ⊢
  obtain ⟨lr, hlr⟩ : ∃ l, m.ar.length = l := ⟨_, rfl⟩
  rw [hlr] at hR HLR HCR ⊢
  have hb0 : Below w.heap.size w (w.alloc (.cells #[.int .i64 i0, .int .i64 f0, .slice qa l.length qc, .slice aa ln ac, .slice na lm nc, .slice ra lr rc] 25)) := (Below.refl _ _).alloc (Nat.le_refl _) _
  have HB := Lib.hid hb0
  have HX := Lib.hid (cel_new6 w (.int .i64 i0) (.int .i64 f0) (.slice qa l.length qc) (.slice aa ln ac) (.slice na lm nc) (.slice ra lr rc) 25)
  have HR := Lib.hid hR
  clear hb1 hb2 hb3 hlq hln hlm hlr hi0 hf0 hq ha hn hr h1 hb0 hR
  have g1 := HLQ.out
  have g2 := HLA.out
  have g3 := HLN.out
  have g4 := HLR.out
  by_cases hbig : most < l.length + ln + lm + lr
  · have t0 : decide ((most : Int) < (l.length : Int) + ln + lm + lr) = true := by simp; omega
    have HE := Lib.hid (show R = true by rw [← HR.out]; simp [hbig])
    go_enter Tryz.func29, Tryz.ntmps29
    go_wp2_with fail
    go_ret
    exact ⟨by rw [HE.out]; rfl, HB.out⟩
  · have t0 : decide ((most : Int) < (l.length : Int) + ln + lm + lr) = false := by simp; omega
    have e0 : decide (most < l.length + ln + lm + lr) = false := by simp; omega
    have HR2 := Lib.hid (show (l.any (bigQm M) || (b1 || (b2 || b3))) = R by rw [← HR.out, e0]; rfl)
    obtain ⟨W, hW⟩ : ∃ W, w.alloc (.cells #[.int .i64 i0, .int .i64 f0, .slice qa l.length qc, .slice aa ln ac, .slice na lm nc, .slice ra lr rc] 25) = W := ⟨_, rfl⟩
    obtain ⟨N, hN⟩ : ∃ N, w.heap.size = N := ⟨_, rfl⟩
    rw [hW] at HB HX
    rw [hN] at HX
    obtain ⟨c0, c1, c2, c3, c4, c5⟩ := HX.out.six
    clear e0 HR
    go_enter Tryz.func29, Tryz.ntmps29
    go_wp2_with fail
    clear t0 hbig
    go_loopg [7] l.length (fun k v7 wr => ∃ j : Nat, j + k = l.length ∧ v7 = .int .i64 j ∧ Hid ((l.take j).any (bigQm M) = false) ∧ W = wr)
    case atStart => exact ⟨0, by omega, rfl, by simp [Hid], by first | rfl | exact hW.symm⟩
    case round =>
      clear hW
      obtain ⟨j, hj, rfl, HA, rfl⟩ := hrel
      by_cases hlt : j < l.length
      · obtain ⟨b, off, cc, he, hb, hc⟩ := HQ.out.at_ j hlt
        obtain ⟨d0, d1, d2⟩ := hc.keep fun o => HB.out.cell (p := ⟨b, o, none⟩) (Nat.lt_of_lt_of_le hb HHI.out)
        injection he with he hn3 hc3
        clear hn3 hc3
        subst he
        have hany := HA.out
        have htk : l.take (j + 1) = l.take j ++ [l[j]] := by rw [List.take_add_one, List.getElem?_eq_getElem hlt]; rfl
        have HM := Lib.hid (List.getElem_mem hlt)
        obtain ⟨x, hx⟩ : ∃ x, l[j] = x := ⟨_, rfl⟩
        rw [hx] at d0 htk HM
        obtain ⟨n, t, cl⟩ := x
        simp only at d0
        have hns : (bs n).size = n.length := bs_size n
        by_cases h1 : M < n.length
        · have HE := Lib.hid (show R = true by rw [← HR2.out, show l.any (bigQm M) = true from List.any_eq_true.mpr ⟨_, HM.out, by unfold bigQm; simp [h1]⟩]; rfl)
          have t1 : decide ((M : Int) < n.length) = true := by simp; omega
          clear hany htk hx HA HM hc hb d1 d2
          go_wp2_with fail
          go_ret
          exact ⟨by rw [HE.out]; rfl, by rw [← hN] at *; exact HB.out⟩
        · have t1 : decide ((M : Int) < n.length) = false := by simp; omega
          have HA2 := Lib.hid (show (l.take (j + 1)).any (bigQm M) = false by rw [htk, List.any_append, hany]; simp [bigQm]; omega)
          clear hany htk hx HA HM hc hb d1 d2
          go_wp2_with fail
          go_roundg (l.length - (j + 1))
          case measure => omega
          case rel => exact ⟨j + 1, by omega, by go_num, HA2, rfl⟩
      · have hje : j = l.length := by omega
        have HE := Lib.hid (show (b1 || (b2 || b3)) = R by
          rw [← HR2.out]
          have := HA.out
          rw [List.take_of_length_le (by omega)] at this
          rw [this]
          rfl)
        clear HA
        have t1 : ¬ ((j : Int) < l.length) := by omega
        cases b1 with
        | true =>
          go_wp2_with fail
          refine (HCA.out _ HB.out).mono ?_; rintro e w1 ⟨rfl, rfl⟩
          go_wp2_with fail
          go_ret
          exact ⟨by rw [← HE.out]; rfl, HB.out⟩
        | false =>
          cases b2 with
          | true =>
            go_wp2_with fail
            refine (HCA.out _ HB.out).mono ?_; rintro e w1 ⟨rfl, rfl⟩
            go_wp2_with fail
            refine (HCN.out _ HB.out).mono ?_; rintro e w1 ⟨rfl, rfl⟩
            go_wp2_with fail
            go_ret
            exact ⟨by rw [← HE.out]; rfl, HB.out⟩
          | false =>
            go_wp2_with fail
            refine (HCA.out _ HB.out).mono ?_; rintro e w1 ⟨rfl, rfl⟩
            go_wp2_with fail
            refine (HCN.out _ HB.out).mono ?_; rintro e w1 ⟨rfl, rfl⟩
            go_wp2_with fail
            refine (HCR.out _ HB.out).mono ?_; rintro e w1 ⟨rfl, rfl⟩
            go_wp2_with fail
            go_ret
            exact ⟨by rw [← HE.out]; rfl, HB.out⟩

theorem bigMs_no {most M : Nat} {m : Ms} (h : bigMs most M m = false) : m.q.length + m.an.length + m.ns.length + m.ar.length ≤ most ∧ (∀ x ∈ m.q, x.n.length ≤ M) ∧ (∀ x ∈ m.an, x.n.length ≤ M ∧ x.d.length ≤ M) ∧ (∀ x ∈ m.ns, x.n.length ≤ M ∧ x.d.length ≤ M) ∧ (∀ x ∈ m.ar, x.n.length ≤ M ∧ x.d.length ≤ M) := by
  unfold bigMs at h
  simp only [Bool.or_eq_false_iff, List.any_eq_false, decide_eq_false_iff_not, Nat.not_lt] at h
  obtain ⟨h0, h1, h2, h3, h4⟩ := h
  have k : ∀ l : List Rc, (∀ x ∈ l, ¬ bigRm M x = true) → ∀ x ∈ l, x.n.length ≤ M ∧ x.d.length ≤ M := fun l hl x hx => by
    have := hl x hx
    unfold bigRm at this
    simp at this
    exact this
  refine ⟨h0, fun x hx => ?_, k _ h2, k _ h3, k _ h4⟩
  have := h1 x hx
  unfold bigQm at this
  simpa using this
end Go.Proofs.YtdikgjbpjdnodaaGreat

/-
  CopyBytes.
-/
namespace Go.Proofs.YtdikgjbpjdnodaaGreat
open Go.RowKit
set_option linter.unusedVariables false
set_option maxRecDepth 100000

def CopyPost (w : World) (l : List Int) (e : Ending) (w' : World) : Prop := ∃ v, e = .returned v ∧ OwnR w' w.heap.size v l ∧ Below w.heap.size w w'

set_option maxHeartbeats 1000000 in
theorem copy_any {w : World} {lo hi : Nat} {v : Value} {l : List Int} (h : Sl w lo hi v l) (hl : l.length ≤ 900000) : Calls Tryz.prog 32 #[v] w (CopyPost w l) := by
  have hb1 : Below w.heap.size w (w.alloc (.cells #[] 5)) := (Below.refl _ _).alloc (Nat.le_refl _) _
  have hs1 : Sl (w.alloc (.cells #[] 5)) lo hi v l := by
    obtain ⟨a, c, rfl, hc, hn, hp⟩ := h
    exact ⟨a, c, rfl, hc, hn, fun h0 => by
      obtain ⟨b, off, rfl, h1, h2, hx⟩ := hp h0
      exact ⟨b, off, rfl, h1, h2, fun j hj => cell_later hb1 (hx j hj)⟩⟩
  have HS := Lib.hid hs1
  have HB := Lib.hid hb1
  clear h hs1 hb1
  go_enter Tryz.func32, Tryz.ntmps32
  go_wp2_with (at_builtin; refine wpList_app rfl (.tmp 3) (.tmp 4) rfl w.heap.size lo hi _ v [] l rfl rfl ?c1 HS.out ?c2 ?c3 ?_)
  case c1 => exact World.ownsRow_made w #[] 0 (Nat.le_refl _) (by decide) (by simp)
  case c2 => simp; omega
  case c3 => simp
  intro v' w1 HO HB1
  have HB2 := Lib.hid (HB.out.trans HB1.out)
  clear HB HB1 HS
  go_wp2_with fail
  go_ret
  exact ⟨v', rfl, HO.out, HB2.out⟩
end Go.Proofs.YtdikgjbpjdnodaaGreat

/-
  What writing and reading a message tell, as MsgBack asks; plainly.
-/
namespace Go.Proofs.YtdikgjbpjdnodaaGreat
open Go.RowKit Go.Shelf
set_option linter.unusedVariables false
set_option linter.unusedSimpArgs false
set_option maxRecDepth 100000

theorem err_qn {x : Qn} (h : (It.q x).err = 0) : x.n.length ≤ 255 := by
  have h : askE x.n x.t x.c = 0 := h
  unfold askE at h
  by_cases hc : chk x.n = 0
  · exact (chk_pos hc).2
  · rw [if_pos (by simpa using hc)] at h
    exact absurd h hc
theorem err_rc {x : Rc} (h : (It.r x).err = 0) : x.n.length ≤ 255 ∧ x.d.length ≤ 65535 := by
  obtain ⟨h1, _, _, h4⟩ := chkC_ok (show chkC x = 0 from h)
  obtain ⟨L, hL⟩ := code_ok h4
  exact ⟨err_qn (x := ⟨x.n, x.t, x.c⟩) h1, (spl_ok hL).2.2.1⟩
/-- A message that may be has no longer texts. -/
theorem chkM_fine {m : Ms} (h : chkM m = 0) : m.Fine := by
  have h4 : fst0 (m.its.map It.err) = 0 := by
    unfold chkM at h
    split at h
    · cases h
    · split at h
      · cases h
      · exact h
  have hz := fst0_zero h4
  have hq : ∀ x ∈ m.q, (It.q x).err = 0 := fun x hx => hz _ (List.mem_map_of_mem (by unfold Ms.its; simp [hx]))
  have ha : ∀ x ∈ m.an, (It.r x).err = 0 := fun x hx => hz _ (List.mem_map_of_mem (by unfold Ms.its; simp [hx]))
  have hn : ∀ x ∈ m.ns, (It.r x).err = 0 := fun x hx => hz _ (List.mem_map_of_mem (by unfold Ms.its; simp [hx]))
  have hr : ∀ x ∈ m.ar, (It.r x).err = 0 := fun x hx => hz _ (List.mem_map_of_mem (by unfold Ms.its; simp [hx]))
  exact ⟨fun x hx => by have := err_qn (hq x hx); omega, fun x hx => by have := err_rc (ha x hx); omega, fun x hx => by have := err_rc (hn x hx); omega, fun x hx => by have := err_rc (hr x hx); omega⟩

theorem ques_step {b : List UInt8} {p : Nat} (hp : p ≤ b.length) (h : (s3 b p).e = 0) : ∃ q : Nat, (s3 b p).a = q ∧ p + 5 ≤ q ∧ q ≤ b.length := by
  rcases ques_cases b p hp with ⟨h1, _⟩ | ⟨n, i, hR, hc, hlt, hi, e1, e2, e3, e4⟩
  · exact absurd h h1
  · exact ⟨i + 4, by rw [e1], by omega, hi⟩
theorem rec_step {b : List UInt8} {p : Nat} (hp : p ≤ b.length) (hb : b.length ≤ 1000000) (h : (s6 b p).e = 0) : ∃ q : Nat, (s6 b p).a = q ∧ p + 5 ≤ q ∧ q ≤ b.length := by
  obtain ⟨n, i, L, hR, hi, hr⟩ := rec_parts hp h
  obtain ⟨_, hlt, hle⟩ := rda_fine b p (by rw [hR])
  rw [hR] at hlt hle
  simp only at hlt hle
  obtain ⟨t0, t1, _, _, _, hz0, hzl, _⟩ := rdR_ok hr
  obtain ⟨e6, _⟩ := data_ok hR hi hr
  have hwr : wrap64 (((i + 10 : Nat) : Int) + rZ b p) = ((i + 10 : Nat) : Int) + rZ b p := IntWalk.wrap64_in _ ⟨by omega, by omega⟩
  refine ⟨i + 10 + (rZ b p).toNat, ?_, by omega, by omega⟩
  rw [e6, hwr]
  show ((i + 10 : Nat) : Int) + rZ b p = _
  omega
theorem rdQs_far {b : List UInt8} : ∀ {n p : Nat} {l : List Qn} {q : Nat}, p ≤ b.length → rdQs b n p = .ok l q → p + 5 * l.length ≤ q ∧ q ≤ b.length
  | 0, p, l, q, hp, h => by
    simp only [rdQs, RD.ok.injEq] at h
    obtain ⟨rfl, rfl⟩ := h
    exact ⟨by simp, hp⟩
  | n + 1, p, l, q, hp, h => by
    rw [rdQs] at h
    split at h
    · simp at h
    · rename_i h1
      obtain ⟨q', e1, e2, e3⟩ := ques_step hp (by simpa using h1)
      obtain ⟨l', h2, rfl⟩ := RD.cons_ok h
      rw [e1, Int.toNat_natCast] at h2
      obtain ⟨f1, f2⟩ := rdQs_far e3 h2
      exact ⟨by rw [List.length_cons]; omega, f2⟩
theorem rdRs_far {b : List UInt8} (hb : b.length ≤ 1000000) : ∀ {n p : Nat} {l : List Rc} {q : Nat}, p ≤ b.length → rdRs b n p = .ok l q → p + 5 * l.length ≤ q ∧ q ≤ b.length
  | 0, p, l, q, hp, h => by
    simp only [rdRs, RD.ok.injEq] at h
    obtain ⟨rfl, rfl⟩ := h
    exact ⟨by simp, hp⟩
  | n + 1, p, l, q, hp, h => by
    rw [rdRs] at h
    split at h
    · simp at h
    · rename_i h1
      obtain ⟨q', e1, e2, e3⟩ := rec_step hp hb (by simpa using h1)
      obtain ⟨l', h2, rfl⟩ := RD.cons_ok h
      rw [e1, Int.toNat_natCast] at h2
      obtain ⟨f1, f2⟩ := rdRs_far hb e3 h2
      exact ⟨by rw [List.length_cons]; omega, f2⟩
/-- How many entries are read of so many bytes. -/
theorem rdM_many {b : List UInt8} {m : Ms} (h : rdM b = .ok m) : 12 + 5 * (m.q.length + m.an.length + m.ns.length + m.ar.length) ≤ b.length := by
  obtain ⟨h0, h00, q, an, ns, ar, p1, p2, p3, p4, h1, h2, h3, h4, h5, rfl⟩ := rdM_ok h
  obtain ⟨a1, a2⟩ := rdQs_far h00 h1
  obtain ⟨b1, b2⟩ := rdRs_far (by omega) a2 h2
  obtain ⟨c1, c2⟩ := rdRs_far (by omega) b2 h3
  obtain ⟨d1, d2⟩ := rdRs_far (by omega) c2 h4
  simp only
  omega
/-- What the head of a message's bytes tells. -/
theorem rdM_head {b : List UInt8} {m : Ms} (h : rdM b = .ok m) : headV b = .tuple #[.int .i64 m.id, .int .i64 m.fl, .bool true] ∧ b.length ≤ 65535 := by
  obtain ⟨h0, h00, q, an, ns, ar, p1, p2, p3, p4, h1, h2, h3, h4, h5, rfl⟩ := rdM_ok h
  unfold headV
  rw [if_pos h00]
  exact ⟨rfl, h0⟩
/-- How writing ends. -/
theorem wrM_ends (m : Ms) : (∃ z, wrM m = (some z, 0) ∧ chkM m = 0 ∧ 12 ≤ z.length ∧ z.length ≤ 65535 ∧ rdM z = .ok m) ∨ ∃ e, wrM m = (none, e) ∧ e ≠ 0 ∧ (chkM m = 0 → e = 3) := by
  by_cases h : chkM m = 0
  · rcases hw : wrIs m.its (headM m) [] 0 with _ | z
    · right
      refine ⟨3, by rw [wrM_fin h, hw]; rfl, by decide, fun _ => rfl⟩
    · left
      have e : wrM m = (some z, 0) := by rw [wrM_fin h, hw]; rfl
      have hr := wrM_back e
      refine ⟨z, e, h, ?_, (rdM_head hr).2, hr⟩
      have := rdM_many hr
      omega
  · right
    exact ⟨chkM m, by unfold wrM; rw [if_pos h], h, fun h2 => absurd h2 h⟩
/-- Bytes behind a message's. -/
theorem wrM_more {m : Ms} {z : List UInt8} (h : wrM m = (some z, 0)) (x : UInt8) : ∃ c a, rdM (z ++ [x]) = .bad c a ∧ (z.length < 65535 → c = 4 ∧ a = z.length) := by
  by_cases hl : z.length < 65535
  · exact ⟨4, z.length, wrM_behind h x hl, fun _ => ⟨rfl, rfl⟩⟩
  · refine ⟨3, 0, ?_, fun h => absurd h hl⟩
    unfold rdM
    rw [if_pos (by simp; omega)]

/-- A slice's first bytes, none too. -/
theorem slice_upto {w : World} {lo hi c m : Nat} {a : Option Addr} {l : List Int} (h : Sl w lo hi (.slice a l.length c) l) (h0 : 0 < l.length) (hm : m ≤ l.length) :
    ∃ sv, (∀ wx, (Instr.slice 28 (.slice a l.length c) none (some (.int .i64 m)) none).run Tryz.prog wx = .ok sv wx) ∧ Sl w lo hi sv (l.take m) := by
  have hlen : (l.take m).length = m := by rw [List.length_take]; omega
  obtain ⟨a', c', he, hc, hn, hq⟩ := h
  injection he with e1 e2 e3
  subst e1; subst e3
  refine ⟨sliced a 0 m c 1, fun wx => ?_, ?_⟩
  · rw [run_slice_h (P := Tryz.prog) wx 28 a l.length c Tryz.underlying28 .i64 m (by omega) (by omega), size5]
    rfl
  · obtain ⟨b, off, rfl, h1, h2, hx⟩ := hq h0
    refine ⟨some ⟨b, off, none⟩, c, ?_, by omega, fun h => by simp at h, fun _ => ⟨b, off, rfl, h1, h2, fun j hj => ?_⟩⟩
    · unfold sliced
      rw [hlen, if_neg (by omega)]
      simp [Addr.add]
    · rw [hlen] at hj
      rw [hx j (by omega), List.getD, List.getD, List.getElem?_take, if_pos hj]
end Go.Proofs.YtdikgjbpjdnodaaGreat
