/-
  The example that each statement asks: awake.
-/
import Derived.Test.YtdikgjbpjdnodaaGreatU21
import Derived.Test.YtdikgjbpjdnodaaGreatU00
import Derived.Laws.Bits128
import Derived.Test.YtdikgjbpjdnodaaGreatU02
namespace Go.Proofs.YtdikgjbpjdnodaaGreat
open Go.RowKit Go.Shelf
set_option linter.unusedVariables false
set_option linter.unusedSimpArgs false
set_option maxRecDepth 100000

/-- The question that is asked, and its bytes. -/
def ask0 : Ms := ⟨7, 256, [⟨[1, 97, 0], 1, 1⟩], [], [], []⟩
def ask0B : List UInt8 := [0, 7, 1, 0, 0, 1, 0, 0, 0, 0, 0, 0, 1, 97, 0, 0, 1, 0, 1]

theorem ask0_short : Shorts [[97]] := by decide
theorem ask0_chk : chk [1, 97, 0] = 0 := shorts_chk ask0_short
theorem ask0_labs : labs [1, 97, 0] = [[97]] := shorts_labs ask0_short
theorem ask0_err : askE [1, 97, 0] 1 1 = 0 := by unfold askE; rw [ask0_chk]; decide
theorem ask0_may : chkM ask0 = 0 := by
  unfold chkM
  rw [if_neg (by decide), if_neg (by decide)]
  simp [ask0, Ms.its, fst0, It.err, ask0_err]
theorem ask0_wr : wrM ask0 = (some ask0B, 0) := by
  rw [wrM_fin ask0_may]
  have e : wrI (headM ask0) [] 0 (.q ⟨[1, 97, 0], 1, 1⟩) = ⟨[1, 97, 0] ++ (two 1 ++ two 1), 0, nameK [] 0 12 [1, 97, 0], nameE [] 0 12 [1, 97, 0]⟩ := by
    unfold wrI askW
    have hp : pkE 0 12 [1, 97, 0] = 0 := by unfold pkE; rw [ask0_chk]; decide
    show (if askE [1, 97, 0] 1 1 ≠ 0 then _ else if pkE 0 12 [1, 97, 0] ≠ 0 then _ else _) = _
    rw [ask0_err, if_neg (by decide), hp, if_neg (by decide)]
    have hn : nameB [] 0 12 [1, 97, 0] = [1, 97, 0] := by
      unfold nameB
      rw [if_pos hp, ask0_labs]
      decide
    show (⟨nameB [] 0 12 [1, 97, 0] ++ _, _, _, _⟩ : WR) = _
    rw [hn]
    rfl
  show wfin (wrIs [.q ⟨[1, 97, 0], 1, 1⟩] (headM ask0) [] 0) = _
  rw [wrIs, e]
  rfl
theorem ask0_rd : rdM ask0B = .ok ask0 := wrM_back ask0_wr
theorem ask0_fine : ask0.Fine := ⟨by decide, by decide, by decide, by decide⟩

theorem lit_sl (w : World) (l : List UInt8) : Sl (w.alloc (.cells ((iz l).map (Value.int .u8)).toArray 5)) w.heap.size (w.heap.size + 1) (.slice (some ⟨w.heap.size, 0, none⟩) l.length l.length) (iz l) := by
  have := sl_lit w (iz l)
  rw [iz_len] at this
  exact this

theorem asked_any (w : World) : Calls Tryz.prog 35 #[] w fun e w' => ∃ v, e = .returned v ∧ Mg w' w'.heap.size v ask0 ∧ Below w.heap.size w w' := by
  go_enter Tryz.func35, Tryz.ntmps35
  go_wp2
  have hs := sq_one (w.alloc (.cells #[.int .i64 7, .int .i64 256, .slice (some ⟨w.heap.size + 1, 0, none⟩) 1 1, .slice none 0 0, .slice none 0 0, .slice none 0 0] 25)) ⟨[1, 97, 0], 1, 1⟩
  rw [World.size_alloc] at hs
  refine bodyPost_ret (by simp [results, Tryz.results35, go_sem]) rfl ⟨.agg #[.int .i64 7, .int .i64 256, .slice (some ⟨w.heap.size + 1, 0, none⟩) 1 1, .slice none 0 0, .slice none 0 0, .slice none 0 0], rfl, ?_, ?_⟩
  · exact ⟨_, _, _, _, rfl, Lst.wide hs (by simp), Lst.nil _ _, Lst.nil _ _, Lst.nil _ _⟩
  · exact ((Below.refl _ _).alloc (Nat.le_refl _) _).alloc (by simp) _

set_option maxHeartbeats 8000000 in
theorem awakeM_any (w : World) : Calls Tryz.prog 18 #[] w (Tells w (.bool true)) := by
  have HAsk := Lib.hid (fun wx => asked_any wx)
  have HWr := Lib.hid (fun (wx : World) (v : Value) (h : Mg wx wx.heap.size v ask0) => writeM_any h (Nat.le_refl _) ask0_fine (by decide))
  rw [ask0_wr] at HWr
  have HRd := Lib.hid (fun (wx : World) {lo hi : Nat} {vb : Value} (h : Sl wx lo hi vb (iz ask0B)) (hh : hi ≤ wx.heap.size) => readM_any h hh (by decide))
  rw [ask0_rd] at HRd
  have HB := Lib.hid (Below.refl w.heap.size w)
  go_enter Tryz.func18, Tryz.ntmps18
  go_wp2_with fail
  refine (HAsk.out _).mono ?_; rintro e w1 ⟨v1, rfl, hm1, hb⟩
  replace HB := Lib.hid (bel_call HB.out hb)
  have HM1 := Lib.hid hm1
  clear hm1 hb
  go_wp2_with fail
  refine (HWr.out _ _ HM1.out).mono ?_; rintro e w2 ⟨v2, rfl, ho2, hb⟩
  replace HB := Lib.hid (bel_call HB.out hb)
  have HO2 := Lib.hid (show OwnB w2 w1.heap.size v2 ask0B from ho2)
  clear ho2 hb HM1
  go_wp2_with fail
  refine (HRd.out _ HO2.out.sl (Nat.le_refl _)).mono ?_; rintro e w3 ⟨v3, rfl, hm3, hb⟩
  replace HB := Lib.hid (bel_call HB.out hb)
  replace HO2 := Lib.hid (HO2.out.below hb)
  obtain ⟨q3, a3, n3, r3, rfl, hmm⟩ := hm3
  obtain ⟨xa, xn, xc, rfl⟩ : ∃ a n c, q3 = .slice a n c := by obtain ⟨a, c, h⟩ := Lst.shape hmm.1; exact ⟨a, _, c, h⟩
  obtain ⟨ya, yn, yc, rfl⟩ : ∃ a n c, a3 = .slice a n c := by obtain ⟨a, c, h⟩ := Lst.shape hmm.2.1; exact ⟨a, _, c, h⟩
  obtain ⟨za, zn, zc, rfl⟩ : ∃ a n c, n3 = .slice a n c := by obtain ⟨a, c, h⟩ := Lst.shape hmm.2.2.1; exact ⟨a, _, c, h⟩
  obtain ⟨ta, tn, tc, rfl⟩ : ∃ a n c, r3 = .slice a n c := by obtain ⟨a, c, h⟩ := Lst.shape hmm.2.2.2; exact ⟨a, _, c, h⟩
  have hm3 : Mg w3 w3.heap.size (.agg #[.int .i64 ask0.id, .int .i64 ask0.fl, (.slice xa xn xc), (.slice ya yn yc), (.slice za zn zc), (.slice ta tn tc)]) ask0 := ⟨_, _, _, _, rfl, hmm⟩
  clear hmm hb
  have e0 : ask0.id = 7 := rfl
  have e1 : ask0.fl = 256 := rfl
  rw [e0, e1] at hm3 ⊢
  obtain ⟨g3, hg3⟩ : ∃ g, w3.heap.size = g := ⟨_, rfl⟩
  obtain ⟨W4, hW4⟩ : ∃ X, w3.alloc (.cells #[.int .i64 7, .int .i64 256, (.slice xa xn xc), (.slice ya yn yc), (.slice za zn zc), (.slice ta tn tc)] 25) = X := ⟨_, rfl⟩
  obtain ⟨W5, hW5⟩ : ∃ X, W4.alloc (.cells #[.int .i64 0, .int .i64 0] 43) = X := ⟨_, rfl⟩
  have s4 : W4.heap.size = g3 + 1 := by rw [← hW4, World.size_alloc, hg3]
  have b5 : Below w3.heap.size w3 W5 := by rw [← hW5, ← hW4]; exact ((Below.refl _ _).alloc (Nat.le_refl _) _).alloc (by simp) _
  have hx : Cel W5 g3 [.int .i64 7, .int .i64 256, (.slice xa xn xc), (.slice ya yn yc), (.slice za zn zc), (.slice ta tn tc)] := by
    have := cel_new6 w3 (.int .i64 7) (.int .i64 256) (.slice xa xn xc) (.slice ya yn yc) (.slice za zn zc) (.slice ta tn tc) 25
    rw [hW4, hg3] at this
    exact this.below (by simp) (by rw [← hW5]; exact (Below.refl _ _).alloc (Nat.le_refl _) _)
  have hy : Cel W5 (g3 + 1) [.int .i64 0, .int .i64 0] := by
    have := cel_new2 W4 (.int .i64 0) (.int .i64 0) 43
    rwa [hW5, s4] at this
  obtain ⟨WX, hWX⟩ : ∃ X, W5.drew = X := ⟨_, rfl⟩
  have b6 : Below w3.heap.size w3 WX := by rw [← hWX]; exact b5.drew
  have HX := Lib.hid (show Cel WX g3 [.int .i64 7, .int .i64 256, (.slice xa xn xc), (.slice ya yn yc), (.slice za zn zc), (.slice ta tn tc)] by rw [← hWX]; exact ⟨hx.c, hx.fz⟩)
  have HY := Lib.hid (show Cel WX (g3 + 1) [.int .i64 0, .int .i64 0] by rw [← hWX]; exact ⟨hy.c, hy.fz⟩)
  replace HB := Lib.hid (bel_call HB.out b6)
  replace HO2 := Lib.hid (HO2.out.below b6)
  have HM3 := Lib.hid (hm3.later b6)
  clear hx hy b5 b6 hm3 e0 e1
  subst hW5
  go_wp2_with fail
  refine wp_region_held_drew (S := (fun wx => wx.cell? ⟨g3 + 1, 0, none⟩ = some (.int .i64 0) ∧ wx.cell? ⟨g3, 0, none⟩ = some (.int .i64 7) ∧ wx.cell? ⟨g3, 1, none⟩ = some (.int .i64 256) ∧ wx.cell? ⟨g3, 2, none⟩ = some (.slice xa xn xc) ∧ wx.cell? ⟨g3, 3, none⟩ = some (.slice ya yn yc) ∧ wx.cell? ⟨g3, 4, none⟩ = some (.slice za zn zc) ∧ wx.cell? ⟨g3, 5, none⟩ = some (.slice ta tn tc))) (by kernel_rfl) (by rw [hWX]; exact ⟨HY.out.c 0 (by simp), HX.out.six⟩) (fun hHeld => ?_)
  refine wpAnyH_take (i := 0) (oi := { dst := some 15, op := Op.move (Operand.tmp 2), type := 29, pos := "outright.go:20", after := #[], guard := none }) (v := ?_) rfl (by kernel_rfl) (by kernel_rfl) (by kernel_rfl) (fun _ _ _ h => h) (Or.inl ⟨by rfl, ?_⟩) (by assumption) ?_
  rotate_left 1
  · intro w hSw; (try dsimp only at hSw); go_simp; try (with_reducible rfl)
  try simp only [Act.put, List.setIfInBounds_toArray, List.set_cons_zero, List.set_cons_succ]
  refine wpAnyH_take (i := 1) (oi := { dst := some 16, op := Op.binOp BinOp.eql 29 (Operand.tmp 15) (Operand.const (Value.int IntKind.i64 0)) 29, type := 4, pos := "outright.go:20", after := #[{ on := 0, ground := Ground.data }], guard := none }) (v := ?_) rfl (by kernel_rfl) (by kernel_rfl) (by kernel_rfl) (fun _ _ _ h => h) (Or.inl ⟨by rfl, ?_⟩) (by assumption) ?_
  rotate_left 1
  · intro w hSw; (try dsimp only at hSw); go_simp; try (with_reducible rfl)
  try simp only [Act.put, List.setIfInBounds_toArray, List.set_cons_zero, List.set_cons_succ]
  refine wpAnyH_take (i := 2) (oi := { dst := some 17, op := Op.move (Operand.tmp 16), type := 4, pos := "outright.go:20", after := #[{ on := 1, ground := Ground.data }], guard := none }) (v := ?_) rfl (by kernel_rfl) (by kernel_rfl) (by kernel_rfl) (fun _ _ _ h => h) (Or.inl ⟨by rfl, ?_⟩) (by assumption) ?_
  rotate_left 1
  · intro w hSw; (try dsimp only at hSw); go_simp; try (with_reducible rfl)
  try simp only [Act.put, List.setIfInBounds_toArray, List.set_cons_zero, List.set_cons_succ]
  refine wpAnyH_take (i := 3) (oi := { dst := some 18, op := Op.move (Operand.tmp 1), type := 28, pos := "outright.go:20", after := #[{ on := 2, ground := Ground.guard }], guard := some (2, true) }) (v := ?_) rfl (by kernel_rfl) (by kernel_rfl) (by kernel_rfl) (fun _ _ _ h => h) (Or.inl ⟨by rfl, ?_⟩) (by assumption) ?_
  rotate_left 1
  · intro w hSw; (try dsimp only at hSw); go_simp; try (with_reducible rfl)
  try simp only [Act.put, List.setIfInBounds_toArray, List.set_cons_zero, List.set_cons_succ]
  refine wpAnyH_ready (rs := [4]) (by kernel_rfl) (by simp) ?_
  refine AllReadyH.cons (o := { dst := some 19, op := Op.buildSlice 28 19 #[(0, Operand.const (Value.int IntKind.u8 0)), (1, Operand.const (Value.int IntKind.u8 7)), (2, Operand.const (Value.int IntKind.u8 1)), (3, Operand.const (Value.int IntKind.u8 0)), (4, Operand.const (Value.int IntKind.u8 0)), (5, Operand.const (Value.int IntKind.u8 1)), (6, Operand.const (Value.int IntKind.u8 0)), (7, Operand.const (Value.int IntKind.u8 0)), (8, Operand.const (Value.int IntKind.u8 0)), (9, Operand.const (Value.int IntKind.u8 0)), (10, Operand.const (Value.int IntKind.u8 0)), (11, Operand.const (Value.int IntKind.u8 0)), (12, Operand.const (Value.int IntKind.u8 1)), (13, Operand.const (Value.int IntKind.u8 97)), (14, Operand.const (Value.int IntKind.u8 0)), (15, Operand.const (Value.int IntKind.u8 0)), (16, Operand.const (Value.int IntKind.u8 1)), (17, Operand.const (Value.int IntKind.u8 0)), (18, Operand.const (Value.int IntKind.u8 1))], type := 28, pos := "outright.go:20", after := #[{ on := 2, ground := Ground.guard }], guard := some (2, true) }) rfl (fun K hK => ?_) (AllReadyH.nil)
  go_simp
  have hb : Below WX.heap.size WX (WX.alloc (.cells #[.int .u8 0, .int .u8 7, .int .u8 1, .int .u8 0, .int .u8 0, .int .u8 1, .int .u8 0, .int .u8 0, .int .u8 0, .int .u8 0, .int .u8 0, .int .u8 0, .int .u8 1, .int .u8 97, .int .u8 0, .int .u8 0, .int .u8 1, .int .u8 0, .int .u8 1] 5)) := (Below.refl _ _).alloc (Nat.le_refl _) _
  have HS := Lib.hid (show Sl (WX.alloc (.cells #[.int .u8 0, .int .u8 7, .int .u8 1, .int .u8 0, .int .u8 0, .int .u8 1, .int .u8 0, .int .u8 0, .int .u8 0, .int .u8 0, .int .u8 0, .int .u8 0, .int .u8 1, .int .u8 97, .int .u8 0, .int .u8 0, .int .u8 1, .int .u8 0, .int .u8 1] 5)) WX.heap.size (WX.heap.size + 1) (.slice (some ⟨WX.heap.size, 0, none⟩) 19 19) (iz ask0B) from lit_sl WX ask0B)
  replace HX := Lib.hid (HX.out.below (by simp) hb)
  replace HY := Lib.hid (HY.out.below (by simp) hb)
  replace HB := Lib.hid (bel_call HB.out hb)
  replace HO2 := Lib.hid (HO2.out.below hb)
  replace HM3 := Lib.hid (HM3.out.later hb)
  clear hb
  refine hK.out _ _ ⟨HY.out.c 0 (by simp), HX.out.six⟩ (fun hHeld => ?_)
  clear hK K
  try simp only [Act.put, List.setIfInBounds_toArray, List.set_cons_zero, List.set_cons_succ]
  refine wpAnyH_ready (rs := [5]) (by kernel_rfl) (by simp) ?_
  refine AllReadyH.cons (o := { dst := some 20, op := Op.call { callee := Callee.value (Operand.func 15), args := #[Operand.tmp 18, Operand.tmp 19], argTypes := #[28, 28] }, type := 4, pos := "outright.go:20", after := #[{ on := 3, ground := Ground.data }, { on := 4, ground := Ground.data }, { on := 2, ground := Ground.chain }, { on := 2, ground := Ground.guard }], guard := some (2, true) }) rfl (fun K hK => ?_) (AllReadyH.nil)
  go_simp
  refine (same_any HO2.out.sl HS.out).mono ?_; rintro e0 w5 ⟨rfl, rfl⟩
  try go_wp2_with fail
  refine hK.out _ _ ⟨HY.out.c 0 (by simp), HX.out.six⟩ (fun hHeld => ?_)
  clear hK K
  try simp only [Act.put, List.setIfInBounds_toArray, List.set_cons_zero, List.set_cons_succ]
  refine wpAnyH_take (i := 6) (oi := { dst := some 21, op := Op.pick (Operand.tmp 17) (Operand.tmp 20) (Operand.const (Value.bool false)), type := 4, pos := "outright.go:20", after := #[{ on := 2, ground := Ground.data }, { on := 5, ground := Ground.data }], guard := none }) (v := ?_) rfl (by kernel_rfl) (by kernel_rfl) (by kernel_rfl) (fun _ _ _ h => h) (Or.inl ⟨by rfl, ?_⟩) (by assumption) ?_
  rotate_left 1
  · intro w hSw; (try dsimp only at hSw); go_simp; try (with_reducible rfl)
  try simp only [Act.put, List.setIfInBounds_toArray, List.set_cons_zero, List.set_cons_succ]
  refine wpAnyH_take (i := 7) (oi := { dst := some 22, op := Op.move (Operand.tmp 21), type := 4, pos := "outright.go:20", after := #[{ on := 6, ground := Ground.data }, { on := 5, ground := Ground.chain }], guard := none }) (v := ?_) rfl (by kernel_rfl) (by kernel_rfl) (by kernel_rfl) (fun _ _ _ h => h) (Or.inl ⟨by rfl, ?_⟩) (by assumption) ?_
  rotate_left 1
  · intro w hSw; (try dsimp only at hSw); go_simp; try (with_reducible rfl)
  try simp only [Act.put, List.setIfInBounds_toArray, List.set_cons_zero, List.set_cons_succ]
  refine wpAnyH_take (i := 8) (oi := { dst := some 23, op := Op.fieldAddr 43 (Operand.tmp 4) 0, type := 0, pos := "outright.go:20", after := #[{ on := 7, ground := Ground.guard }], guard := some (7, true) }) (v := ?_) rfl (by kernel_rfl) (by kernel_rfl) (by kernel_rfl) (fun _ _ _ h => h) (Or.inl ⟨by rfl, ?_⟩) (by assumption) ?_
  rotate_left 1
  · intro w hSw; (try dsimp only at hSw); go_simp; try (with_reducible rfl)
  try simp only [Act.put, List.setIfInBounds_toArray, List.set_cons_zero, List.set_cons_succ]
  refine wpAnyH_take (i := 9) (oi := { dst := some 24, op := Op.load 29 (Operand.tmp 23), type := 29, pos := "outright.go:20", after := #[{ on := 8, ground := Ground.data }, { on := 7, ground := Ground.guard }], guard := some (7, true) }) (v := ?_) rfl (by kernel_rfl) (by kernel_rfl) (by kernel_rfl) (fun _ _ _ h => h) (Or.inl ⟨by rfl, ?_⟩) (by assumption) ?_
  rotate_left 1
  · intro w hSw; (try dsimp only at hSw); go_simp; try (with_reducible rfl)
  try simp only [Act.put, List.setIfInBounds_toArray, List.set_cons_zero, List.set_cons_succ]
  refine wpAnyH_take (i := 10) (oi := { dst := some 25, op := Op.binOp BinOp.eql 29 (Operand.tmp 24) (Operand.const (Value.int IntKind.i64 0)) 29, type := 4, pos := "outright.go:20", after := #[{ on := 9, ground := Ground.data }, { on := 7, ground := Ground.guard }], guard := some (7, true) }) (v := ?_) rfl (by kernel_rfl) (by kernel_rfl) (by kernel_rfl) (fun _ _ _ h => h) (Or.inl ⟨by rfl, ?_⟩) (by assumption) ?_
  rotate_left 1
  · intro w hSw; (try dsimp only at hSw); go_simp; try (with_reducible rfl)
  try simp only [Act.put, List.setIfInBounds_toArray, List.set_cons_zero, List.set_cons_succ]
  refine wpAnyH_take (i := 11) (oi := { dst := some 26, op := Op.pick (Operand.tmp 22) (Operand.tmp 25) (Operand.const (Value.bool false)), type := 4, pos := "outright.go:20", after := #[{ on := 7, ground := Ground.data }, { on := 10, ground := Ground.data }], guard := none }) (v := ?_) rfl (by kernel_rfl) (by kernel_rfl) (by kernel_rfl) (fun _ _ _ h => h) (Or.inl ⟨by rfl, ?_⟩) (by assumption) ?_
  rotate_left 1
  · intro w hSw; (try dsimp only at hSw); go_simp; try (with_reducible rfl)
  try simp only [Act.put, List.setIfInBounds_toArray, List.set_cons_zero, List.set_cons_succ]
  refine wpAnyH_take (i := 12) (oi := { dst := some 27, op := Op.move (Operand.tmp 26), type := 4, pos := "outright.go:20", after := #[{ on := 11, ground := Ground.data }, { on := 7, ground := Ground.chain }], guard := none }) (v := ?_) rfl (by kernel_rfl) (by kernel_rfl) (by kernel_rfl) (fun _ _ _ h => h) (Or.inl ⟨by rfl, ?_⟩) (by assumption) ?_
  rotate_left 1
  · intro w hSw; (try dsimp only at hSw); go_simp; try (with_reducible rfl)
  try simp only [Act.put, List.setIfInBounds_toArray, List.set_cons_zero, List.set_cons_succ]
  refine wpAnyH_take (i := 13) (oi := { dst := some 28, op := Op.load 25 (Operand.tmp 3), type := 25, pos := "outright.go:20", after := #[{ on := 12, ground := Ground.guard }], guard := some (12, true) }) (v := ?_) rfl (by kernel_rfl) (by kernel_rfl) (by kernel_rfl) (fun _ _ _ h => h) (Or.inl ⟨by rfl, ?_⟩) (by assumption) ?_
  rotate_left 1
  · intro w hSw; (try dsimp only at hSw); go_simp; try (with_reducible rfl)
  try simp only [Act.put, List.setIfInBounds_toArray, List.set_cons_zero, List.set_cons_succ]
  refine wpAnyH_ready (rs := [14]) (by kernel_rfl) (by simp) ?_
  refine AllReadyH.cons (o := { dst := some 29, op := Op.call { callee := Callee.value (Operand.func 35), args := #[], argTypes := #[] }, type := 25, pos := "outright.go:20", after := #[{ on := 12, ground := Ground.chain }, { on := 12, ground := Ground.guard }], guard := some (12, true) }) rfl (fun K hK => ?_) (AllReadyH.nil)
  go_simp
  refine (HAsk.out _).mono ?_; rintro e0 w6 ⟨v6, rfl, hm6, hb⟩
  have HM6 := Lib.hid hm6
  replace HX := Lib.hid (HX.out.below (by simp) hb)
  replace HY := Lib.hid (HY.out.below (by simp) hb)
  replace HB := Lib.hid (bel_call HB.out hb)
  replace HO2 := Lib.hid (HO2.out.below hb)
  replace HM3 := Lib.hid (HM3.out.later hb)
  clear hb hm6
  try go_wp2_with fail
  refine hK.out _ _ ⟨HY.out.c 0 (by simp), HX.out.six⟩ (fun hHeld => ?_)
  clear hK K
  try simp only [Act.put, List.setIfInBounds_toArray, List.set_cons_zero, List.set_cons_succ]
  refine wpAnyH_ready (rs := [15]) (by kernel_rfl) (by simp) ?_
  refine AllReadyH.cons (o := { dst := some 30, op := Op.call { callee := Callee.value (Operand.func 21), args := #[Operand.tmp 28, Operand.tmp 29], argTypes := #[25, 25] }, type := 4, pos := "outright.go:20", after := #[{ on := 13, ground := Ground.data }, { on := 14, ground := Ground.data }, { on := 14, ground := Ground.chain }, { on := 12, ground := Ground.guard }], guard := some (12, true) }) rfl (fun K hK => ?_) (AllReadyH.nil)
  go_simp
  refine (sameM_yes HM3.out HM6.out (Nat.le_refl _) (Nat.le_refl _)).mono ?_; rintro e0 w7 ⟨rfl, hb⟩
  replace HX := Lib.hid (HX.out.below (by simp) hb)
  replace HY := Lib.hid (HY.out.below (by simp) hb)
  replace HB := Lib.hid (bel_call HB.out hb)
  replace HO2 := Lib.hid (HO2.out.below hb)
  replace HM3 := Lib.hid (HM3.out.later hb)
  clear hb
  try go_wp2_with fail
  refine hK.out _ _ ⟨HY.out.c 0 (by simp), HX.out.six⟩ (fun hHeld => ?_)
  clear hK K
  try simp only [Act.put, List.setIfInBounds_toArray, List.set_cons_zero, List.set_cons_succ]
  refine wpAnyH_take (i := 16) (oi := { dst := some 31, op := Op.pick (Operand.tmp 27) (Operand.tmp 30) (Operand.const (Value.bool false)), type := 4, pos := "outright.go:20", after := #[{ on := 12, ground := Ground.data }, { on := 15, ground := Ground.data }], guard := none }) (v := ?_) rfl (by kernel_rfl) (by kernel_rfl) (by kernel_rfl) (fun _ _ _ h => h) (Or.inl ⟨by rfl, ?_⟩) (by assumption) ?_
  rotate_left 1
  · intro w hSw; (try dsimp only at hSw); go_simp; try (with_reducible rfl)
  try simp only [Act.put, List.setIfInBounds_toArray, List.set_cons_zero, List.set_cons_succ]
  refine wpAnyH_take (i := 17) (oi := { dst := some 0, op := Op.assign (Operand.tmp 31), type := 4, pos := "outright.go:20", after := #[{ on := 16, ground := Ground.data }, { on := 15, ground := Ground.chain }, { on := 0, ground := Ground.phase }, { on := 1, ground := Ground.phase }, { on := 2, ground := Ground.phase }, { on := 3, ground := Ground.phase }, { on := 4, ground := Ground.phase }, { on := 5, ground := Ground.phase }, { on := 6, ground := Ground.phase }, { on := 7, ground := Ground.phase }, { on := 8, ground := Ground.phase }, { on := 9, ground := Ground.phase }, { on := 10, ground := Ground.phase }, { on := 11, ground := Ground.phase }, { on := 12, ground := Ground.phase }, { on := 13, ground := Ground.phase }, { on := 14, ground := Ground.phase }, { on := 15, ground := Ground.phase }, { on := 16, ground := Ground.phase }], guard := none }) (v := ?_) rfl (by kernel_rfl) (by kernel_rfl) (by kernel_rfl) (fun _ _ _ h => h) (Or.inl ⟨by rfl, ?_⟩) (by assumption) ?_
  rotate_left 1
  · intro w hSw; (try dsimp only at hSw); go_simp; try (with_reducible rfl)
  try simp only [Act.put, List.setIfInBounds_toArray, List.set_cons_zero, List.set_cons_succ]
  refine wpAnyH_done (by kernel_rfl) ?_ _
  clear hHeld
  go_wp2_with fail
  go_ret
  exact ⟨rfl, HB.out⟩
end Go.Proofs.YtdikgjbpjdnodaaGreat

/-
  Flags: the opcode, the code, another code; the statement about them.
-/
namespace Go.Proofs.YtdikgjbpjdnodaaGreat
open Go.RowKit Go.Shelf
set_option linter.unusedVariables false
set_option linter.unusedSimpArgs false
set_option maxRecDepth 100000

theorem i64_and15 (n : Int) : bits .and .i64 n 15 = n % 16 := by
  have h15 : (BitVec.ofInt 64 15).toNat = 2 ^ 4 - 1 := by decide
  have key : (BitVec.ofInt 64 n &&& BitVec.ofInt 64 15).toNat = (n % ((2 ^ 64 : Nat) : Int)).toNat % 2 ^ 4 := by
    rw [BitVec.toNat_and, BitVec.toNat_ofInt, h15, Nat.and_two_pow_sub_one_eq_mod]
  show IntKind.i64.wrap ((BitVec.ofInt 64 n &&& BitVec.ofInt 64 15).toNat : Nat) = n % 16
  rw [key, IntKind.wrap_i64]
  omega
theorem i64_and65535 (n : Int) : bits .and .i64 n 65535 = n % 65536 := by
  have h15 : (BitVec.ofInt 64 65535).toNat = 2 ^ 16 - 1 := by decide
  have key : (BitVec.ofInt 64 n &&& BitVec.ofInt 64 65535).toNat = (n % ((2 ^ 64 : Nat) : Int)).toNat % 2 ^ 16 := by
    rw [BitVec.toNat_and, BitVec.toNat_ofInt, h15, Nat.and_two_pow_sub_one_eq_mod]
  show IntKind.i64.wrap ((BitVec.ofInt 64 n &&& BitVec.ofInt 64 65535).toNat : Nat) = n % 65536
  rw [key, IntKind.wrap_i64]
  omega
theorem and_not_sub (x m : BitVec 64) : x &&& ~~~m = x - (x &&& m) := by
  have h0 : (x &&& ~~~m) &&& (x &&& m) = 0#64 := by
    ext i hi
    simp only [BitVec.getElem_and, BitVec.getElem_not, BitVec.getElem_zero]
    cases x[i] <;> cases m[i] <;> rfl
  have h1 : (x &&& ~~~m) ||| (x &&& m) = x := by
    ext i hi
    simp only [BitVec.getElem_and, BitVec.getElem_not, BitVec.getElem_or]
    cases x[i] <;> cases m[i] <;> rfl
  have h2 := BitVec.add_eq_or_of_and_eq_zero _ _ h0
  rw [h1] at h2
  calc x &&& ~~~m = (x &&& ~~~m) + (x &&& m) - (x &&& m) := (BitVec.add_sub_cancel _ _).symm
    _ = x - (x &&& m) := by rw [h2]
theorem i64_andNot15 (n : Int) (h0 : 0 ≤ n) (h1 : n < 65536) : bits .andNot .i64 n 15 = n - n % 16 := by
  show IntKind.i64.wrap ((BitVec.ofInt 64 n &&& ~~~BitVec.ofInt 64 15).toNat : Nat) = n - n % 16
  have h15 : (BitVec.ofInt 64 15).toNat = 2 ^ 4 - 1 := by decide
  have key : (BitVec.ofInt 64 n &&& BitVec.ofInt 64 15).toNat = (n % ((2 ^ 64 : Nat) : Int)).toNat % 2 ^ 4 := by
    rw [BitVec.toNat_and, BitVec.toNat_ofInt, h15, Nat.and_two_pow_sub_one_eq_mod]
  rw [and_not_sub, BitVec.toNat_sub, key, BitVec.toNat_ofInt, IntKind.wrap_i64]
  omega
theorem i64_or16 (a b : Int) (ha : 0 ≤ a) (ha2 : a < 65536) (h16 : a % 16 = 0) (hb : 0 ≤ b) (hb2 : b < 16) : bits .or .i64 a b = a + b := by
  show IntKind.i64.wrap ((BitVec.ofInt 64 a ||| BitVec.ofInt 64 b).toNat : Nat) = a + b
  have e1 : (BitVec.ofInt 64 a).toNat = 2 ^ 4 * (a.toNat / 16) := by rw [BitVec.toNat_ofInt]; omega
  have e2 : (BitVec.ofInt 64 b).toNat = b.toNat := by rw [BitVec.toNat_ofInt]; omega
  rw [BitVec.toNat_or, e1, e2, ← Nat.two_pow_add_eq_or_of_lt (by omega), IntKind.wrap_i64]
  omega

/-- The opcode, the code, the flags with another code. -/
def opF (f : Int) : Int := f / 2048 % 16
def cdF (f : Int) : Int := f % 16
def wcF (f c : Int) : Int := f % 65536 - f % 65536 % 16 + c % 16
theorem wcF_bits (f c : Int) : bits .or .i64 (bits .andNot .i64 (bits .and .i64 f 65535) 15) (bits .and .i64 c 15) = wcF f c := by
  rw [i64_and65535, i64_andNot15 _ (by omega) (by omega), i64_and15, i64_or16 _ _ (by omega) (by omega) (by omega) (by omega) (by omega)]
  rfl

/-- The same value is told, nothing in memory turns. -/
def Tell0 (w : World) (v : Value) (e : Ending) (w' : World) : Prop := e = .returned v ∧ w = w'

theorem mop_any (f : Int) (w : World) : Calls Tryz.prog 23 #[.int .i64 f] w (Tell0 w (.int .i64 (opF f))) := by
  go_enter Tryz.func23, Tryz.ntmps23
  go_wp2
  go_ret
  exact ⟨by rw [i64_and15]; rfl, rfl⟩
theorem mcode_any (f : Int) (w : World) : Calls Tryz.prog 25 #[.int .i64 f] w (Tell0 w (.int .i64 (cdF f))) := by
  go_enter Tryz.func25, Tryz.ntmps25
  go_wp2
  go_ret
  exact ⟨by rw [i64_and15]; rfl, rfl⟩
theorem mwith_any (f c : Int) (w : World) : Calls Tryz.prog 27 #[.int .i64 f, .int .i64 c] w (Tell0 w (.int .i64 (wcF f c))) := by
  have h := wcF_bits f c
  obtain ⟨x, hx⟩ : ∃ x, wcF f c = x := ⟨_, rfl⟩
  rw [hx] at h ⊢
  clear hx
  go_enter Tryz.func27, Tryz.ntmps27
  go_wp2
  go_ret
  exact ⟨rfl, rfl⟩

theorem rop_any (f : Int) (w : World) : Calls Tryz.prog 24 #[.int .i64 f] w (Tell0 w (.int .i64 (opF f))) := by
  go_enter Tryz.func24, Tryz.ntmps24
  go_wp2
  go_ret
  exact ⟨by rw [i64_and15]; rfl, rfl⟩
theorem rcode_any (f : Int) (w : World) : Calls Tryz.prog 26 #[.int .i64 f] w (Tell0 w (.int .i64 (cdF f))) := by
  go_enter Tryz.func26, Tryz.ntmps26
  go_wp2
  go_ret
  exact ⟨by rw [i64_and15]; rfl, rfl⟩
theorem rwith_any (f c : Int) (w : World) : Calls Tryz.prog 28 #[.int .i64 f, .int .i64 c] w (Tell0 w (.int .i64 (wcF f c))) := by
  have h := wcF_bits f c
  obtain ⟨x, hx⟩ : ∃ x, wcF f c = x := ⟨_, rfl⟩
  rw [hx] at h ⊢
  clear hx
  go_enter Tryz.func28, Tryz.ntmps28
  go_wp2
  go_ret
  exact ⟨rfl, rfl⟩

end Go.Proofs.YtdikgjbpjdnodaaGreat

/-
  The bare answer: Reply, and its flags.
-/
namespace Go.Proofs.YtdikgjbpjdnodaaGreat
open Go.RowKit Go.Shelf
set_option linter.unusedVariables false
set_option linter.unusedSimpArgs false
set_option maxRecDepth 100000

/-- The flags of a bare answer. -/
def rpB (f : Int) : Int := bits .or .i64 (bits .or .i64 (bits .and .i64 f 30992) 32768) 128
def rpF (f c : Int) : Int := wcF (rpB f) c

/-- The answer while questions are being taken over. -/
structure Rp (w wr : World) (N : Nat) (i f : Int) (qv : Value) (l : List Qn) : Prop where
  bel : Below N w wr
  z : Cel wr (N + 1) [.int .i64 0, .int .i64 0, .slice none 0 0, .slice none 0 0, .slice none 0 0, .slice none 0 0]
  r : Cel wr (N + 2) [.int .i64 i, .int .i64 f, qv, .slice none 0 0, .slice none 0 0, .slice none 0 0]
  own : OwnQn wr (N + 3) qv l
  size : N + 3 ≤ wr.heap.size

section
variable {w wr w' : World} {N : Nat} {i f : Int} {qv : Value} {l : List Qn}
theorem Rp.later (h : Rp w wr N i f qv l) (hb : Below wr.heap.size wr w') : Rp w w' N i f qv l :=
  ⟨below_aside h.bel (Aside.of_all hb : Aside (fun _ => False) wr w') (fun k hk => ⟨by have := h.size; omega, id⟩), h.z.below (by simp) hb, h.r.below (by simp) hb, row_below h.own hb, Nat.le_trans h.size hb.size⟩
theorem Rp.aside {b : Nat} (h : Rp w wr N i f qv l) (ha : Aside (fun k => k = b) wr w') (hb : N + 3 ≤ b) (ho : ∀ k, qv.ownBlock = some k → k ≠ b) : Rp w w' N i f qv l :=
  ⟨below_aside h.bel ha (fun k hk => ⟨by have := h.size; omega, by omega⟩), h.z.aside (by simp) ha (by omega), h.r.aside (by simp) ha (by omega), row_aside h.own ha ho, Nat.le_trans h.size ha.size⟩
/-- A question is laid behind the others. -/
theorem Rp.app (h : Rp w wr N i f qv l) {hi : Nat} {u : Value} {x : Qn} (hx : SQ wr hi u [x]) (hl : l.length + 1 ≤ 1000000) :
    ∃ a c w6, (Builtin.append_ #[22, 22] 22 #[qv, u]).run Tryz.prog wr = .ok (.slice a (l.length + 1) c) w6 ∧ w6.frozen? ⟨N + 2, 2, none⟩ = false ∧ w6.cell? ⟨N + 2, 2, none⟩ = some qv ∧
      Rp w (w6.setCell ⟨N + 2, 2, none⟩ (.slice a (l.length + 1) c)) N i f (.slice a (l.length + 1) c) (l ++ [x]) ∧ (∀ b, (Value.slice a (l.length + 1) c).ownBlock = some b → qv.ownBlock = some b ∨ wr.heap.size ≤ b) := by
  obtain ⟨a, c, w6, h1, h2, h3, h4⟩ := run_appQn h.own hx hl h.size
  simp only [List.length_singleton] at h1 h2 h4
  have hlt := World.ownsRow.lt h.own
  have hG : ∀ k, k < N + 3 → ¬ qv.ownBlock = some k := fun k hk hg => by have := (hlt k hg).1; omega
  have z6 := h.z.aside (by simp) h3 (hG _ (by omega))
  have r6 := h.r.aside (by simp) h3 (hG _ (by omega))
  have hs := Nat.le_trans h.size h3.size
  have hst : Aside (fun k => k = N + 2) w6 (w6.setCell ⟨N + 2, 2, none⟩ (.slice a (l.length + 1) c)) := Aside.setCell w6 (p := ⟨N + 2, 2, none⟩) _ rfl
  refine ⟨a, c, w6, h1, r6.fz 2, r6.c 2 (by simp), ⟨?_, z6.other (a := ⟨N + 2, 2, none⟩) (by show N + 2 ≠ N + 1; omega) _, r6.set (o := 2) (by simp) _, row_aside h2 hst fun k hk hg => by have := (World.ownsRow.lt h2 k hk).1; omega, Nat.le_trans hs hst.size⟩, fun b hb => ?_⟩
  · exact below_aside (below_aside h.bel h3 (fun k hk => ⟨by have := h.size; omega, hG k (by omega)⟩)) hst (fun k hk => ⟨by omega, by omega⟩)
  · rcases h4 with h4 | h4
    · exact .inl (by rw [← h4]; exact hb)
    · right
      rw [h4] at hb
      injection hb with hb
      omega
end

section
variable {w : World} {q : Nat} {a0 a1 a2 a3 a4 a5 : Value}
/-- Six cells stored one after another. -/
def put6 (w : World) (q : Nat) (b0 b1 b2 b3 b4 b5 : Value) : World :=
  (((((w.setCell ⟨q, 0, none⟩ b0).setCell ⟨q, 1, none⟩ b1).setCell ⟨q, 2, none⟩ b2).setCell ⟨q, 3, none⟩ b3).setCell ⟨q, 4, none⟩ b4).setCell ⟨q, 5, none⟩ b5
theorem cel_put6 (h : Cel w q [a0, a1, a2, a3, a4, a5]) (b0 b1 b2 b3 b4 b5 : Value) : Cel (put6 w q b0 b1 b2 b3 b4 b5) q [b0, b1, b2, b3, b4, b5] := by
  have := (((((h.set (o := 0) (by simp) b0).set (o := 1) (by simp) b1).set (o := 2) (by simp) b2).set (o := 3) (by simp) b3).set (o := 4) (by simp) b4).set (o := 5) (by simp) b5
  simp only [List.set_cons_zero, List.set_cons_succ] at this
  exact this
theorem aside_put6 (w : World) (q : Nat) (b0 b1 b2 b3 b4 b5 : Value) : Aside (fun k => k = q) w (put6 w q b0 b1 b2 b3 b4 b5) := by
  have st : ∀ (x : World) (o : Nat) (v : Value), Aside (fun k => k = q) x (x.setCell ⟨q, o, none⟩ v) := fun x o v => Aside.setCell x (p := ⟨q, o, none⟩) v rfl
  exact (((((st _ _ _).trans (st _ _ _)).trans (st _ _ _)).trans (st _ _ _)).trans (st _ _ _)).trans (st _ _ _)
end

theorem row_base {w : World} {B B' k n : Nat} {e : TypeId} {v : Value} {xs : List Value} (h : w.ownsRow B e k v n xs) (hB : B' ≤ B) : w.ownsRow B' e k v n xs := by
  refine ⟨h.1, ?_⟩
  rcases h.2 with h2 | ⟨g, cap, cur, h2⟩
  · exact .inl h2
  · exact .inr ⟨g, cap, cur, h2.1, Nat.le_trans hB h2.2.1, h2.2.2⟩

theorem qn_take (l : List Qn) (k : Nat) (h : k < l.length) : l.take k ++ [l[k]] = l.take (k + 1) := by
  rw [List.take_add_one, List.getElem?_eq_getElem h, Option.toList_some]

/-- What Reply tells. -/
def RpPost (w : World) (m : Ms) (c : Int) (e : Ending) (w' : World) : Prop := ∃ q, e = .returned (.agg #[.int .i64 m.id, .int .i64 (rpF m.fl c), q, .slice none 0 0, .slice none 0 0, .slice none 0 0]) ∧ OwnQn w' w.heap.size q m.q ∧ Below w.heap.size w w'

set_option maxHeartbeats 8000000 in
theorem replyM_any {w : World} {hi : Nat} {u : Value} {m : Ms} (c : Int) (h : Mg w hi u m) (h1 : hi ≤ w.heap.size) (hl : m.q.length ≤ 900000) (hn : ∀ x ∈ m.q, x.n.length ≤ 1000000) :
    Calls Tryz.prog 19 #[u, .int .i64 c] w (RpPost w m c) := by
  obtain ⟨q, a, n, r, rfl, hq, _, _, _⟩ := h
  obtain ⟨xa, xc, rfl⟩ := Lst.shape hq
  obtain ⟨i0, hi0⟩ : ∃ i, m.id = i := ⟨_, rfl⟩
  obtain ⟨f0, hf0⟩ : ∃ i, m.fl = i := ⟨_, rfl⟩
  obtain ⟨l, hlq⟩ : ∃ l, m.q = l := ⟨_, rfl⟩
  unfold RpPost
  rw [hi0, hf0, hlq]
  rw [hlq] at hq hl hn
  clear hi0 hf0 hlq
  obtain ⟨fl, hfl⟩ : ∃ y, rpF f0 c = y := ⟨_, rfl⟩
  obtain ⟨ls, hls⟩ : ∃ n, l.length = n := ⟨_, rfl⟩
  obtain ⟨N, hN⟩ : ∃ g, w.heap.size = g := ⟨_, rfl⟩
  have HQ := Lib.hid hq
  have HLN := Lib.hid (Lst.len hq)
  have HL := Lib.hid hl
  have HNN := Lib.hid hn
  have HF := Lib.hid (fun wx => (by have := mwith_any (rpB f0) c wx; rw [show wcF (rpB f0) c = fl from hfl] at this; exact this : Calls Tryz.prog 27 #[.int .i64 (rpB f0), .int .i64 c] wx (Tell0 wx (.int .i64 fl))))
  have HHI := Lib.hid h1
  have HN := Lib.hid hN
  rw [hls] at HLN
  rw [hfl]
  clear hq hl hn h1 hfl hN
  unfold rpB at HF
  rw [hls]
  go_enter Tryz.func19, Tryz.ntmps19
  go_wp2_with fail
  obtain ⟨W1, hW1⟩ : ∃ X, w.alloc (.cells #[.int .i64 i0, .int .i64 f0, .slice xa ls xc, a, n, r] 25) = X := ⟨_, rfl⟩
  obtain ⟨W2, hW2⟩ : ∃ X, W1.alloc (.cells #[.int .i64 0, .int .i64 0, .slice none 0 0, .slice none 0 0, .slice none 0 0, .slice none 0 0] 25) = X := ⟨_, rfl⟩
  rw [hW1, hW2, HN.out]
  have s1 : W1.heap.size = N + 1 := by rw [← hW1, World.size_alloc, HN.out]
  have s2 : W2.heap.size = N + 2 := by rw [← hW2, World.size_alloc, s1]
  have x1 : Cel W1 N [.int .i64 i0, .int .i64 f0, .slice xa ls xc, a, n, r] := by
    have := cel_new6 w (.int .i64 i0) (.int .i64 f0) (.slice xa ls xc) a n r 25
    rwa [hW1, HN.out] at this
  have x2 : Cel W2 (N + 1) [.int .i64 0, .int .i64 0, .slice none 0 0, .slice none 0 0, .slice none 0 0, .slice none 0 0] := by
    have := cel_new6 W1 (.int .i64 0) (.int .i64 0) (.slice none 0 0) (.slice none 0 0) (.slice none 0 0) (.slice none 0 0) 25
    rwa [hW2, s1] at this
  have b2 : Below N w W2 := by rw [← hW2, ← hW1]; exact ((Below.refl _ _).alloc (by rw [HN.out]; exact Nat.le_refl _) _).alloc (by simp [HN.out]) _
  replace x1 : Cel W2 N [.int .i64 i0, .int .i64 f0, .slice xa ls xc, a, n, r] := x1.below (by simp) (by rw [← hW2]; exact (Below.refl _ _).alloc (Nat.le_refl _) _)
  obtain ⟨WX, hWX⟩ : ∃ X, W2.drew = X := ⟨_, rfl⟩
  have y1 : Cel WX N [.int .i64 i0, .int .i64 f0, .slice xa ls xc, a, n, r] := by rw [← hWX]; exact ⟨x1.c, x1.fz⟩
  have HX2 := Lib.hid (show Cel WX (N + 1) [.int .i64 0, .int .i64 0, .slice none 0 0, .slice none 0 0, .slice none 0 0, .slice none 0 0] by rw [← hWX]; exact ⟨x2.c, x2.fz⟩)
  have HB := Lib.hid (show Below N w WX by rw [← hWX]; exact b2.drew)
  have sX : WX.heap.size = N + 2 := by rw [← hWX]; exact s2
  have HX1 := Lib.hid y1
  have HX1o := HX1
  clear x1 x2 b2 s1 s2 hW2 hW1 y1
  refine wp_region_held_drew (S := (fun wx => wx.cell? ⟨N, 0, none⟩ = some (.int .i64 i0) ∧ wx.cell? ⟨N, 1, none⟩ = some (.int .i64 f0) ∧ wx.cell? ⟨N, 2, none⟩ = some (.slice xa ls xc))) (by kernel_rfl) (by rw [hWX]; exact ⟨HX1.out.c 0 (by simp), HX1.out.c 1 (by simp), HX1.out.c 2 (by simp)⟩) (fun hHeld => ?_)
  refine wpAnyH_take (i := 0) (oi := { dst := some 12, op := Op.fieldAddr 25 (Operand.tmp 2) 0, type := 0, pos := "msg.go:107", after := #[], guard := none }) (v := ?_) rfl (by kernel_rfl) (by kernel_rfl) (by kernel_rfl) (fun _ _ _ h => h) (Or.inl ⟨by rfl, ?_⟩) (by assumption) ?_
  rotate_left 1
  · intro w hSw; (try dsimp only at hSw); go_simp; try (with_reducible rfl)
  try simp only [Act.put, List.setIfInBounds_toArray, List.set_cons_zero, List.set_cons_succ]
  refine wpAnyH_take (i := 1) (oi := { dst := some 13, op := Op.load 3 (Operand.tmp 12), type := 3, pos := "msg.go:107", after := #[{ on := 0, ground := Ground.data }], guard := none }) (v := ?_) rfl (by kernel_rfl) (by kernel_rfl) (by kernel_rfl) (fun _ _ _ h => h) (Or.inl ⟨by rfl, ?_⟩) (by assumption) ?_
  rotate_left 1
  · intro w hSw; (try dsimp only at hSw); go_simp; try (with_reducible rfl)
  try simp only [Act.put, List.setIfInBounds_toArray, List.set_cons_zero, List.set_cons_succ]
  refine wpAnyH_take (i := 2) (oi := { dst := some 14, op := Op.move (Operand.tmp 5), type := 3, pos := "msg.go:107", after := #[], guard := none }) (v := ?_) rfl (by kernel_rfl) (by kernel_rfl) (by kernel_rfl) (fun _ _ _ h => h) (Or.inl ⟨by rfl, ?_⟩) (by assumption) ?_
  rotate_left 1
  · intro w hSw; (try dsimp only at hSw); go_simp; try (with_reducible rfl)
  try simp only [Act.put, List.setIfInBounds_toArray, List.set_cons_zero, List.set_cons_succ]
  refine wpAnyH_take (i := 3) (oi := { dst := some 15, op := Op.binOp BinOp.or 3 (Operand.tmp 14) (Operand.const (Value.int IntKind.i64 32768)) 3, type := 3, pos := "msg.go:107", after := #[{ on := 2, ground := Ground.data }], guard := none }) (v := ?_) rfl (by kernel_rfl) (by kernel_rfl) (by kernel_rfl) (fun _ _ _ h => h) (Or.inl ⟨by rfl, ?_⟩) (by assumption) ?_
  rotate_left 1
  · intro w hSw; (try dsimp only at hSw); go_simp; try (with_reducible rfl)
  try simp only [Act.put, List.setIfInBounds_toArray, List.set_cons_zero, List.set_cons_succ]
  refine wpAnyH_take (i := 4) (oi := { dst := some 16, op := Op.binOp BinOp.or 3 (Operand.tmp 15) (Operand.const (Value.int IntKind.i64 128)) 3, type := 3, pos := "msg.go:107", after := #[{ on := 3, ground := Ground.data }], guard := none }) (v := ?_) rfl (by kernel_rfl) (by kernel_rfl) (by kernel_rfl) (fun _ _ _ h => h) (Or.inl ⟨by rfl, ?_⟩) (by assumption) ?_
  rotate_left 1
  · intro w hSw; (try dsimp only at hSw); go_simp; try (with_reducible rfl)
  try simp only [Act.put, List.setIfInBounds_toArray, List.set_cons_zero, List.set_cons_succ]
  refine wpAnyH_take (i := 5) (oi := { dst := some 17, op := Op.move (Operand.tmp 1), type := 3, pos := "msg.go:107", after := #[], guard := none }) (v := ?_) rfl (by kernel_rfl) (by kernel_rfl) (by kernel_rfl) (fun _ _ _ h => h) (Or.inl ⟨by rfl, ?_⟩) (by assumption) ?_
  rotate_left 1
  · intro w hSw; (try dsimp only at hSw); go_simp; try (with_reducible rfl)
  try simp only [Act.put, List.setIfInBounds_toArray, List.set_cons_zero, List.set_cons_succ]
  refine wpAnyH_ready (rs := [6, 8]) (by kernel_rfl) (by simp) ?_
  refine AllReadyH.cons (o := { dst := some 18, op := Op.call { callee := Callee.value (Operand.func 27), args := #[Operand.tmp 16, Operand.tmp 17], argTypes := #[3, 3] }, type := 3, pos := "msg.go:107", after := #[{ on := 4, ground := Ground.data }, { on := 5, ground := Ground.data }], guard := none }) rfl (fun K hK => ?_) (AllReadyH.cons (o := { dst := some 6, op := Op.alloc 25, type := 0, pos := "msg.go:107", after := #[], guard := none }) rfl (fun K hK => ?_) (AllReadyH.nil))
  · go_simp
    refine (HF.out _).mono ?_; rintro e0 w5 ⟨rfl, rfl⟩
    try go_wp2_with fail
    refine hK.out _ _ ⟨HX1.out.c 0 (by simp), HX1.out.c 1 (by simp), HX1.out.c 2 (by simp)⟩ (fun hHeld => ?_)
    clear hK K
    try simp only [Act.put, List.setIfInBounds_toArray, List.set_cons_zero, List.set_cons_succ]
    refine wpAnyH_take (i := 7) (oi := { dst := some 19, op := Op.build 25 #[(0, Operand.tmp 13), (1, Operand.tmp 18)], type := 25, pos := "msg.go:107", after := #[{ on := 1, ground := Ground.data }, { on := 6, ground := Ground.data }], guard := none }) (v := ?_) rfl (by kernel_rfl) (by kernel_rfl) (by kernel_rfl) (fun _ _ _ h => h) (Or.inl ⟨by rfl, ?_⟩) (by assumption) ?_
    rotate_left 1
    · intro w hSw; (try dsimp only at hSw); go_simp; try (with_reducible rfl)
    try simp only [Act.put, List.setIfInBounds_toArray, List.set_cons_zero, List.set_cons_succ]
    refine wpAnyH_ready (rs := [8]) (by kernel_rfl) (by simp) ?_
    refine AllReadyH.cons (o := { dst := some 6, op := Op.alloc 25, type := 0, pos := "msg.go:107", after := #[], guard := none }) rfl (fun K hK => ?_) (AllReadyH.nil)
    go_simp
    replace HX1 := Lib.hid (HX1o.out.below (by simp) (show Below WX.heap.size WX (WX.alloc (.cells #[.int .i64 0, .int .i64 0, .slice none 0 0, .slice none 0 0, .slice none 0 0, .slice none 0 0] 25)) from (Below.refl _ _).alloc (Nat.le_refl _) _))
    refine hK.out _ _ ⟨HX1.out.c 0 (by simp), HX1.out.c 1 (by simp), HX1.out.c 2 (by simp)⟩ (fun hHeld => ?_)
    clear hK K
    try simp only [Act.put, List.setIfInBounds_toArray, List.set_cons_zero, List.set_cons_succ]
    refine wpAnyH_ready (rs := [9]) (by kernel_rfl) (by simp) ?_
    refine AllReadyH.cons (o := { dst := none, op := Op.store 25 (Operand.tmp 6) (Operand.tmp 19), type := 0, pos := "msg.go:107", after := #[{ on := 8, ground := Ground.data }, { on := 7, ground := Ground.data }, { on := 6, ground := Ground.chain }, { on := 0, ground := Ground.phase }, { on := 1, ground := Ground.phase }, { on := 2, ground := Ground.phase }, { on := 3, ground := Ground.phase }, { on := 4, ground := Ground.phase }, { on := 5, ground := Ground.phase }, { on := 6, ground := Ground.phase }, { on := 7, ground := Ground.phase }, { on := 8, ground := Ground.phase }], guard := none }) rfl (fun K hK => ?_) (AllReadyH.nil)
    go_simp
    have hb : Below WX.heap.size WX (WX.alloc (.cells #[.int .i64 i0, .int .i64 fl, .slice none 0 0, .slice none 0 0, .slice none 0 0, .slice none 0 0] 25)) := (Below.refl _ _).alloc (Nat.le_refl _) _
    replace HX1 := Lib.hid (HX1o.out.below (by simp) hb)
    have x3 : Cel (WX.alloc (.cells #[.int .i64 i0, .int .i64 fl, .slice none 0 0, .slice none 0 0, .slice none 0 0, .slice none 0 0] 25)) (N + 2) [.int .i64 i0, .int .i64 fl, .slice none 0 0, .slice none 0 0, .slice none 0 0, .slice none 0 0] := by
      have := cel_new6 WX (.int .i64 i0) (.int .i64 fl) (.slice none 0 0) (.slice none 0 0) (.slice none 0 0) (.slice none 0 0) 25
      rwa [sX] at this
    have HP := Lib.hid (show Rp w (WX.alloc (.cells #[.int .i64 i0, .int .i64 fl, .slice none 0 0, .slice none 0 0, .slice none 0 0, .slice none 0 0] 25)) N i0 fl (.slice none 0 0) [] from ⟨HB.out.alloc (by rw [sX]; omega) _, HX2.out.below (by simp) hb, x3, World.ownsRow_nil _ _ _ _, by rw [World.size_alloc, sX]; omega⟩)
    clear hb x3
    refine hK.out _ _ ⟨HX1.out.c 0 (by simp), HX1.out.c 1 (by simp), HX1.out.c 2 (by simp)⟩ (fun hHeld => ?_)
    clear hK K
    try simp only [Act.put, List.setIfInBounds_toArray, List.set_cons_zero, List.set_cons_succ]
    refine wpAnyH_done (by kernel_rfl) ?_ _
    clear hHeld
    obtain ⟨Y, hY⟩ : ∃ Y, WX.alloc (.cells #[.int .i64 i0, .int .i64 fl, .slice none 0 0, .slice none 0 0, .slice none 0 0, .slice none 0 0] 25) = Y := ⟨_, rfl⟩
    rw [hY] at HP HX1 ⊢
    have y2 : Y.cell? ⟨N, 2, none⟩ = some (.slice xa ls xc) := HX1.out.c 2 (by simp)
    clear hY HB HX2 HX1o sX hWX
    go_wp2_with fail
    clear y2 HX1
    go_loopg [23] ls (fun g v23 wr => ∃ k : Nat, k + g = ls ∧ v23 = .int .i64 k ∧ ∃ qv, Hid (Rp w wr N i0 fl qv (l.take k)))
    case atStart => exact ⟨0, by omega, rfl, _, HP⟩
    case round =>
      clear HP
      obtain ⟨k, hk, rfl, qv, HP⟩ := hrel
      have hlen := HLN.out
      by_cases hlt : k < ls
      · have hkl : k < l.length := by omega
        obtain ⟨b, off, c2, he, hb, hc⟩ := HQ.out.at_ k hkl
        injection he with he hn3 hc3
        clear hn3 hc3
        subst he
        obtain ⟨c0, c1, c2⟩ := hc.keep fun o => HP.out.bel.cell (p := ⟨b, o, none⟩) (by have := HHI.out; rw [HN.out] at this; exact Nat.lt_of_lt_of_le hb this)
        have HTK := Lib.hid (qn_take l k hkl)
        have HXN := Lib.hid (HNN.out l[k] (List.getElem_mem hkl))
        obtain ⟨x, hx⟩ : ∃ x, l[k] = x := ⟨_, rfl⟩
        rw [hx] at c0 c1 c2 HTK HXN
        have HTL := Lib.hid (show (l.take k).length = k by rw [List.length_take]; omega)
        obtain ⟨g, hg⟩ : ∃ g, wr.heap.size = g := ⟨_, rfl⟩
        have HQC := Lib.hid (show Cel (wr.alloc (.cells #[.string (bs x.n), .int .i64 x.t, .int .i64 x.c] 56)) g [.string (bs x.n), .int .i64 x.t, .int .i64 x.c] by
          have := cel_new3 wr (.string (bs x.n)) (.int .i64 x.t) (.int .i64 x.c) 56
          rwa [hg] at this)
        have HGN := Lib.hid (show N + 3 ≤ g by rw [← hg]; exact HP.out.size)
        have HGO := Lib.hid (show ∀ j, qv.ownBlock = some j → j ≠ g from fun j hj => by have := (World.ownsRow.lt HP.out.own j hj).2; omega)
        replace HP := Lib.hid (HP.out.later ((Below.refl wr.heap.size wr).alloc (Nat.le_refl _) (.cells #[.string (bs x.n), .int .i64 x.t, .int .i64 x.c] 56)))
        clear hc hx hb hkl
        go_wp2_with fail
        refine (clone_any _ (by rw [bs_size]; exact HXN.out) _).mono ?_; rintro e w3 ⟨rfl, hb⟩
        have HQ3 := Lib.hid (HQC.out.below (by simp) hb)
        have HP3 := Lib.hid (HP.out.later hb)
        have HS3 := Lib.hid (show g < w3.heap.size from HQ3.out.lt (by simp))
        have hst : Aside (fun j => j = g) w3 (w3.setCell ⟨g, 0, none⟩ (.string (bs x.n))) := Aside.setCell w3 (p := ⟨g, 0, none⟩) _ rfl
        have HP4 := Lib.hid (HP3.out.aside hst HGN.out HGO.out)
        have HQ4 := Lib.hid (show Cel (w3.setCell ⟨g, 0, none⟩ (.string (bs x.n))) g [.string (bs x.n), .int .i64 x.t, .int .i64 x.c] from HQ3.out.set (o := 0) (by simp) (.string (bs x.n)))
        have hb5 : Below (w3.setCell ⟨g, 0, none⟩ (.string (bs x.n))).heap.size (w3.setCell ⟨g, 0, none⟩ (.string (bs x.n))) ((w3.setCell ⟨g, 0, none⟩ (.string (bs x.n))).alloc (.cells #[.string (bs x.n), .int .i64 x.t, .int .i64 x.c] 56)) := (Below.refl _ _).alloc (Nat.le_refl _) _
        have HP5 := Lib.hid (HP4.out.later hb5)
        have hone := sq_one (w3.setCell ⟨g, 0, none⟩ (.string (bs x.n))) x
        rw [show (w3.setCell ⟨g, 0, none⟩ (.string (bs x.n))).heap.size = w3.heap.size from World.size_setCell _ _ _] at hone
        obtain ⟨a6, cp6, w6, hrun, hfz, hcl, hp6, _⟩ := HP5.out.app hone (by rw [HTL.out]; have := HL.out; omega)
        rw [HTL.out] at hrun hp6
        rw [HTK.out] at hp6
        have HRUN := Lib.hid hrun
        have HP6 := Lib.hid hp6
        have f3 : w3.frozen? ⟨g, 0, none⟩ = false := HQ3.out.fz 0
        have d0 : w3.cell? ⟨g, 0, none⟩ = some (.string (bs x.n)) := HQ3.out.c 0 (by simp)
        have e0 : (w3.setCell ⟨g, 0, none⟩ (.string (bs x.n))).cell? ⟨g, 0, none⟩ = some (.string (bs x.n)) := HQ4.out.c 0 (by simp)
        have e1 : (w3.setCell ⟨g, 0, none⟩ (.string (bs x.n))).cell? ⟨g, 1, none⟩ = some (.int .i64 x.t) := HQ4.out.c 1 (by simp)
        have e2 : (w3.setCell ⟨g, 0, none⟩ (.string (bs x.n))).cell? ⟨g, 2, none⟩ = some (.int .i64 x.c) := HQ4.out.c 2 (by simp)
        have e3 : (w3.setCell ⟨g, 0, none⟩ (.string (bs x.n))).cell? ⟨N + 2, 2, none⟩ = some qv := HP4.out.r.c 2 (by simp)
        clear hb hst hb5 hone hrun hp6 HP HP3 HP4 HP5 HQC HQ3 HQ4

        go_wp2_with (at_builtin; refine wpList_append_run (.tmp 32) (.tmp 34) 22 22 rfl rfl rfl rfl HRUN.out ?_)

        go_roundg (ls - (k + 1))
        case measure => omega
        case rel => exact ⟨k + 1, by omega, by go_num, _, HP6⟩
      · have t1 : ¬ ((k : Int) < ls) := by omega
        have hkl : l.take k = l := List.take_of_length_le (by omega)
        rw [hkl] at HP
        have r0 := HP.out.r.c 0 (by simp)
        have r1 := HP.out.r.c 1 (by simp)
        have r2 := HP.out.r.c 2 (by simp)
        have r3 := HP.out.r.c 3 (by simp)
        have r4 := HP.out.r.c 4 (by simp)
        have r5 := HP.out.r.c 5 (by simp)
        have z0 := HP.out.z.c 0 (by simp)
        have z1 := HP.out.z.c 1 (by simp)
        have z2 := HP.out.z.c 2 (by simp)
        have z3 := HP.out.z.c 3 (by simp)
        have z4 := HP.out.z.c 4 (by simp)
        have z5 := HP.out.z.c 5 (by simp)
        simp only [List.getElem_cons_zero, List.getElem_cons_succ] at r0 r1 r2 r3 r4 r5 z0 z1 z2 z3 z4 z5
        have f1 := HP.out.z.fz
        obtain ⟨qa, qc, rfl⟩ := row_shape HP.out.own

        go_wp2_with fail
        have k6 := cel_put6 HP.out.z (.int .i64 i0) (.int .i64 fl) (.slice qa l.length qc) (.slice none 0 0) (.slice none 0 0) (.slice none 0 0)
        have ha := aside_put6 wr (N + 1) (.int .i64 i0) (.int .i64 fl) (.slice qa l.length qc) (.slice none 0 0) (.slice none 0 0) (.slice none 0 0)
        rw [hls] at k6 ha
        have m0 := k6.c 0 (by simp)
        have m1 := k6.c 1 (by simp)
        have m2 := k6.c 2 (by simp)
        have m3 := k6.c 3 (by simp)
        have m4 := k6.c 4 (by simp)
        have m5 := k6.c 5 (by simp)
        simp only [List.getElem_cons_zero, List.getElem_cons_succ] at m0 m1 m2 m3 m4 m5
        unfold put6 at m0 m1 m2 m3 m4 m5 ha
        have hown := HP.out.own
        rw [hls] at hown
        clear r0 r1 r2 r3 r4 r5 z0 z1 z2 z3 z4 z5 f1
        refine bodyPost_ret (by simp [results, Tryz.results19, go_sem, m0, m1, m2, m3, m4, m5]) rfl ⟨.slice qa ls qc, rfl, ?_, ?_⟩
        · rw [HN.out]
          have h9 := row_aside hown ha fun j hj hg => by have := (World.ownsRow.lt hown j hj).1; omega
          exact row_base h9 (by omega)
        · rw [HN.out]
          exact below_aside HP.out.bel ha (fun j hj => ⟨by have := HP.out.size; omega, by omega⟩)
  · go_simp
    replace HX1 := Lib.hid (HX1o.out.below (by simp) (show Below WX.heap.size WX (WX.alloc (.cells #[.int .i64 0, .int .i64 0, .slice none 0 0, .slice none 0 0, .slice none 0 0, .slice none 0 0] 25)) from (Below.refl _ _).alloc (Nat.le_refl _) _))
    refine hK.out _ _ ⟨HX1.out.c 0 (by simp), HX1.out.c 1 (by simp), HX1.out.c 2 (by simp)⟩ (fun hHeld => ?_)
    clear hK K
    try simp only [Act.put, List.setIfInBounds_toArray, List.set_cons_zero, List.set_cons_succ]
    refine wpAnyH_ready (rs := [6]) (by kernel_rfl) (by simp) ?_
    refine AllReadyH.cons (o := { dst := some 18, op := Op.call { callee := Callee.value (Operand.func 27), args := #[Operand.tmp 16, Operand.tmp 17], argTypes := #[3, 3] }, type := 3, pos := "msg.go:107", after := #[{ on := 4, ground := Ground.data }, { on := 5, ground := Ground.data }], guard := none }) rfl (fun K hK => ?_) (AllReadyH.nil)
    go_simp
    refine (HF.out _).mono ?_; rintro e0 w5 ⟨rfl, rfl⟩
    try go_wp2_with fail
    refine hK.out _ _ ⟨HX1.out.c 0 (by simp), HX1.out.c 1 (by simp), HX1.out.c 2 (by simp)⟩ (fun hHeld => ?_)
    clear hK K
    try simp only [Act.put, List.setIfInBounds_toArray, List.set_cons_zero, List.set_cons_succ]
    refine wpAnyH_take (i := 7) (oi := { dst := some 19, op := Op.build 25 #[(0, Operand.tmp 13), (1, Operand.tmp 18)], type := 25, pos := "msg.go:107", after := #[{ on := 1, ground := Ground.data }, { on := 6, ground := Ground.data }], guard := none }) (v := ?_) rfl (by kernel_rfl) (by kernel_rfl) (by kernel_rfl) (fun _ _ _ h => h) (Or.inl ⟨by rfl, ?_⟩) (by assumption) ?_
    rotate_left 1
    · intro w hSw; (try dsimp only at hSw); go_simp; try (with_reducible rfl)
    try simp only [Act.put, List.setIfInBounds_toArray, List.set_cons_zero, List.set_cons_succ]
    refine wpAnyH_ready (rs := [9]) (by kernel_rfl) (by simp) ?_
    refine AllReadyH.cons (o := { dst := none, op := Op.store 25 (Operand.tmp 6) (Operand.tmp 19), type := 0, pos := "msg.go:107", after := #[{ on := 8, ground := Ground.data }, { on := 7, ground := Ground.data }, { on := 6, ground := Ground.chain }, { on := 0, ground := Ground.phase }, { on := 1, ground := Ground.phase }, { on := 2, ground := Ground.phase }, { on := 3, ground := Ground.phase }, { on := 4, ground := Ground.phase }, { on := 5, ground := Ground.phase }, { on := 6, ground := Ground.phase }, { on := 7, ground := Ground.phase }, { on := 8, ground := Ground.phase }], guard := none }) rfl (fun K hK => ?_) (AllReadyH.nil)
    go_simp
    have hb : Below WX.heap.size WX (WX.alloc (.cells #[.int .i64 i0, .int .i64 fl, .slice none 0 0, .slice none 0 0, .slice none 0 0, .slice none 0 0] 25)) := (Below.refl _ _).alloc (Nat.le_refl _) _
    replace HX1 := Lib.hid (HX1o.out.below (by simp) hb)
    have x3 : Cel (WX.alloc (.cells #[.int .i64 i0, .int .i64 fl, .slice none 0 0, .slice none 0 0, .slice none 0 0, .slice none 0 0] 25)) (N + 2) [.int .i64 i0, .int .i64 fl, .slice none 0 0, .slice none 0 0, .slice none 0 0, .slice none 0 0] := by
      have := cel_new6 WX (.int .i64 i0) (.int .i64 fl) (.slice none 0 0) (.slice none 0 0) (.slice none 0 0) (.slice none 0 0) 25
      rwa [sX] at this
    have HP := Lib.hid (show Rp w (WX.alloc (.cells #[.int .i64 i0, .int .i64 fl, .slice none 0 0, .slice none 0 0, .slice none 0 0, .slice none 0 0] 25)) N i0 fl (.slice none 0 0) [] from ⟨HB.out.alloc (by rw [sX]; omega) _, HX2.out.below (by simp) hb, x3, World.ownsRow_nil _ _ _ _, by rw [World.size_alloc, sX]; omega⟩)
    clear hb x3
    refine hK.out _ _ ⟨HX1.out.c 0 (by simp), HX1.out.c 1 (by simp), HX1.out.c 2 (by simp)⟩ (fun hHeld => ?_)
    clear hK K
    try simp only [Act.put, List.setIfInBounds_toArray, List.set_cons_zero, List.set_cons_succ]
    refine wpAnyH_done (by kernel_rfl) ?_ _
    clear hHeld
    obtain ⟨Y, hY⟩ : ∃ Y, WX.alloc (.cells #[.int .i64 i0, .int .i64 fl, .slice none 0 0, .slice none 0 0, .slice none 0 0, .slice none 0 0] 25) = Y := ⟨_, rfl⟩
    rw [hY] at HP HX1 ⊢
    have y2 : Y.cell? ⟨N, 2, none⟩ = some (.slice xa ls xc) := HX1.out.c 2 (by simp)
    clear hY HB HX2 HX1o sX hWX
    go_wp2_with fail
    clear y2 HX1
    go_loopg [23] ls (fun g v23 wr => ∃ k : Nat, k + g = ls ∧ v23 = .int .i64 k ∧ ∃ qv, Hid (Rp w wr N i0 fl qv (l.take k)))
    case atStart => exact ⟨0, by omega, rfl, _, HP⟩
    case round =>
      clear HP
      obtain ⟨k, hk, rfl, qv, HP⟩ := hrel
      have hlen := HLN.out
      by_cases hlt : k < ls
      · have hkl : k < l.length := by omega
        obtain ⟨b, off, c2, he, hb, hc⟩ := HQ.out.at_ k hkl
        injection he with he hn3 hc3
        clear hn3 hc3
        subst he
        obtain ⟨c0, c1, c2⟩ := hc.keep fun o => HP.out.bel.cell (p := ⟨b, o, none⟩) (by have := HHI.out; rw [HN.out] at this; exact Nat.lt_of_lt_of_le hb this)
        have HTK := Lib.hid (qn_take l k hkl)
        have HXN := Lib.hid (HNN.out l[k] (List.getElem_mem hkl))
        obtain ⟨x, hx⟩ : ∃ x, l[k] = x := ⟨_, rfl⟩
        rw [hx] at c0 c1 c2 HTK HXN
        have HTL := Lib.hid (show (l.take k).length = k by rw [List.length_take]; omega)
        obtain ⟨g, hg⟩ : ∃ g, wr.heap.size = g := ⟨_, rfl⟩
        have HQC := Lib.hid (show Cel (wr.alloc (.cells #[.string (bs x.n), .int .i64 x.t, .int .i64 x.c] 56)) g [.string (bs x.n), .int .i64 x.t, .int .i64 x.c] by
          have := cel_new3 wr (.string (bs x.n)) (.int .i64 x.t) (.int .i64 x.c) 56
          rwa [hg] at this)
        have HGN := Lib.hid (show N + 3 ≤ g by rw [← hg]; exact HP.out.size)
        have HGO := Lib.hid (show ∀ j, qv.ownBlock = some j → j ≠ g from fun j hj => by have := (World.ownsRow.lt HP.out.own j hj).2; omega)
        replace HP := Lib.hid (HP.out.later ((Below.refl wr.heap.size wr).alloc (Nat.le_refl _) (.cells #[.string (bs x.n), .int .i64 x.t, .int .i64 x.c] 56)))
        clear hc hx hb hkl
        go_wp2_with fail
        refine (clone_any _ (by rw [bs_size]; exact HXN.out) _).mono ?_; rintro e w3 ⟨rfl, hb⟩
        have HQ3 := Lib.hid (HQC.out.below (by simp) hb)
        have HP3 := Lib.hid (HP.out.later hb)
        have HS3 := Lib.hid (show g < w3.heap.size from HQ3.out.lt (by simp))
        have hst : Aside (fun j => j = g) w3 (w3.setCell ⟨g, 0, none⟩ (.string (bs x.n))) := Aside.setCell w3 (p := ⟨g, 0, none⟩) _ rfl
        have HP4 := Lib.hid (HP3.out.aside hst HGN.out HGO.out)
        have HQ4 := Lib.hid (show Cel (w3.setCell ⟨g, 0, none⟩ (.string (bs x.n))) g [.string (bs x.n), .int .i64 x.t, .int .i64 x.c] from HQ3.out.set (o := 0) (by simp) (.string (bs x.n)))
        have hb5 : Below (w3.setCell ⟨g, 0, none⟩ (.string (bs x.n))).heap.size (w3.setCell ⟨g, 0, none⟩ (.string (bs x.n))) ((w3.setCell ⟨g, 0, none⟩ (.string (bs x.n))).alloc (.cells #[.string (bs x.n), .int .i64 x.t, .int .i64 x.c] 56)) := (Below.refl _ _).alloc (Nat.le_refl _) _
        have HP5 := Lib.hid (HP4.out.later hb5)
        have hone := sq_one (w3.setCell ⟨g, 0, none⟩ (.string (bs x.n))) x
        rw [show (w3.setCell ⟨g, 0, none⟩ (.string (bs x.n))).heap.size = w3.heap.size from World.size_setCell _ _ _] at hone
        obtain ⟨a6, cp6, w6, hrun, hfz, hcl, hp6, _⟩ := HP5.out.app hone (by rw [HTL.out]; have := HL.out; omega)
        rw [HTL.out] at hrun hp6
        rw [HTK.out] at hp6
        have HRUN := Lib.hid hrun
        have HP6 := Lib.hid hp6
        have f3 : w3.frozen? ⟨g, 0, none⟩ = false := HQ3.out.fz 0
        have d0 : w3.cell? ⟨g, 0, none⟩ = some (.string (bs x.n)) := HQ3.out.c 0 (by simp)
        have e0 : (w3.setCell ⟨g, 0, none⟩ (.string (bs x.n))).cell? ⟨g, 0, none⟩ = some (.string (bs x.n)) := HQ4.out.c 0 (by simp)
        have e1 : (w3.setCell ⟨g, 0, none⟩ (.string (bs x.n))).cell? ⟨g, 1, none⟩ = some (.int .i64 x.t) := HQ4.out.c 1 (by simp)
        have e2 : (w3.setCell ⟨g, 0, none⟩ (.string (bs x.n))).cell? ⟨g, 2, none⟩ = some (.int .i64 x.c) := HQ4.out.c 2 (by simp)
        have e3 : (w3.setCell ⟨g, 0, none⟩ (.string (bs x.n))).cell? ⟨N + 2, 2, none⟩ = some qv := HP4.out.r.c 2 (by simp)
        clear hb hst hb5 hone hrun hp6 HP HP3 HP4 HP5 HQC HQ3 HQ4

        go_wp2_with (at_builtin; refine wpList_append_run (.tmp 32) (.tmp 34) 22 22 rfl rfl rfl rfl HRUN.out ?_)

        go_roundg (ls - (k + 1))
        case measure => omega
        case rel => exact ⟨k + 1, by omega, by go_num, _, HP6⟩
      · have t1 : ¬ ((k : Int) < ls) := by omega
        have hkl : l.take k = l := List.take_of_length_le (by omega)
        rw [hkl] at HP
        have r0 := HP.out.r.c 0 (by simp)
        have r1 := HP.out.r.c 1 (by simp)
        have r2 := HP.out.r.c 2 (by simp)
        have r3 := HP.out.r.c 3 (by simp)
        have r4 := HP.out.r.c 4 (by simp)
        have r5 := HP.out.r.c 5 (by simp)
        have z0 := HP.out.z.c 0 (by simp)
        have z1 := HP.out.z.c 1 (by simp)
        have z2 := HP.out.z.c 2 (by simp)
        have z3 := HP.out.z.c 3 (by simp)
        have z4 := HP.out.z.c 4 (by simp)
        have z5 := HP.out.z.c 5 (by simp)
        simp only [List.getElem_cons_zero, List.getElem_cons_succ] at r0 r1 r2 r3 r4 r5 z0 z1 z2 z3 z4 z5
        have f1 := HP.out.z.fz
        obtain ⟨qa, qc, rfl⟩ := row_shape HP.out.own

        go_wp2_with fail
        have k6 := cel_put6 HP.out.z (.int .i64 i0) (.int .i64 fl) (.slice qa l.length qc) (.slice none 0 0) (.slice none 0 0) (.slice none 0 0)
        have ha := aside_put6 wr (N + 1) (.int .i64 i0) (.int .i64 fl) (.slice qa l.length qc) (.slice none 0 0) (.slice none 0 0) (.slice none 0 0)
        rw [hls] at k6 ha
        have m0 := k6.c 0 (by simp)
        have m1 := k6.c 1 (by simp)
        have m2 := k6.c 2 (by simp)
        have m3 := k6.c 3 (by simp)
        have m4 := k6.c 4 (by simp)
        have m5 := k6.c 5 (by simp)
        simp only [List.getElem_cons_zero, List.getElem_cons_succ] at m0 m1 m2 m3 m4 m5
        unfold put6 at m0 m1 m2 m3 m4 m5 ha
        have hown := HP.out.own
        rw [hls] at hown
        clear r0 r1 r2 r3 r4 r5 z0 z1 z2 z3 z4 z5 f1
        refine bodyPost_ret (by simp [results, Tryz.results19, go_sem, m0, m1, m2, m3, m4, m5]) rfl ⟨.slice qa ls qc, rfl, ?_, ?_⟩
        · rw [HN.out]
          have h9 := row_aside hown ha fun j hj hg => by have := (World.ownsRow.lt hown j hj).1; omega
          exact row_base h9 (by omega)
        · rw [HN.out]
          exact below_aside HP.out.bel ha (fun j hj => ⟨by have := HP.out.size; omega, by omega⟩)

/-- The bare answer to a message. -/
def rpM (m : Ms) (c : Int) : Ms := ⟨m.id, rpF m.fl c, m.q, [], [], []⟩
end Go.Proofs.YtdikgjbpjdnodaaGreat
