/-
  Which records are the same.
-/
import Derived.Test.YtaikpgcmcmkdcaaQR
import Derived.Test.YtaikpgcmcmkdcaaQW
import Derived.Test.YtaikpgcmcmkdcaaBSame
import Derived.Test.YtaikpgcmcmkdcaaKl
namespace Go.Proofs.Ytaikpgcmcmkdcaa
open Go.RowKit Go.Shelf
set_option linter.unusedVariables false
set_option linter.unusedSimpArgs false
set_option maxRecDepth 100000

set_option maxHeartbeats 8000000 in
theorem sameC_any (n : List UInt8) (t c l : Int) (d : List UInt8) (n2 : List UInt8) (t2 c2 l2 : Int) (d2 : List UInt8) (hn : n.length ≤ 1000000) (hd : d.length ≤ 1000000) (hn2 : n2.length ≤ 1000000) (hd2 : d2.length ≤ 1000000) (w : World) :
    Calls Try.prog 12 #[.agg #[.string (bs n), .int .i64 t, .int .i64 c, .int .i64 l, .string (bs d)], .agg #[.string (bs n2), .int .i64 t2, .int .i64 c2, .int .i64 l2, .string (bs d2)]] w (Tells w (.bool (sameC ⟨n, t, c, l, d⟩ ⟨n2, t2, c2, l2, d2⟩))) := by
  have HC1 := Lib.hid (fun wx => checkC_any n t c l d hn hd wx)
  have HC2 := Lib.hid (fun wx => checkC_any n2 t2 c2 l2 d2 hn2 hd2 wx)
  have HL1 := Lib.hid (fun wx => lowerC_any n t c l d hn hd wx)
  have HL2 := Lib.hid (fun wx => lowerC_any n2 t2 c2 l2 d2 hn2 hd2 wx)
  obtain ⟨B, hB⟩ : ∃ B, sameC ⟨n, t, c, l, d⟩ ⟨n2, t2, c2, l2, d2⟩ = B := ⟨_, rfl⟩
  rw [hB]
  have HBv := Lib.hid hB
  clear hB
  unfold sameC lowC at HBv
  obtain ⟨C1, hC1⟩ : ∃ C, chkC ⟨n, t, c, l, d⟩ = C := ⟨_, rfl⟩
  obtain ⟨C2, hC2⟩ : ∃ C, chkC ⟨n2, t2, c2, l2, d2⟩ = C := ⟨_, rfl⟩
  rw [hC1] at HC1 HBv
  rw [hC2] at HC2 HBv
  obtain ⟨N1, hN1⟩ : ∃ N, low n = N := ⟨_, rfl⟩
  obtain ⟨N2, hN2⟩ : ∃ N, low n2 = N := ⟨_, rfl⟩
  obtain ⟨D1, hD1⟩ : ∃ D, lowD t d = D := ⟨_, rfl⟩
  obtain ⟨D2, hD2⟩ : ∃ D, lowD t2 d2 = D := ⟨_, rfl⟩
  simp only at HBv
  rw [hN1] at HL1 HBv
  rw [hN2] at HL2 HBv
  rw [hD1] at HL1 HBv
  rw [hD2] at HL2 HBv
  obtain ⟨W0, hW0⟩ : ∃ W0, (w.alloc (.cells #[.string (bs n), .int .i64 t, .int .i64 c, .int .i64 l, .string (bs d)] 23)).alloc (.cells #[.string (bs n2), .int .i64 t2, .int .i64 c2, .int .i64 l2, .string (bs d2)] 23) = W0 := ⟨_, rfl⟩
  have hb1 : Below w.heap.size w (w.alloc (.cells #[.string (bs n), .int .i64 t, .int .i64 c, .int .i64 l, .string (bs d)] 23)) := (Below.refl _ _).alloc (Nat.le_refl _) _
  have HB := Lib.hid (show Below w.heap.size w W0 from hW0 ▸ bel_alloc hb1 _)
  have hx := (cel_new w (.string (bs n)) (.int .i64 t) (.int .i64 c) (.int .i64 l) (.string (bs d)) 23).below (by simp) ((Below.refl _ _).alloc (Nat.le_refl _) (.cells #[.string (bs n2), .int .i64 t2, .int .i64 c2, .int .i64 l2, .string (bs d2)] 23))
  have hy := cel_new (w.alloc (.cells #[.string (bs n), .int .i64 t, .int .i64 c, .int .i64 l, .string (bs d)] 23)) (.string (bs n2)) (.int .i64 t2) (.int .i64 c2) (.int .i64 l2) (.string (bs d2)) 23
  rw [hW0] at hx hy
  rw [World.size_alloc] at hy
  obtain ⟨g, hg⟩ : ∃ g, w.heap.size = g := ⟨_, rfl⟩
  rw [hg] at hx hy
  have HX := Lib.hid (hx.below (by simp) (Below.refl _ W0).drew)
  have HY := Lib.hid (hy.below (by simp) (Below.refl _ W0).drew)
  have HBD := Lib.hid (bel_call HB.out (Below.refl _ W0).drew)
  clear hx hy hb1 hN1 hN2 hD1 hD2 hC1 hC2 HB
  by_cases h1 : C1 = 0
  · subst h1
    by_cases h2 : C2 = 0
    · subst h2
      have HBw := Lib.hid (show decide ((N1, t, c, D1) = (N2, t2, c2, D2)) = B by have h := HBv.out; simpa using h)
      clear HBv
      go_enter Try.func12, Try.ntmps12
      go_wp2_with fail
      refine wp_region_held_drew (S := (fun wx => (wx.cell? ⟨g, 0, none⟩ = some (.string (bs n)) ∧ wx.cell? ⟨g, 1, none⟩ = some (.int .i64 t) ∧ wx.cell? ⟨g, 2, none⟩ = some (.int .i64 c) ∧ wx.cell? ⟨g, 3, none⟩ = some (.int .i64 l) ∧ wx.cell? ⟨g, 4, none⟩ = some (.string (bs d))) ∧ (wx.cell? ⟨g + 1, 0, none⟩ = some (.string (bs n2)) ∧ wx.cell? ⟨g + 1, 1, none⟩ = some (.int .i64 t2) ∧ wx.cell? ⟨g + 1, 2, none⟩ = some (.int .i64 c2) ∧ wx.cell? ⟨g + 1, 3, none⟩ = some (.int .i64 l2) ∧ wx.cell? ⟨g + 1, 4, none⟩ = some (.string (bs d2))))) (by kernel_rfl) ⟨HX.out.five, HY.out.five⟩ (fun hHeld => ?_)
      refine wpAnyH_take (i := 0) (oi := { dst := some 5, op := Op.load 23 (Operand.tmp 2), type := 23, pos := "rec.go:38", after := #[], guard := none }) (v := ?_) rfl (by kernel_rfl) (by kernel_rfl) (by kernel_rfl) (fun _ _ _ h => h) (Or.inl ⟨by rfl, ?_⟩) (by assumption) ?_
      rotate_left 1
      · intro w hSw; (try dsimp only at hSw); go_simp; try (with_reducible rfl)
      try simp only [Act.put, List.setIfInBounds_toArray, List.set_cons_zero, List.set_cons_succ]
      refine wpAnyH_ready (rs := [1]) (by kernel_rfl) (by simp) ?_
      refine AllReadyH.cons (o := { dst := some 6, op := Op.call { callee := Callee.value (Operand.func 10), args := #[Operand.tmp 5], argTypes := #[23] }, type := 26, pos := "rec.go:38", after := #[{ on := 0, ground := Ground.data }], guard := none }) rfl (fun K hK => ?_) (AllReadyH.nil)
      go_simp
      refine (HC1.out _).mono ?_; rintro e w1 ⟨rfl, hb⟩
      replace HX := Lib.hid (HX.out.below (by simp) hb)
      replace HY := Lib.hid (HY.out.below (by simp) hb)
      replace HBD := Lib.hid (bel_call HBD.out hb)
      clear hb
      try go_wp2_with fail
      refine hK.out _ _ ⟨HX.out.five, HY.out.five⟩ (fun hHeld => ?_)
      clear hK K
      try simp only [Act.put, List.setIfInBounds_toArray, List.set_cons_zero, List.set_cons_succ]
      refine wpAnyH_take (i := 2) (oi := { dst := some 7, op := Op.binOp BinOp.eql 26 (Operand.tmp 6) (Operand.const (Value.int IntKind.i64 0)) 26, type := 4, pos := "rec.go:38", after := #[{ on := 1, ground := Ground.data }], guard := none }) (v := ?_) rfl (by kernel_rfl) (by kernel_rfl) (by kernel_rfl) (fun _ _ _ h => h) (Or.inl ⟨by rfl, ?_⟩) (by assumption) ?_
      rotate_left 1
      · intro w hSw; (try dsimp only at hSw); go_simp; try (with_reducible rfl)
      try simp only [Act.put, List.setIfInBounds_toArray, List.set_cons_zero, List.set_cons_succ]
      refine wpAnyH_take (i := 3) (oi := { dst := some 8, op := Op.move (Operand.tmp 7), type := 4, pos := "rec.go:38", after := #[{ on := 2, ground := Ground.data }, { on := 1, ground := Ground.chain }], guard := none }) (v := ?_) rfl (by kernel_rfl) (by kernel_rfl) (by kernel_rfl) (fun _ _ _ h => h) (Or.inl ⟨by rfl, ?_⟩) (by assumption) ?_
      rotate_left 1
      · intro w hSw; (try dsimp only at hSw); go_simp; try (with_reducible rfl)
      try simp only [Act.put, List.setIfInBounds_toArray, List.set_cons_zero, List.set_cons_succ]
      refine wpAnyH_take (i := 4) (oi := { dst := some 9, op := Op.load 23 (Operand.tmp 3), type := 23, pos := "rec.go:38", after := #[{ on := 3, ground := Ground.guard }], guard := some (3, true) }) (v := ?_) rfl (by kernel_rfl) (by kernel_rfl) (by kernel_rfl) (fun _ _ _ h => h) (Or.inl ⟨by rfl, ?_⟩) (by assumption) ?_
      rotate_left 1
      · intro w hSw; (try dsimp only at hSw); go_simp; try (with_reducible rfl)
      try simp only [Act.put, List.setIfInBounds_toArray, List.set_cons_zero, List.set_cons_succ]
      refine wpAnyH_ready (rs := [5]) (by kernel_rfl) (by simp) ?_
      refine AllReadyH.cons (o := { dst := some 10, op := Op.call { callee := Callee.value (Operand.func 10), args := #[Operand.tmp 9], argTypes := #[23] }, type := 26, pos := "rec.go:38", after := #[{ on := 4, ground := Ground.data }, { on := 3, ground := Ground.chain }, { on := 3, ground := Ground.guard }], guard := some (3, true) }) rfl (fun K hK => ?_) (AllReadyH.nil)
      go_simp
      refine (HC2.out _).mono ?_; rintro e w1 ⟨rfl, hb⟩
      replace HX := Lib.hid (HX.out.below (by simp) hb)
      replace HY := Lib.hid (HY.out.below (by simp) hb)
      replace HBD := Lib.hid (bel_call HBD.out hb)
      clear hb
      try go_wp2_with fail
      refine hK.out _ _ ⟨HX.out.five, HY.out.five⟩ (fun hHeld => ?_)
      clear hK K
      try simp only [Act.put, List.setIfInBounds_toArray, List.set_cons_zero, List.set_cons_succ]
      refine wpAnyH_take (i := 6) (oi := { dst := some 11, op := Op.binOp BinOp.eql 26 (Operand.tmp 10) (Operand.const (Value.int IntKind.i64 0)) 26, type := 4, pos := "rec.go:38", after := #[{ on := 5, ground := Ground.data }, { on := 3, ground := Ground.guard }], guard := some (3, true) }) (v := ?_) rfl (by kernel_rfl) (by kernel_rfl) (by kernel_rfl) (fun _ _ _ h => h) (Or.inl ⟨by rfl, ?_⟩) (by assumption) ?_
      rotate_left 1
      · intro w hSw; (try dsimp only at hSw); go_simp; try (with_reducible rfl)
      try simp only [Act.put, List.setIfInBounds_toArray, List.set_cons_zero, List.set_cons_succ]
      refine wpAnyH_take (i := 7) (oi := { dst := some 12, op := Op.pick (Operand.tmp 8) (Operand.tmp 11) (Operand.const (Value.bool false)), type := 4, pos := "rec.go:38", after := #[{ on := 3, ground := Ground.data }, { on := 6, ground := Ground.data }], guard := none }) (v := ?_) rfl (by kernel_rfl) (by kernel_rfl) (by kernel_rfl) (fun _ _ _ h => h) (Or.inl ⟨by rfl, ?_⟩) (by assumption) ?_
      rotate_left 1
      · intro w hSw; (try dsimp only at hSw); go_simp; try (with_reducible rfl)
      try simp only [Act.put, List.setIfInBounds_toArray, List.set_cons_zero, List.set_cons_succ]
      refine wpAnyH_take (i := 8) (oi := { dst := some 13, op := Op.move (Operand.tmp 12), type := 4, pos := "rec.go:38", after := #[{ on := 7, ground := Ground.data }, { on := 5, ground := Ground.chain }], guard := none }) (v := ?_) rfl (by kernel_rfl) (by kernel_rfl) (by kernel_rfl) (fun _ _ _ h => h) (Or.inl ⟨by rfl, ?_⟩) (by assumption) ?_
      rotate_left 1
      · intro w hSw; (try dsimp only at hSw); go_simp; try (with_reducible rfl)
      try simp only [Act.put, List.setIfInBounds_toArray, List.set_cons_zero, List.set_cons_succ]
      refine wpAnyH_take (i := 9) (oi := { dst := some 14, op := Op.load 23 (Operand.tmp 2), type := 23, pos := "rec.go:38", after := #[{ on := 8, ground := Ground.guard }], guard := some (8, true) }) (v := ?_) rfl (by kernel_rfl) (by kernel_rfl) (by kernel_rfl) (fun _ _ _ h => h) (Or.inl ⟨by rfl, ?_⟩) (by assumption) ?_
      rotate_left 1
      · intro w hSw; (try dsimp only at hSw); go_simp; try (with_reducible rfl)
      try simp only [Act.put, List.setIfInBounds_toArray, List.set_cons_zero, List.set_cons_succ]
      refine wpAnyH_take (i := 11) (oi := { dst := some 16, op := Op.load 23 (Operand.tmp 3), type := 23, pos := "rec.go:38", after := #[{ on := 8, ground := Ground.guard }], guard := some (8, true) }) (v := ?_) rfl (by kernel_rfl) (by kernel_rfl) (by kernel_rfl) (fun _ _ _ h => h) (Or.inl ⟨by rfl, ?_⟩) (by assumption) ?_
      rotate_left 1
      · intro w hSw; (try dsimp only at hSw); go_simp; try (with_reducible rfl)
      try simp only [Act.put, List.setIfInBounds_toArray, List.set_cons_zero, List.set_cons_succ]
      refine wpAnyH_ready (rs := [10]) (by kernel_rfl) (by simp) ?_
      refine AllReadyH.cons (o := { dst := some 15, op := Op.call { callee := Callee.value (Operand.func 32), args := #[Operand.tmp 14], argTypes := #[23] }, type := 23, pos := "rec.go:38", after := #[{ on := 9, ground := Ground.data }, { on := 8, ground := Ground.chain }, { on := 8, ground := Ground.guard }], guard := some (8, true) }) rfl (fun K hK => ?_) (AllReadyH.nil)
      go_simp
      refine (HL1.out _).mono ?_; rintro e w1 ⟨rfl, hb⟩
      replace HX := Lib.hid (HX.out.below (by simp) hb)
      replace HY := Lib.hid (HY.out.below (by simp) hb)
      replace HBD := Lib.hid (bel_call HBD.out hb)
      clear hb
      try go_wp2_with fail
      refine hK.out _ _ ⟨HX.out.five, HY.out.five⟩ (fun hHeld => ?_)
      clear hK K
      try simp only [Act.put, List.setIfInBounds_toArray, List.set_cons_zero, List.set_cons_succ]
      refine wpAnyH_ready (rs := [12]) (by kernel_rfl) (by simp) ?_
      refine AllReadyH.cons (o := { dst := some 17, op := Op.call { callee := Callee.value (Operand.func 32), args := #[Operand.tmp 16], argTypes := #[23] }, type := 23, pos := "rec.go:38", after := #[{ on := 11, ground := Ground.data }, { on := 10, ground := Ground.chain }, { on := 8, ground := Ground.guard }], guard := some (8, true) }) rfl (fun K hK => ?_) (AllReadyH.nil)
      go_simp
      refine (HL2.out _).mono ?_; rintro e w1 ⟨rfl, hb⟩
      replace HX := Lib.hid (HX.out.below (by simp) hb)
      replace HY := Lib.hid (HY.out.below (by simp) hb)
      replace HBD := Lib.hid (bel_call HBD.out hb)
      clear hb
      try go_wp2_with fail
      refine hK.out _ _ ⟨HX.out.five, HY.out.five⟩ (fun hHeld => ?_)
      clear hK K
      try simp only [Act.put, List.setIfInBounds_toArray, List.set_cons_zero, List.set_cons_succ]
      refine wpAnyH_take (i := 13) (oi := { dst := some 18, op := Op.binOp BinOp.eql 23 (Operand.tmp 15) (Operand.tmp 17) 23, type := 4, pos := "rec.go:38", after := #[{ on := 10, ground := Ground.data }, { on := 12, ground := Ground.data }, { on := 8, ground := Ground.guard }], guard := some (8, true) }) (v := Value.bool B) rfl (by kernel_rfl) (by kernel_rfl) (by kernel_rfl) (fun _ _ _ h => h) (Or.inl ⟨by rfl, ?_⟩) (by assumption) ?_
      · intro w hSw; (try dsimp only at hSw); go_simp; rw [bs_toList, bs_toList, bs_toList, bs_toList, ← HBw.out]; (by_cases h1 : N1 = N2 <;> by_cases h2 : t = t2 <;> by_cases h3 : c = c2 <;> by_cases h4 : D1 = D2 <;> simp [h1, h2, h3, h4])
      try simp only [Act.put, List.setIfInBounds_toArray, List.set_cons_zero, List.set_cons_succ]
      refine wpAnyH_take (i := 14) (oi := { dst := some 19, op := Op.pick (Operand.tmp 13) (Operand.tmp 18) (Operand.const (Value.bool false)), type := 4, pos := "rec.go:38", after := #[{ on := 8, ground := Ground.data }, { on := 13, ground := Ground.data }], guard := none }) (v := ?_) rfl (by kernel_rfl) (by kernel_rfl) (by kernel_rfl) (fun _ _ _ h => h) (Or.inl ⟨by rfl, ?_⟩) (by assumption) ?_
      rotate_left 1
      · intro w hSw; (try dsimp only at hSw); go_simp; try (with_reducible rfl)
      try simp only [Act.put, List.setIfInBounds_toArray, List.set_cons_zero, List.set_cons_succ]
      refine wpAnyH_take (i := 15) (oi := { dst := some 4, op := Op.assign (Operand.tmp 19), type := 4, pos := "rec.go:38", after := #[{ on := 14, ground := Ground.data }, { on := 12, ground := Ground.chain }, { on := 0, ground := Ground.phase }, { on := 1, ground := Ground.phase }, { on := 2, ground := Ground.phase }, { on := 3, ground := Ground.phase }, { on := 4, ground := Ground.phase }, { on := 5, ground := Ground.phase }, { on := 6, ground := Ground.phase }, { on := 7, ground := Ground.phase }, { on := 8, ground := Ground.phase }, { on := 9, ground := Ground.phase }, { on := 10, ground := Ground.phase }, { on := 11, ground := Ground.phase }, { on := 12, ground := Ground.phase }, { on := 13, ground := Ground.phase }, { on := 14, ground := Ground.phase }], guard := none }) (v := ?_) rfl (by kernel_rfl) (by kernel_rfl) (by kernel_rfl) (fun _ _ _ h => h) (Or.inl ⟨by rfl, ?_⟩) (by assumption) ?_
      rotate_left 1
      · intro w hSw; (try dsimp only at hSw); go_simp; try (with_reducible rfl)
      try simp only [Act.put, List.setIfInBounds_toArray, List.set_cons_zero, List.set_cons_succ]
      refine wpAnyH_done (by kernel_rfl) ?_ _
      clear hHeld
      go_wp2_with fail
      go_ret
      exact ⟨by first | rfl | (rw [← HBw.out]; rfl), HBD.out⟩
    · have te : (C2 == 0) = false := by simpa using h2
      have HBw := Lib.hid (show false = B by have h := HBv.out; rw [← h]; simp [h2])
      clear HBv h2
      go_enter Try.func12, Try.ntmps12
      go_wp2_with fail
      refine wp_region_held_drew (S := (fun wx => (wx.cell? ⟨g, 0, none⟩ = some (.string (bs n)) ∧ wx.cell? ⟨g, 1, none⟩ = some (.int .i64 t) ∧ wx.cell? ⟨g, 2, none⟩ = some (.int .i64 c) ∧ wx.cell? ⟨g, 3, none⟩ = some (.int .i64 l) ∧ wx.cell? ⟨g, 4, none⟩ = some (.string (bs d))) ∧ (wx.cell? ⟨g + 1, 0, none⟩ = some (.string (bs n2)) ∧ wx.cell? ⟨g + 1, 1, none⟩ = some (.int .i64 t2) ∧ wx.cell? ⟨g + 1, 2, none⟩ = some (.int .i64 c2) ∧ wx.cell? ⟨g + 1, 3, none⟩ = some (.int .i64 l2) ∧ wx.cell? ⟨g + 1, 4, none⟩ = some (.string (bs d2))))) (by kernel_rfl) ⟨HX.out.five, HY.out.five⟩ (fun hHeld => ?_)
      refine wpAnyH_take (i := 0) (oi := { dst := some 5, op := Op.load 23 (Operand.tmp 2), type := 23, pos := "rec.go:38", after := #[], guard := none }) (v := ?_) rfl (by kernel_rfl) (by kernel_rfl) (by kernel_rfl) (fun _ _ _ h => h) (Or.inl ⟨by rfl, ?_⟩) (by assumption) ?_
      rotate_left 1
      · intro w hSw; (try dsimp only at hSw); go_simp; try (with_reducible rfl)
      try simp only [Act.put, List.setIfInBounds_toArray, List.set_cons_zero, List.set_cons_succ]
      refine wpAnyH_ready (rs := [1]) (by kernel_rfl) (by simp) ?_
      refine AllReadyH.cons (o := { dst := some 6, op := Op.call { callee := Callee.value (Operand.func 10), args := #[Operand.tmp 5], argTypes := #[23] }, type := 26, pos := "rec.go:38", after := #[{ on := 0, ground := Ground.data }], guard := none }) rfl (fun K hK => ?_) (AllReadyH.nil)
      go_simp
      refine (HC1.out _).mono ?_; rintro e w1 ⟨rfl, hb⟩
      replace HX := Lib.hid (HX.out.below (by simp) hb)
      replace HY := Lib.hid (HY.out.below (by simp) hb)
      replace HBD := Lib.hid (bel_call HBD.out hb)
      clear hb
      try go_wp2_with fail
      refine hK.out _ _ ⟨HX.out.five, HY.out.five⟩ (fun hHeld => ?_)
      clear hK K
      try simp only [Act.put, List.setIfInBounds_toArray, List.set_cons_zero, List.set_cons_succ]
      refine wpAnyH_take (i := 2) (oi := { dst := some 7, op := Op.binOp BinOp.eql 26 (Operand.tmp 6) (Operand.const (Value.int IntKind.i64 0)) 26, type := 4, pos := "rec.go:38", after := #[{ on := 1, ground := Ground.data }], guard := none }) (v := ?_) rfl (by kernel_rfl) (by kernel_rfl) (by kernel_rfl) (fun _ _ _ h => h) (Or.inl ⟨by rfl, ?_⟩) (by assumption) ?_
      rotate_left 1
      · intro w hSw; (try dsimp only at hSw); go_simp; try (with_reducible rfl)
      try simp only [Act.put, List.setIfInBounds_toArray, List.set_cons_zero, List.set_cons_succ]
      refine wpAnyH_take (i := 3) (oi := { dst := some 8, op := Op.move (Operand.tmp 7), type := 4, pos := "rec.go:38", after := #[{ on := 2, ground := Ground.data }, { on := 1, ground := Ground.chain }], guard := none }) (v := ?_) rfl (by kernel_rfl) (by kernel_rfl) (by kernel_rfl) (fun _ _ _ h => h) (Or.inl ⟨by rfl, ?_⟩) (by assumption) ?_
      rotate_left 1
      · intro w hSw; (try dsimp only at hSw); go_simp; try (with_reducible rfl)
      try simp only [Act.put, List.setIfInBounds_toArray, List.set_cons_zero, List.set_cons_succ]
      refine wpAnyH_take (i := 4) (oi := { dst := some 9, op := Op.load 23 (Operand.tmp 3), type := 23, pos := "rec.go:38", after := #[{ on := 3, ground := Ground.guard }], guard := some (3, true) }) (v := ?_) rfl (by kernel_rfl) (by kernel_rfl) (by kernel_rfl) (fun _ _ _ h => h) (Or.inl ⟨by rfl, ?_⟩) (by assumption) ?_
      rotate_left 1
      · intro w hSw; (try dsimp only at hSw); go_simp; try (with_reducible rfl)
      try simp only [Act.put, List.setIfInBounds_toArray, List.set_cons_zero, List.set_cons_succ]
      refine wpAnyH_ready (rs := [5]) (by kernel_rfl) (by simp) ?_
      refine AllReadyH.cons (o := { dst := some 10, op := Op.call { callee := Callee.value (Operand.func 10), args := #[Operand.tmp 9], argTypes := #[23] }, type := 26, pos := "rec.go:38", after := #[{ on := 4, ground := Ground.data }, { on := 3, ground := Ground.chain }, { on := 3, ground := Ground.guard }], guard := some (3, true) }) rfl (fun K hK => ?_) (AllReadyH.nil)
      go_simp
      refine (HC2.out _).mono ?_; rintro e w1 ⟨rfl, hb⟩
      replace HX := Lib.hid (HX.out.below (by simp) hb)
      replace HY := Lib.hid (HY.out.below (by simp) hb)
      replace HBD := Lib.hid (bel_call HBD.out hb)
      clear hb
      try go_wp2_with fail
      refine hK.out _ _ ⟨HX.out.five, HY.out.five⟩ (fun hHeld => ?_)
      clear hK K
      try simp only [Act.put, List.setIfInBounds_toArray, List.set_cons_zero, List.set_cons_succ]
      refine wpAnyH_take (i := 6) (oi := { dst := some 11, op := Op.binOp BinOp.eql 26 (Operand.tmp 10) (Operand.const (Value.int IntKind.i64 0)) 26, type := 4, pos := "rec.go:38", after := #[{ on := 5, ground := Ground.data }, { on := 3, ground := Ground.guard }], guard := some (3, true) }) (v := ?_) rfl (by kernel_rfl) (by kernel_rfl) (by kernel_rfl) (fun _ _ _ h => h) (Or.inl ⟨by rfl, ?_⟩) (by assumption) ?_
      rotate_left 1
      · intro w hSw; (try dsimp only at hSw); go_simp; try (with_reducible rfl)
      try simp only [Act.put, List.setIfInBounds_toArray, List.set_cons_zero, List.set_cons_succ]
      refine wpAnyH_take (i := 7) (oi := { dst := some 12, op := Op.pick (Operand.tmp 8) (Operand.tmp 11) (Operand.const (Value.bool false)), type := 4, pos := "rec.go:38", after := #[{ on := 3, ground := Ground.data }, { on := 6, ground := Ground.data }], guard := none }) (v := ?_) rfl (by kernel_rfl) (by kernel_rfl) (by kernel_rfl) (fun _ _ _ h => h) (Or.inl ⟨by rfl, ?_⟩) (by assumption) ?_
      rotate_left 1
      · intro w hSw; (try dsimp only at hSw); go_simp; try (with_reducible rfl)
      try simp only [Act.put, List.setIfInBounds_toArray, List.set_cons_zero, List.set_cons_succ]
      refine wpAnyH_take (i := 8) (oi := { dst := some 13, op := Op.move (Operand.tmp 12), type := 4, pos := "rec.go:38", after := #[{ on := 7, ground := Ground.data }, { on := 5, ground := Ground.chain }], guard := none }) (v := ?_) rfl (by kernel_rfl) (by kernel_rfl) (by kernel_rfl) (fun _ _ _ h => h) (Or.inl ⟨by rfl, ?_⟩) (by assumption) ?_
      rotate_left 1
      · intro w hSw; (try dsimp only at hSw); go_simp; try (with_reducible rfl)
      try simp only [Act.put, List.setIfInBounds_toArray, List.set_cons_zero, List.set_cons_succ]
      refine wpAnyH_take (i := 9) (oi := { dst := some 14, op := Op.load 23 (Operand.tmp 2), type := 23, pos := "rec.go:38", after := #[{ on := 8, ground := Ground.guard }], guard := some (8, true) }) (v := undef) rfl (by kernel_rfl) (by kernel_rfl) (by kernel_rfl) (fun _ _ _ h => h) (Or.inr ⟨by rfl, rfl⟩) (by assumption) ?_
      try simp only [Act.put, List.setIfInBounds_toArray, List.set_cons_zero, List.set_cons_succ]
      refine wpAnyH_take (i := 10) (oi := { dst := some 15, op := Op.call { callee := Callee.value (Operand.func 32), args := #[Operand.tmp 14], argTypes := #[23] }, type := 23, pos := "rec.go:38", after := #[{ on := 9, ground := Ground.data }, { on := 8, ground := Ground.chain }, { on := 8, ground := Ground.guard }], guard := some (8, true) }) (v := undef) rfl (by kernel_rfl) (by kernel_rfl) (by kernel_rfl) (fun _ _ _ h => h) (Or.inr ⟨by rfl, rfl⟩) (by assumption) ?_
      try simp only [Act.put, List.setIfInBounds_toArray, List.set_cons_zero, List.set_cons_succ]
      refine wpAnyH_take (i := 11) (oi := { dst := some 16, op := Op.load 23 (Operand.tmp 3), type := 23, pos := "rec.go:38", after := #[{ on := 8, ground := Ground.guard }], guard := some (8, true) }) (v := undef) rfl (by kernel_rfl) (by kernel_rfl) (by kernel_rfl) (fun _ _ _ h => h) (Or.inr ⟨by rfl, rfl⟩) (by assumption) ?_
      try simp only [Act.put, List.setIfInBounds_toArray, List.set_cons_zero, List.set_cons_succ]
      refine wpAnyH_take (i := 12) (oi := { dst := some 17, op := Op.call { callee := Callee.value (Operand.func 32), args := #[Operand.tmp 16], argTypes := #[23] }, type := 23, pos := "rec.go:38", after := #[{ on := 11, ground := Ground.data }, { on := 10, ground := Ground.chain }, { on := 8, ground := Ground.guard }], guard := some (8, true) }) (v := undef) rfl (by kernel_rfl) (by kernel_rfl) (by kernel_rfl) (fun _ _ _ h => h) (Or.inr ⟨by rfl, rfl⟩) (by assumption) ?_
      try simp only [Act.put, List.setIfInBounds_toArray, List.set_cons_zero, List.set_cons_succ]
      refine wpAnyH_take (i := 13) (oi := { dst := some 18, op := Op.binOp BinOp.eql 23 (Operand.tmp 15) (Operand.tmp 17) 23, type := 4, pos := "rec.go:38", after := #[{ on := 10, ground := Ground.data }, { on := 12, ground := Ground.data }, { on := 8, ground := Ground.guard }], guard := some (8, true) }) (v := undef) rfl (by kernel_rfl) (by kernel_rfl) (by kernel_rfl) (fun _ _ _ h => h) (Or.inr ⟨by rfl, rfl⟩) (by assumption) ?_
      try simp only [Act.put, List.setIfInBounds_toArray, List.set_cons_zero, List.set_cons_succ]
      refine wpAnyH_take (i := 14) (oi := { dst := some 19, op := Op.pick (Operand.tmp 13) (Operand.tmp 18) (Operand.const (Value.bool false)), type := 4, pos := "rec.go:38", after := #[{ on := 8, ground := Ground.data }, { on := 13, ground := Ground.data }], guard := none }) (v := ?_) rfl (by kernel_rfl) (by kernel_rfl) (by kernel_rfl) (fun _ _ _ h => h) (Or.inl ⟨by rfl, ?_⟩) (by assumption) ?_
      rotate_left 1
      · intro w hSw; (try dsimp only at hSw); go_simp; try (with_reducible rfl)
      try simp only [Act.put, List.setIfInBounds_toArray, List.set_cons_zero, List.set_cons_succ]
      refine wpAnyH_take (i := 15) (oi := { dst := some 4, op := Op.assign (Operand.tmp 19), type := 4, pos := "rec.go:38", after := #[{ on := 14, ground := Ground.data }, { on := 12, ground := Ground.chain }, { on := 0, ground := Ground.phase }, { on := 1, ground := Ground.phase }, { on := 2, ground := Ground.phase }, { on := 3, ground := Ground.phase }, { on := 4, ground := Ground.phase }, { on := 5, ground := Ground.phase }, { on := 6, ground := Ground.phase }, { on := 7, ground := Ground.phase }, { on := 8, ground := Ground.phase }, { on := 9, ground := Ground.phase }, { on := 10, ground := Ground.phase }, { on := 11, ground := Ground.phase }, { on := 12, ground := Ground.phase }, { on := 13, ground := Ground.phase }, { on := 14, ground := Ground.phase }], guard := none }) (v := ?_) rfl (by kernel_rfl) (by kernel_rfl) (by kernel_rfl) (fun _ _ _ h => h) (Or.inl ⟨by rfl, ?_⟩) (by assumption) ?_
      rotate_left 1
      · intro w hSw; (try dsimp only at hSw); go_simp; try (with_reducible rfl)
      try simp only [Act.put, List.setIfInBounds_toArray, List.set_cons_zero, List.set_cons_succ]
      refine wpAnyH_done (by kernel_rfl) ?_ _
      clear hHeld
      go_wp2_with fail
      go_ret
      exact ⟨by first | rfl | (rw [← HBw.out]; rfl), HBD.out⟩
  · have te : (C1 == 0) = false := by simpa using h1
    have HBw := Lib.hid (show false = B by have h := HBv.out; rw [← h]; simp [h1])
    clear HBv h1
    go_enter Try.func12, Try.ntmps12
    go_wp2_with fail
    refine wp_region_held_drew (S := (fun wx => (wx.cell? ⟨g, 0, none⟩ = some (.string (bs n)) ∧ wx.cell? ⟨g, 1, none⟩ = some (.int .i64 t) ∧ wx.cell? ⟨g, 2, none⟩ = some (.int .i64 c) ∧ wx.cell? ⟨g, 3, none⟩ = some (.int .i64 l) ∧ wx.cell? ⟨g, 4, none⟩ = some (.string (bs d))) ∧ (wx.cell? ⟨g + 1, 0, none⟩ = some (.string (bs n2)) ∧ wx.cell? ⟨g + 1, 1, none⟩ = some (.int .i64 t2) ∧ wx.cell? ⟨g + 1, 2, none⟩ = some (.int .i64 c2) ∧ wx.cell? ⟨g + 1, 3, none⟩ = some (.int .i64 l2) ∧ wx.cell? ⟨g + 1, 4, none⟩ = some (.string (bs d2))))) (by kernel_rfl) ⟨HX.out.five, HY.out.five⟩ (fun hHeld => ?_)
    refine wpAnyH_take (i := 0) (oi := { dst := some 5, op := Op.load 23 (Operand.tmp 2), type := 23, pos := "rec.go:38", after := #[], guard := none }) (v := ?_) rfl (by kernel_rfl) (by kernel_rfl) (by kernel_rfl) (fun _ _ _ h => h) (Or.inl ⟨by rfl, ?_⟩) (by assumption) ?_
    rotate_left 1
    · intro w hSw; (try dsimp only at hSw); go_simp; try (with_reducible rfl)
    try simp only [Act.put, List.setIfInBounds_toArray, List.set_cons_zero, List.set_cons_succ]
    refine wpAnyH_ready (rs := [1]) (by kernel_rfl) (by simp) ?_
    refine AllReadyH.cons (o := { dst := some 6, op := Op.call { callee := Callee.value (Operand.func 10), args := #[Operand.tmp 5], argTypes := #[23] }, type := 26, pos := "rec.go:38", after := #[{ on := 0, ground := Ground.data }], guard := none }) rfl (fun K hK => ?_) (AllReadyH.nil)
    go_simp
    refine (HC1.out _).mono ?_; rintro e w1 ⟨rfl, hb⟩
    replace HX := Lib.hid (HX.out.below (by simp) hb)
    replace HY := Lib.hid (HY.out.below (by simp) hb)
    replace HBD := Lib.hid (bel_call HBD.out hb)
    clear hb
    try go_wp2_with fail
    refine hK.out _ _ ⟨HX.out.five, HY.out.five⟩ (fun hHeld => ?_)
    clear hK K
    try simp only [Act.put, List.setIfInBounds_toArray, List.set_cons_zero, List.set_cons_succ]
    refine wpAnyH_take (i := 2) (oi := { dst := some 7, op := Op.binOp BinOp.eql 26 (Operand.tmp 6) (Operand.const (Value.int IntKind.i64 0)) 26, type := 4, pos := "rec.go:38", after := #[{ on := 1, ground := Ground.data }], guard := none }) (v := ?_) rfl (by kernel_rfl) (by kernel_rfl) (by kernel_rfl) (fun _ _ _ h => h) (Or.inl ⟨by rfl, ?_⟩) (by assumption) ?_
    rotate_left 1
    · intro w hSw; (try dsimp only at hSw); go_simp; try (with_reducible rfl)
    try simp only [Act.put, List.setIfInBounds_toArray, List.set_cons_zero, List.set_cons_succ]
    refine wpAnyH_take (i := 3) (oi := { dst := some 8, op := Op.move (Operand.tmp 7), type := 4, pos := "rec.go:38", after := #[{ on := 2, ground := Ground.data }, { on := 1, ground := Ground.chain }], guard := none }) (v := ?_) rfl (by kernel_rfl) (by kernel_rfl) (by kernel_rfl) (fun _ _ _ h => h) (Or.inl ⟨by rfl, ?_⟩) (by assumption) ?_
    rotate_left 1
    · intro w hSw; (try dsimp only at hSw); go_simp; try (with_reducible rfl)
    try simp only [Act.put, List.setIfInBounds_toArray, List.set_cons_zero, List.set_cons_succ]
    refine wpAnyH_take (i := 4) (oi := { dst := some 9, op := Op.load 23 (Operand.tmp 3), type := 23, pos := "rec.go:38", after := #[{ on := 3, ground := Ground.guard }], guard := some (3, true) }) (v := undef) rfl (by kernel_rfl) (by kernel_rfl) (by kernel_rfl) (fun _ _ _ h => h) (Or.inr ⟨by rfl, rfl⟩) (by assumption) ?_
    try simp only [Act.put, List.setIfInBounds_toArray, List.set_cons_zero, List.set_cons_succ]
    refine wpAnyH_take (i := 5) (oi := { dst := some 10, op := Op.call { callee := Callee.value (Operand.func 10), args := #[Operand.tmp 9], argTypes := #[23] }, type := 26, pos := "rec.go:38", after := #[{ on := 4, ground := Ground.data }, { on := 3, ground := Ground.chain }, { on := 3, ground := Ground.guard }], guard := some (3, true) }) (v := undef) rfl (by kernel_rfl) (by kernel_rfl) (by kernel_rfl) (fun _ _ _ h => h) (Or.inr ⟨by rfl, rfl⟩) (by assumption) ?_
    try simp only [Act.put, List.setIfInBounds_toArray, List.set_cons_zero, List.set_cons_succ]
    refine wpAnyH_take (i := 6) (oi := { dst := some 11, op := Op.binOp BinOp.eql 26 (Operand.tmp 10) (Operand.const (Value.int IntKind.i64 0)) 26, type := 4, pos := "rec.go:38", after := #[{ on := 5, ground := Ground.data }, { on := 3, ground := Ground.guard }], guard := some (3, true) }) (v := undef) rfl (by kernel_rfl) (by kernel_rfl) (by kernel_rfl) (fun _ _ _ h => h) (Or.inr ⟨by rfl, rfl⟩) (by assumption) ?_
    try simp only [Act.put, List.setIfInBounds_toArray, List.set_cons_zero, List.set_cons_succ]
    refine wpAnyH_take (i := 7) (oi := { dst := some 12, op := Op.pick (Operand.tmp 8) (Operand.tmp 11) (Operand.const (Value.bool false)), type := 4, pos := "rec.go:38", after := #[{ on := 3, ground := Ground.data }, { on := 6, ground := Ground.data }], guard := none }) (v := ?_) rfl (by kernel_rfl) (by kernel_rfl) (by kernel_rfl) (fun _ _ _ h => h) (Or.inl ⟨by rfl, ?_⟩) (by assumption) ?_
    rotate_left 1
    · intro w hSw; (try dsimp only at hSw); go_simp; try (with_reducible rfl)
    try simp only [Act.put, List.setIfInBounds_toArray, List.set_cons_zero, List.set_cons_succ]
    refine wpAnyH_take (i := 8) (oi := { dst := some 13, op := Op.move (Operand.tmp 12), type := 4, pos := "rec.go:38", after := #[{ on := 7, ground := Ground.data }, { on := 5, ground := Ground.chain }], guard := none }) (v := ?_) rfl (by kernel_rfl) (by kernel_rfl) (by kernel_rfl) (fun _ _ _ h => h) (Or.inl ⟨by rfl, ?_⟩) (by assumption) ?_
    rotate_left 1
    · intro w hSw; (try dsimp only at hSw); go_simp; try (with_reducible rfl)
    try simp only [Act.put, List.setIfInBounds_toArray, List.set_cons_zero, List.set_cons_succ]
    refine wpAnyH_take (i := 9) (oi := { dst := some 14, op := Op.load 23 (Operand.tmp 2), type := 23, pos := "rec.go:38", after := #[{ on := 8, ground := Ground.guard }], guard := some (8, true) }) (v := undef) rfl (by kernel_rfl) (by kernel_rfl) (by kernel_rfl) (fun _ _ _ h => h) (Or.inr ⟨by rfl, rfl⟩) (by assumption) ?_
    try simp only [Act.put, List.setIfInBounds_toArray, List.set_cons_zero, List.set_cons_succ]
    refine wpAnyH_take (i := 10) (oi := { dst := some 15, op := Op.call { callee := Callee.value (Operand.func 32), args := #[Operand.tmp 14], argTypes := #[23] }, type := 23, pos := "rec.go:38", after := #[{ on := 9, ground := Ground.data }, { on := 8, ground := Ground.chain }, { on := 8, ground := Ground.guard }], guard := some (8, true) }) (v := undef) rfl (by kernel_rfl) (by kernel_rfl) (by kernel_rfl) (fun _ _ _ h => h) (Or.inr ⟨by rfl, rfl⟩) (by assumption) ?_
    try simp only [Act.put, List.setIfInBounds_toArray, List.set_cons_zero, List.set_cons_succ]
    refine wpAnyH_take (i := 11) (oi := { dst := some 16, op := Op.load 23 (Operand.tmp 3), type := 23, pos := "rec.go:38", after := #[{ on := 8, ground := Ground.guard }], guard := some (8, true) }) (v := undef) rfl (by kernel_rfl) (by kernel_rfl) (by kernel_rfl) (fun _ _ _ h => h) (Or.inr ⟨by rfl, rfl⟩) (by assumption) ?_
    try simp only [Act.put, List.setIfInBounds_toArray, List.set_cons_zero, List.set_cons_succ]
    refine wpAnyH_take (i := 12) (oi := { dst := some 17, op := Op.call { callee := Callee.value (Operand.func 32), args := #[Operand.tmp 16], argTypes := #[23] }, type := 23, pos := "rec.go:38", after := #[{ on := 11, ground := Ground.data }, { on := 10, ground := Ground.chain }, { on := 8, ground := Ground.guard }], guard := some (8, true) }) (v := undef) rfl (by kernel_rfl) (by kernel_rfl) (by kernel_rfl) (fun _ _ _ h => h) (Or.inr ⟨by rfl, rfl⟩) (by assumption) ?_
    try simp only [Act.put, List.setIfInBounds_toArray, List.set_cons_zero, List.set_cons_succ]
    refine wpAnyH_take (i := 13) (oi := { dst := some 18, op := Op.binOp BinOp.eql 23 (Operand.tmp 15) (Operand.tmp 17) 23, type := 4, pos := "rec.go:38", after := #[{ on := 10, ground := Ground.data }, { on := 12, ground := Ground.data }, { on := 8, ground := Ground.guard }], guard := some (8, true) }) (v := undef) rfl (by kernel_rfl) (by kernel_rfl) (by kernel_rfl) (fun _ _ _ h => h) (Or.inr ⟨by rfl, rfl⟩) (by assumption) ?_
    try simp only [Act.put, List.setIfInBounds_toArray, List.set_cons_zero, List.set_cons_succ]
    refine wpAnyH_take (i := 14) (oi := { dst := some 19, op := Op.pick (Operand.tmp 13) (Operand.tmp 18) (Operand.const (Value.bool false)), type := 4, pos := "rec.go:38", after := #[{ on := 8, ground := Ground.data }, { on := 13, ground := Ground.data }], guard := none }) (v := ?_) rfl (by kernel_rfl) (by kernel_rfl) (by kernel_rfl) (fun _ _ _ h => h) (Or.inl ⟨by rfl, ?_⟩) (by assumption) ?_
    rotate_left 1
    · intro w hSw; (try dsimp only at hSw); go_simp; try (with_reducible rfl)
    try simp only [Act.put, List.setIfInBounds_toArray, List.set_cons_zero, List.set_cons_succ]
    refine wpAnyH_take (i := 15) (oi := { dst := some 4, op := Op.assign (Operand.tmp 19), type := 4, pos := "rec.go:38", after := #[{ on := 14, ground := Ground.data }, { on := 12, ground := Ground.chain }, { on := 0, ground := Ground.phase }, { on := 1, ground := Ground.phase }, { on := 2, ground := Ground.phase }, { on := 3, ground := Ground.phase }, { on := 4, ground := Ground.phase }, { on := 5, ground := Ground.phase }, { on := 6, ground := Ground.phase }, { on := 7, ground := Ground.phase }, { on := 8, ground := Ground.phase }, { on := 9, ground := Ground.phase }, { on := 10, ground := Ground.phase }, { on := 11, ground := Ground.phase }, { on := 12, ground := Ground.phase }, { on := 13, ground := Ground.phase }, { on := 14, ground := Ground.phase }], guard := none }) (v := ?_) rfl (by kernel_rfl) (by kernel_rfl) (by kernel_rfl) (fun _ _ _ h => h) (Or.inl ⟨by rfl, ?_⟩) (by assumption) ?_
    rotate_left 1
    · intro w hSw; (try dsimp only at hSw); go_simp; try (with_reducible rfl)
    try simp only [Act.put, List.setIfInBounds_toArray, List.set_cons_zero, List.set_cons_succ]
    refine wpAnyH_done (by kernel_rfl) ?_ _
    clear hHeld
    go_wp2_with fail
    go_ret
    exact ⟨by first | rfl | (rw [← HBw.out]; rfl), HBD.out⟩
end Go.Proofs.Ytaikpgcmcmkdcaa

/-
  What the chapter's examples say: awake.
-/
namespace Go.Proofs.Ytaikpgcmcmkdcaa
open Go.RowKit Go.Shelf
set_option linter.unusedVariables false
set_option linter.unusedSimpArgs false
set_option maxRecDepth 100000

theorem shorts_a : Shorts [[97]] := ⟨by decide, by decide⟩
theorem nm_a : nm [[97]] = [1, 97, 0] := by decide

theorem chk_a : chk [1, 97, 0] = 0 := by rw [← nm_a]; exact shorts_chk shorts_a
theorem labs_a : labs [1, 97, 0] = [[97]] := by rw [← nm_a]; exact shorts_labs shorts_a

/-- The examples' record. -/
def rcA (l : Int) : Rc := ⟨[1, 97, 0], 1, 1, l, [1, 2, 3, 4]⟩

theorem ask_a : askE [1, 97, 0] 1 1 = 0 := by unfold askE; rw [if_neg (by rw [chk_a]; decide)]; decide
theorem chkC_a (l : Int) (h0 : 0 ≤ l) (h1 : l ≤ 2147483647) : chkC (rcA l) = 0 := by
  have e1 : askE (rcA l).n (rcA l).t (rcA l).c = 0 := ask_a
  have e2 : (spl (rcA l).t (rcA l).d).code = 0 := (adr_len _).mpr rfl
  unfold chkC
  rw [e1, if_neg (by decide), if_neg (by show ¬ (l < 0 ∨ 2147483647 < l); omega)]
  exact e2

theorem same_a : sameC (rcA 5) (rcA 9) = true := by
  unfold sameC
  rw [chkC_a 5 (by decide) (by decide), chkC_a 9 (by decide) (by decide)]
  have e : lowC (rcA 5) = lowC (rcA 9) := rfl
  rw [e]
  simp

theorem wr_a : (wrC 0 (rcA 5) [] 0).out = [1, 97, 0, 0, 1, 0, 1, 0, 0, 0, 5, 0, 4, 1, 2, 3, 4] ∧ (wrC 0 (rcA 5) [] 0).code = 0 := by
  have hE : pkE 0 0 [1, 97, 0] = 0 := by unfold pkE; rw [if_neg (by rw [chk_a]; decide)]; decide
  have hB : nameB [] 0 0 [1, 97, 0] = [1, 97, 0] := by
    unfold nameB
    rw [if_pos hE, labs_a]
    decide
  obtain ⟨L, hL⟩ := code_ok (show (spl 1 [1, 2, 3, 4]).code = 0 from (adr_len _).mpr rfl)
  obtain ⟨_, _, _, hf, hj⟩ := spl_ok hL
  have hk : kinds 1 = [.fix 4] := rfl
  rw [hk] at hf
  obtain ⟨x, rfl⟩ := fits_one hf
  have hx : x = [1, 2, 3, 4] := by simpa [joined] using hj
  subst hx
  have hW : ∀ Y K e, wrR Y 1 [1, 2, 3, 4] K e = ⟨[1, 2, 3, 4], 0, K, e⟩ := fun Y K e => by
    unfold wrR
    rw [hL]
    show wrL Y [([1, 2, 3, 4], false)] K e [] = _
    rw [wrL, if_neg (by simp), wrL]
    rfl
  have e : wrC 0 (rcA 5) [] 0 = wrT [1, 97, 0] 1 1 5 ⟨[1, 2, 3, 4], 0, nameK [] 0 0 [1, 97, 0], nameE [] 0 0 [1, 97, 0]⟩ := by
    unfold wrC
    rw [chkC_a 5 (by decide) (by decide), if_neg (by decide)]
    have g1 : pkE 0 0 (rcA 5).n = 0 := hE
    have g2 : nameB [] 0 0 (rcA 5).n = [1, 97, 0] := hB
    rw [g1, if_neg (by decide), g2]
    show wrT [1, 97, 0] 1 1 5 (wrR _ 1 [1, 2, 3, 4] _ _) = _
    rw [hW]
    rfl
  rw [e]
  exact ⟨by decide, rfl⟩

theorem host_any (l : Int) (w : World) : Calls Try.prog 35 #[.int .i64 l] w (Tells w (.agg #[.string (bs [1, 97, 0]), .int .i64 1, .int .i64 1, .int .i64 l, .string (bs [1, 2, 3, 4])])) := by
  go_enter Try.func35, Try.ntmps35
  go_wp2_with fail
  exact bodyPost_ret (v := .agg #[.string (bs [1, 97, 0]), .int .i64 1, .int .i64 1, .int .i64 l, .string (bs [1, 2, 3, 4])]) (by simp [results, Try.results35, go_sem, bs]) rfl ⟨rfl, (Below.refl _ _).alloc (Nat.le_refl _) _⟩

set_option maxHeartbeats 4000000 in
theorem awakeC_any (w : World) : Calls Try.prog 14 #[] w (Tells w (.bool true)) := by
  have HN := Lib.hid (new_any w)
  have H5 := Lib.hid (fun wx => host_any 5 wx)
  have H9 := Lib.hid (fun wx => host_any 9 wx)
  have HW := Lib.hid (fun wx p bm (h : Pk wx p bm [] 0) => writeC_any h good_nil (by simp) (by simp) 0 [1, 97, 0] 1 1 5 [1, 2, 3, 4] (by simp) (by simp))
  obtain ⟨R, hR⟩ : ∃ R, wrC 0 ⟨[1, 97, 0], 1, 1, 5, [1, 2, 3, 4]⟩ [] 0 = R := ⟨_, rfl⟩
  obtain ⟨h1, h2⟩ := wr_a
  rw [show wrC 0 (rcA 5) [] 0 = R from hR] at h1 h2
  obtain ⟨out, code, K, e⟩ := R
  simp only at h1 h2
  subst h1
  subst h2
  rw [hR] at HW
  unfold WrPost at HW
  have HS := Lib.hid (fun wx => sameC_any [1, 97, 0] 1 1 5 [1, 2, 3, 4] [1, 97, 0] 1 1 9 [1, 2, 3, 4] (by simp) (by simp) (by simp) (by simp) wx)
  rw [show sameC ⟨[1, 97, 0], 1, 1, 5, [1, 2, 3, 4]⟩ ⟨[1, 97, 0], 1, 1, 9, [1, 2, 3, 4]⟩ = true from same_a] at HS
  clear hR
  go_enter Try.func14, Try.ntmps14
  go_wp2_with fail
  refine HN.out.mono ?_; rintro e0 w1 ⟨p, bm, rfl, hp1, hb1, hpk, hb⟩
  have HPk := Lib.hid hpk
  have HB := Lib.hid hb
  clear hpk hb
  go_wp2_with fail
  refine (H5.out _).mono ?_; rintro e0 w2 ⟨rfl, hb⟩
  replace HPk := Lib.hid (HPk.out.later hb)
  replace HB := Lib.hid (bel_call HB.out hb)
  clear hb
  go_wp2_with fail
  refine (HW.out _ _ _ HPk.out).mono ?_; rintro e0 w3 ⟨v, rfl, ho, _, ha⟩
  replace HB := Lib.hid (below_aside HB.out ha fun b hb => ⟨Nat.lt_of_lt_of_le hb HB.out.size, by omega⟩)
  have hs := ho.sl
  obtain ⟨a0, k0, rfl⟩ := ho.shape
  have HSl := Lib.hid hs
  clear ho ha hs
  go_wp2_with fail
  have hal : Below w3.heap.size w3 (w3.alloc (.cells #[.int .u8 1, .int .u8 97, .int .u8 0, .int .u8 0, .int .u8 1, .int .u8 0, .int .u8 1, .int .u8 0, .int .u8 0, .int .u8 0, .int .u8 5, .int .u8 0, .int .u8 4, .int .u8 1, .int .u8 2, .int .u8 3, .int .u8 4] 5)) := (Below.refl _ _).alloc (Nat.le_refl _) _
  have hs1 := HSl.out.below hal (Nat.le_refl _)
  have hs2 : Sl (w3.alloc (.cells #[.int .u8 1, .int .u8 97, .int .u8 0, .int .u8 0, .int .u8 1, .int .u8 0, .int .u8 1, .int .u8 0, .int .u8 0, .int .u8 0, .int .u8 5, .int .u8 0, .int .u8 4, .int .u8 1, .int .u8 2, .int .u8 3, .int .u8 4] 5)) w3.heap.size (w3.heap.size + 1) (.slice (some ⟨w3.heap.size, 0, none⟩) 17 17) (iz [1, 97, 0, 0, 1, 0, 1, 0, 0, 0, 5, 0, 4, 1, 2, 3, 4]) := sl_lit w3 (iz [1, 97, 0, 0, 1, 0, 1, 0, 0, 0, 5, 0, 4, 1, 2, 3, 4])
  have HSm := Lib.hid (same_any hs1 hs2)
  replace HB := Lib.hid (bel_call HB.out hal)
  clear hal hs1 hs2
  refine HSm.out.mono ?_; rintro e0 w4 ⟨rfl, rfl⟩
  go_wp2_with fail
  refine (tell_on HB (H5.out _)).mono ?_; rintro e0 w5 ⟨rfl, HB⟩
  go_wp2_with fail
  refine (tell_on HB (H9.out _)).mono ?_; rintro e0 w6 ⟨rfl, HB⟩
  go_wp2_with fail
  refine (tell_on HB (HS.out _)).mono ?_; rintro e0 w7 ⟨rfl, HB⟩
  go_wp2_with fail
  go_ret
  exact ⟨rfl, HB.out⟩
end Go.Proofs.Ytaikpgcmcmkdcaa
