/-
  A number's digits.
-/
import Derived.Test.YtknfgcmidpgifaaGreatDoorZ11
import Derived.Deep.RegionHeld
namespace Go.Proofs.YtknfgcmidpgifaaGreatDoor
open Go.RowKit Go.Shelf
set_option linter.unusedVariables false
set_option linter.unusedSimpArgs false
set_option maxRecDepth 100000

/-- A byte just laid, as a text. -/
theorem byte_txt (w : World) (p : Int) (h0 : 0 ≤ p) (h1 : p < 256) : (convert 28 9 (.slice (some ⟨w.heap.size, 0, none⟩) 1 1)).run Tryz.prog (w.alloc (.cells #[.int .u8 p] 5)) = .ok (.string (bs [UInt8.ofNat p.toNat])) (w.alloc (.cells #[.int .u8 p] 5)) := by
  have hp : p = ((UInt8.ofNat p.toNat).toNat : Nat) := by rw [UInt8.toNat_ofNat']; omega
  have h := conv_sl (sl_const w [UInt8.ofNat p.toNat] (0, 0) #[.int .u8 p] (by rw [List.map_singleton, ← hp]))
  rw [strz] at h
  exact h
theorem byte_txt_later {w w' : World} (p : Int) (h0 : 0 ≤ p) (h1 : p < 256) (hb : Below (w.alloc (.cells #[.int .u8 p] 5)).heap.size (w.alloc (.cells #[.int .u8 p] 5)) w') :
    (convert 28 9 (.slice (some ⟨w.heap.size, 0, none⟩) 1 1)).run Tryz.prog w' = .ok (.string (bs [UInt8.ofNat p.toNat])) w' := by
  have hp : p = ((UInt8.ofNat p.toNat).toNat : Nat) := by rw [UInt8.toNat_ofNat']; omega
  have h := conv_sl ((sl_const w [UInt8.ofNat p.toNat] (0, 0) #[.int .u8 p] (by rw [List.map_singleton, ← hp])).below hb (by rw [World.size_alloc]; exact Nat.le_refl _))
  rw [strz] at h
  exact h
theorem decD_len : ∀ n : Nat, (Lib.decDigits n).length ≤ n + 1 := by
  intro n
  induction n using Nat.strongRecOn with
  | _ n ih =>
    rw [Lib.decDigits]
    split
    · simp
    · rw [List.length_append]
      have := ih (n / 10) (by omega)
      simp
      omega

set_option maxHeartbeats 4000000 in
theorem decimal_any : ∀ (n : Nat), n ≤ 1000000000000 → (Lib.decDigits n).length ≤ 1000000 → ∀ (w : World), Calls Tryz.prog 30 #[.int .i64 n] w (Tells w (.string (bs (Lib.decDigits n)))) := by
  intro n
  induction n using Nat.strongRecOn with
  | _ n ih =>
    intro hn hl w
    by_cases h10 : n < 10
    · have e : Lib.decDigits n = [UInt8.ofNat (48 + n)] := Lib.decDigits_one h10
      have t1 : (n : Int) < 10 := by omega
      have HB := Lib.hid (bel_alloc (Below.refl w.heap.size w) (.cells #[.int .u8 (48 + (n : Int))] 5))
      have hc := byte_txt w (48 + (n : Int)) (by omega) (by omega)
      have hq : (48 + (n : Int)).toNat = 48 + n := by omega
      rw [hq] at hc
      rw [e]
      obtain ⟨b, hb⟩ : ∃ b, UInt8.ofNat (48 + n) = b := ⟨_, rfl⟩
      rw [hb] at hc ⊢
      clear e hl ih h10 hq hb
      go_enter Tryz.func30, Tryz.ntmps30
      go_wp2_with fail
      go_ret
      exact ⟨rfl, HB.out⟩
    · have e : Lib.decDigits n = Lib.decDigits (n / 10) ++ [UInt8.ofNat (48 + n % 10)] := by conv => lhs; rw [Lib.decDigits, dif_neg h10]
      have t1 : ¬ ((n : Int) < 10) := by omega
      have hl2 : (Lib.decDigits (n / 10)).length + 1 ≤ 1000000 := by rw [e] at hl; simpa using hl
      have HIH := Lib.hid (fun w => ih (n / 10) (by omega) (by omega) (by omega) w)
      have hcast : ((n / 10 : Nat) : Int) = (n : Int) / 10 := by omega
      obtain ⟨D, hD⟩ : ∃ D, Lib.decDigits (n / 10) = D := ⟨_, rfl⟩
      rw [hD] at e hl2 HIH
      rw [hcast] at HIH
      rw [e]
      have ha : ∀ w, (Op.stringOp .add (bs D) (bs [UInt8.ofNat (48 + n % 10)])).run Tryz.prog w = .ok (.string (bs (D ++ [UInt8.ofNat (48 + n % 10)]))) w := fun w => adds_run D _ (by omega) (by simp) w
      have hq : (48 + (n : Int) % 10).toNat = 48 + n % 10 := by omega
      have hc := fun w => byte_txt w (48 + (n : Int) % 10) (by omega) (by omega)
      have HCL := Lib.hid (fun w w' hb => byte_txt_later (w := w) (w' := w') (48 + (n : Int) % 10) (by omega) (by omega) hb)
      rw [hq] at hc HCL
      obtain ⟨b, hb⟩ : ∃ b, UInt8.ofNat (48 + n % 10) = b := ⟨_, rfl⟩
      rw [hb] at hc HCL ha ⊢
      have hm1 : 0 ≤ (n : Int) % 10 := by omega
      have hm2 : (n : Int) % 10 < 10 := by omega
      have hm3 : 0 ≤ (n : Int) / 10 := by omega
      clear hD e hl ih h10 hcast hq hb
      go_enter Tryz.func30, Tryz.ntmps30
      go_wp2_with fail
      have hwr : IntKind.i64.wrap ((n : Int) / 10) = (n : Int) / 10 := IntWalk.i64_in _ (by omega)
      have htm : ((n : Int)).tmod 10 = (n : Int) % 10 := Int.tmod_eq_emod_of_nonneg (by omega)
      have hwq : IntKind.i64.wrap (48 + (n : Int) % 10) = 48 + (n : Int) % 10 := IntWalk.i64_in _ (by omega)
      have hwu : IntKind.u8.wrap (48 + (n : Int) % 10) = 48 + (n : Int) % 10 := by simp [IntKind.wrap, IntKind.signed, IntKind.bits]; omega
      obtain ⟨WA, hWA⟩ : ∃ W, (w.alloc (.cells #[.int .u8 (48 + (n : Int) % 10)] 5)).drew = W := ⟨_, rfl⟩
      have hbA : Below w.heap.size w WA := by rw [← hWA]; exact ((Below.refl _ w).alloc (Nat.le_refl _) _).drew
      have hcA : (convert 28 9 (.slice (some ⟨w.heap.size, 0, none⟩) 1 1)).run Tryz.prog WA = .ok (.string (bs [b])) WA := by
        rw [← hWA]; exact HCL.out w _ (Below.refl _ _).drew
      have HCA := Lib.hid (fun w' (hb : Below WA.heap.size WA w') => show (convert 28 9 (.slice (some ⟨w.heap.size, 0, none⟩) 1 1)).run Tryz.prog w' = .ok (.string (bs [b])) w' from HCL.out w w' (by rw [← hWA] at hb; exact (Below.refl _ _).drew.trans hb))
      have HBA := Lib.hid hbA
      have HIA := Lib.hid (HIH.out WA)
      have HID := Lib.hid (HIH.out w.drew)
      clear hbA HCL HIH
      refine wp_region_held_drew (S := (fun _ => True)) (by kernel_rfl) trivial (fun hHeld => ?_)
      refine wpAnyH_take (i := 0) (oi := { dst := some 10, op := Op.move (Operand.tmp 0), type := 3, pos := "outright.go:130", after := #[], guard := none }) (v := ?_) rfl (by kernel_rfl) (by kernel_rfl) (by kernel_rfl) (fun _ _ _ h => h) (Or.inl ⟨by rfl, ?_⟩) (by assumption) ?_
      rotate_left 1
      · intro w hSw; (try dsimp only at hSw); go_simp; try (with_reducible rfl)
      try simp only [Act.put, List.setIfInBounds_toArray, List.set_cons_zero, List.set_cons_succ]
      refine wpAnyH_take (i := 1) (oi := { dst := some 11, op := Op.binOp BinOp.quo 3 (Operand.tmp 10) (Operand.const (Value.int IntKind.i64 10)) 3, type := 3, pos := "outright.go:130", after := #[{ on := 0, ground := Ground.data }], guard := none }) (v := ?_) rfl (by kernel_rfl) (by kernel_rfl) (by kernel_rfl) (fun _ _ _ h => h) (Or.inl ⟨by rfl, ?_⟩) (by assumption) ?_
      rotate_left 1
      · intro w hSw; (try dsimp only at hSw); go_simp; try (with_reducible rfl)
      try simp only [Act.put, List.setIfInBounds_toArray, List.set_cons_zero, List.set_cons_succ]
      refine wpAnyH_take (i := 3) (oi := { dst := some 13, op := Op.move (Operand.tmp 0), type := 3, pos := "outright.go:130", after := #[], guard := none }) (v := ?_) rfl (by kernel_rfl) (by kernel_rfl) (by kernel_rfl) (fun _ _ _ h => h) (Or.inl ⟨by rfl, ?_⟩) (by assumption) ?_
      rotate_left 1
      · intro w hSw; (try dsimp only at hSw); go_simp; try (with_reducible rfl)
      try simp only [Act.put, List.setIfInBounds_toArray, List.set_cons_zero, List.set_cons_succ]
      refine wpAnyH_take (i := 4) (oi := { dst := some 14, op := Op.binOp BinOp.rem 3 (Operand.tmp 13) (Operand.const (Value.int IntKind.i64 10)) 3, type := 3, pos := "outright.go:130", after := #[{ on := 3, ground := Ground.data }], guard := none }) (v := ?_) rfl (by kernel_rfl) (by kernel_rfl) (by kernel_rfl) (fun _ _ _ h => h) (Or.inl ⟨by rfl, ?_⟩) (by assumption) ?_
      rotate_left 1
      · intro w hSw; (try dsimp only at hSw); go_simp; try (with_reducible rfl)
      try simp only [Act.put, List.setIfInBounds_toArray, List.set_cons_zero, List.set_cons_succ]
      refine wpAnyH_take (i := 5) (oi := { dst := some 15, op := Op.binOp BinOp.add 3 (Operand.const (Value.int IntKind.i64 48)) (Operand.tmp 14) 3, type := 3, pos := "outright.go:130", after := #[{ on := 4, ground := Ground.data }], guard := none }) (v := ?_) rfl (by kernel_rfl) (by kernel_rfl) (by kernel_rfl) (fun _ _ _ h => h) (Or.inl ⟨by rfl, ?_⟩) (by assumption) ?_
      rotate_left 1
      · intro w hSw; (try dsimp only at hSw); go_simp; try (with_reducible rfl)
      try simp only [Act.put, List.setIfInBounds_toArray, List.set_cons_zero, List.set_cons_succ]
      refine wpAnyH_take (i := 6) (oi := { dst := some 16, op := Op.convert 3 5 (Operand.tmp 15), type := 5, pos := "outright.go:130", after := #[{ on := 5, ground := Ground.data }], guard := none }) (v := ?_) rfl (by kernel_rfl) (by kernel_rfl) (by kernel_rfl) (fun _ _ _ h => h) (Or.inl ⟨by rfl, ?_⟩) (by assumption) ?_
      rotate_left 1
      · intro w hSw; (try dsimp only at hSw); go_simp; try (with_reducible rfl)
      try simp only [Act.put, List.setIfInBounds_toArray, List.set_cons_zero, List.set_cons_succ]
      refine wpAnyH_ready (rs := [2, 7]) (by kernel_rfl) (by simp) ?_
      refine AllReadyH.cons (o := { dst := some 12, op := Op.call { callee := Callee.value (Operand.func 30), args := #[Operand.tmp 11], argTypes := #[3] }, type := 9, pos := "outright.go:130", after := #[{ on := 1, ground := Ground.data }], guard := none }) rfl (fun K hK => ?_) (AllReadyH.cons (o := { dst := some 17, op := Op.buildSlice 28 1 #[(0, Operand.tmp 16)], type := 28, pos := "outright.go:130", after := #[{ on := 6, ground := Ground.data }], guard := none }) rfl (fun K hK => ?_) (AllReadyH.nil))
      · go_simp
        refine (HID.out).mono ?_; rintro e w2 ⟨rfl, hb2⟩
        have HB2 := Lib.hid (show Below w.heap.size w w2 from (Below.refl _ w).drew.trans hb2)
        clear hb2
        refine hK.out _ _ trivial (fun hHeld => ?_)
        clear hK K
        try simp only [Act.put, List.setIfInBounds_toArray, List.set_cons_zero, List.set_cons_succ]
        refine wpAnyH_ready (rs := [7]) (by kernel_rfl) (by simp) ?_
        refine AllReadyH.cons (o := { dst := some 17, op := Op.buildSlice 28 1 #[(0, Operand.tmp 16)], type := 28, pos := "outright.go:130", after := #[{ on := 6, ground := Ground.data }], guard := none }) rfl (fun K hK => ?_) (AllReadyH.nil)
        go_simp
        refine hK.out _ _ trivial (fun hHeld => ?_)
        clear hK K
        try simp only [Act.put, List.setIfInBounds_toArray, List.set_cons_zero, List.set_cons_succ]
        refine wpAnyH_ready (rs := [8]) (by kernel_rfl) (by simp) ?_
        refine AllReadyH.cons (o := { dst := some 18, op := Op.convert 28 9 (Operand.tmp 17), type := 9, pos := "outright.go:130", after := #[{ on := 7, ground := Ground.data }], guard := none }) rfl (fun K hK => ?_) (AllReadyH.nil)
        go_simp
        refine hK.out _ _ trivial (fun hHeld => ?_)
        clear hK K
        try simp only [Act.put, List.setIfInBounds_toArray, List.set_cons_zero, List.set_cons_succ]
        refine wpAnyH_take (i := 9) (oi := { dst := some 19, op := Op.binOp BinOp.add 9 (Operand.tmp 12) (Operand.tmp 18) 9, type := 9, pos := "outright.go:130", after := #[{ on := 2, ground := Ground.data }, { on := 8, ground := Ground.data }], guard := none }) (v := ?_) rfl (by kernel_rfl) (by kernel_rfl) (by kernel_rfl) (fun _ _ _ h => h) (Or.inl ⟨by rfl, ?_⟩) (by assumption) ?_
        rotate_left 1
        · intro w hSw; (try dsimp only at hSw); go_simp; try (with_reducible rfl)
        try simp only [Act.put, List.setIfInBounds_toArray, List.set_cons_zero, List.set_cons_succ]
        refine wpAnyH_take (i := 10) (oi := { dst := some 2, op := Op.assign (Operand.tmp 19), type := 9, pos := "outright.go:130", after := #[{ on := 9, ground := Ground.data }, { on := 2, ground := Ground.chain }, { on := 0, ground := Ground.phase }, { on := 1, ground := Ground.phase }, { on := 2, ground := Ground.phase }, { on := 3, ground := Ground.phase }, { on := 4, ground := Ground.phase }, { on := 5, ground := Ground.phase }, { on := 6, ground := Ground.phase }, { on := 7, ground := Ground.phase }, { on := 8, ground := Ground.phase }, { on := 9, ground := Ground.phase }], guard := none }) (v := ?_) rfl (by kernel_rfl) (by kernel_rfl) (by kernel_rfl) (fun _ _ _ h => h) (Or.inl ⟨by rfl, ?_⟩) (by assumption) ?_
        rotate_left 1
        · intro w hSw; (try dsimp only at hSw); go_simp; try (with_reducible rfl)
        try simp only [Act.put, List.setIfInBounds_toArray, List.set_cons_zero, List.set_cons_succ]
        refine wpAnyH_done (by kernel_rfl) ?_ _
        clear hHeld
        go_wp2_with fail
        go_ret
        first | exact ⟨rfl, bel_alloc HB2.out _⟩ | exact ⟨rfl, HB2.out⟩
      · go_simp
        refine hK.out _ _ trivial (fun hHeld => ?_)
        clear hK K
        try simp only [Act.put, List.setIfInBounds_toArray, List.set_cons_zero, List.set_cons_succ]
        refine wpAnyH_ready (rs := [2, 8]) (by kernel_rfl) (by simp) ?_
        refine AllReadyH.cons (o := { dst := some 12, op := Op.call { callee := Callee.value (Operand.func 30), args := #[Operand.tmp 11], argTypes := #[3] }, type := 9, pos := "outright.go:130", after := #[{ on := 1, ground := Ground.data }], guard := none }) rfl (fun K hK => ?_) (AllReadyH.cons (o := { dst := some 18, op := Op.convert 28 9 (Operand.tmp 17), type := 9, pos := "outright.go:130", after := #[{ on := 7, ground := Ground.data }], guard := none }) rfl (fun K hK => ?_) (AllReadyH.nil))
        · go_simp
          refine (HIA.out).mono ?_; rintro e w2 ⟨rfl, hb2⟩
          have HB2 := Lib.hid (bel_call HBA.out hb2)
          have hc2 := HCA.out _ hb2
          clear hb2
          refine hK.out _ _ trivial (fun hHeld => ?_)
          clear hK K
          try simp only [Act.put, List.setIfInBounds_toArray, List.set_cons_zero, List.set_cons_succ]
          refine wpAnyH_ready (rs := [8]) (by kernel_rfl) (by simp) ?_
          refine AllReadyH.cons (o := { dst := some 18, op := Op.convert 28 9 (Operand.tmp 17), type := 9, pos := "outright.go:130", after := #[{ on := 7, ground := Ground.data }], guard := none }) rfl (fun K hK => ?_) (AllReadyH.nil)
          go_simp
          refine hK.out _ _ trivial (fun hHeld => ?_)
          clear hK K
          try simp only [Act.put, List.setIfInBounds_toArray, List.set_cons_zero, List.set_cons_succ]
          refine wpAnyH_take (i := 9) (oi := { dst := some 19, op := Op.binOp BinOp.add 9 (Operand.tmp 12) (Operand.tmp 18) 9, type := 9, pos := "outright.go:130", after := #[{ on := 2, ground := Ground.data }, { on := 8, ground := Ground.data }], guard := none }) (v := ?_) rfl (by kernel_rfl) (by kernel_rfl) (by kernel_rfl) (fun _ _ _ h => h) (Or.inl ⟨by rfl, ?_⟩) (by assumption) ?_
          rotate_left 1
          · intro w hSw; (try dsimp only at hSw); go_simp; try (with_reducible rfl)
          try simp only [Act.put, List.setIfInBounds_toArray, List.set_cons_zero, List.set_cons_succ]
          refine wpAnyH_take (i := 10) (oi := { dst := some 2, op := Op.assign (Operand.tmp 19), type := 9, pos := "outright.go:130", after := #[{ on := 9, ground := Ground.data }, { on := 2, ground := Ground.chain }, { on := 0, ground := Ground.phase }, { on := 1, ground := Ground.phase }, { on := 2, ground := Ground.phase }, { on := 3, ground := Ground.phase }, { on := 4, ground := Ground.phase }, { on := 5, ground := Ground.phase }, { on := 6, ground := Ground.phase }, { on := 7, ground := Ground.phase }, { on := 8, ground := Ground.phase }, { on := 9, ground := Ground.phase }], guard := none }) (v := ?_) rfl (by kernel_rfl) (by kernel_rfl) (by kernel_rfl) (fun _ _ _ h => h) (Or.inl ⟨by rfl, ?_⟩) (by assumption) ?_
          rotate_left 1
          · intro w hSw; (try dsimp only at hSw); go_simp; try (with_reducible rfl)
          try simp only [Act.put, List.setIfInBounds_toArray, List.set_cons_zero, List.set_cons_succ]
          refine wpAnyH_done (by kernel_rfl) ?_ _
          clear hHeld
          go_wp2_with fail
          go_ret
          first | exact ⟨rfl, bel_alloc HB2.out _⟩ | exact ⟨rfl, HB2.out⟩
        · go_simp
          refine hK.out _ _ trivial (fun hHeld => ?_)
          clear hK K
          try simp only [Act.put, List.setIfInBounds_toArray, List.set_cons_zero, List.set_cons_succ]
          refine wpAnyH_ready (rs := [2]) (by kernel_rfl) (by simp) ?_
          refine AllReadyH.cons (o := { dst := some 12, op := Op.call { callee := Callee.value (Operand.func 30), args := #[Operand.tmp 11], argTypes := #[3] }, type := 9, pos := "outright.go:130", after := #[{ on := 1, ground := Ground.data }], guard := none }) rfl (fun K hK => ?_) (AllReadyH.nil)
          go_simp
          refine (HIA.out).mono ?_; rintro e w2 ⟨rfl, hb2⟩
          have HB2 := Lib.hid (bel_call HBA.out hb2)
          have hc2 := HCA.out _ hb2
          clear hb2
          refine hK.out _ _ trivial (fun hHeld => ?_)
          clear hK K
          try simp only [Act.put, List.setIfInBounds_toArray, List.set_cons_zero, List.set_cons_succ]
          refine wpAnyH_take (i := 9) (oi := { dst := some 19, op := Op.binOp BinOp.add 9 (Operand.tmp 12) (Operand.tmp 18) 9, type := 9, pos := "outright.go:130", after := #[{ on := 2, ground := Ground.data }, { on := 8, ground := Ground.data }], guard := none }) (v := ?_) rfl (by kernel_rfl) (by kernel_rfl) (by kernel_rfl) (fun _ _ _ h => h) (Or.inl ⟨by rfl, ?_⟩) (by assumption) ?_
          rotate_left 1
          · intro w hSw; (try dsimp only at hSw); go_simp; try (with_reducible rfl)
          try simp only [Act.put, List.setIfInBounds_toArray, List.set_cons_zero, List.set_cons_succ]
          refine wpAnyH_take (i := 10) (oi := { dst := some 2, op := Op.assign (Operand.tmp 19), type := 9, pos := "outright.go:130", after := #[{ on := 9, ground := Ground.data }, { on := 2, ground := Ground.chain }, { on := 0, ground := Ground.phase }, { on := 1, ground := Ground.phase }, { on := 2, ground := Ground.phase }, { on := 3, ground := Ground.phase }, { on := 4, ground := Ground.phase }, { on := 5, ground := Ground.phase }, { on := 6, ground := Ground.phase }, { on := 7, ground := Ground.phase }, { on := 8, ground := Ground.phase }, { on := 9, ground := Ground.phase }], guard := none }) (v := ?_) rfl (by kernel_rfl) (by kernel_rfl) (by kernel_rfl) (fun _ _ _ h => h) (Or.inl ⟨by rfl, ?_⟩) (by assumption) ?_
          rotate_left 1
          · intro w hSw; (try dsimp only at hSw); go_simp; try (with_reducible rfl)
          try simp only [Act.put, List.setIfInBounds_toArray, List.set_cons_zero, List.set_cons_succ]
          refine wpAnyH_done (by kernel_rfl) ?_ _
          clear hHeld
          go_wp2_with fail
          go_ret
          first | exact ⟨rfl, bel_alloc HB2.out _⟩ | exact ⟨rfl, HB2.out⟩
end Go.Proofs.YtknfgcmidpgifaaGreatDoor

/-
  What lengths are told, plainly.
-/
namespace Go.Proofs.YtknfgcmidpgifaaGreatDoor
open Go.RowKit Go.Shelf
set_option linter.unusedVariables false
set_option linter.unusedSimpArgs false
set_option maxRecDepth 100000

theorem numA_app (a : Nat) (s t : List UInt8) : numA a (s ++ t) = numA (numA a s) t := List.foldl_append
theorem dec_facts2 : ∀ n : Nat, onlyR dR (Lib.decDigits n) = true ∧ num (Lib.decDigits n) = n ∧ Lib.decDigits n ≠ [] := by
  intro n
  induction n using Nat.strongRecOn with
  | _ n ih =>
    have hb : ∀ d : Nat, d < 10 → (UInt8.ofNat (48 + d)).toNat = 48 + d := fun d hd => by rw [UInt8.toNat_ofNat']; omega
    by_cases h : n < 10
    · rw [Lib.decDigits_one h]
      refine ⟨?_, ?_, by simp⟩
      · unfold onlyR
        rw [List.all_cons, hb n h, inD, List.all_nil, Bool.and_true, decide_eq_true_eq]
        omega
      · show 10 * 0 + ((UInt8.ofNat (48 + n)).toNat - 48) = n
        rw [hb n h]; omega
    · obtain ⟨h1, h2, h3⟩ := ih (n / 10) (by omega)
      have e : Lib.decDigits n = Lib.decDigits (n / 10) ++ [UInt8.ofNat (48 + n % 10)] := by conv => lhs; rw [Lib.decDigits, dif_neg h]
      rw [e]
      refine ⟨?_, ?_, by simp⟩
      · unfold onlyR at h1 ⊢
        rw [List.all_append, h1, Bool.true_and, List.all_cons, hb _ (by omega), inD, List.all_nil, Bool.and_true, decide_eq_true_eq]
        omega
      · show numA 0 (Lib.decDigits (n / 10) ++ [UInt8.ofNat (48 + n % 10)]) = n
        rw [numA_app]
        have h4 : numA 0 (Lib.decDigits (n / 10)) = n / 10 := h2
        rw [h4]
        show 10 * (n / 10) + ((UInt8.ofNat (48 + n % 10)).toNat - 48) = n
        rw [hb _ (by omega)]
        omega
theorem dec_short : ∀ (k n : Nat), n < 10 ^ (k + 1) → (Lib.decDigits n).length ≤ k + 1
  | 0, n, h => by rw [Lib.decDigits_one (by simpa using h)]; simp
  | k + 1, n, h => by
    by_cases h10 : n < 10
    · rw [Lib.decDigits_one h10]; simp
    · rw [Lib.decDigits, dif_neg h10, List.length_append]
      have := dec_short k (n / 10) (by rw [Nat.pow_succ] at h; omega)
      simp
      omega
theorem dec_ten {n : Nat} (h : n ≤ 1073741824) : (Lib.decDigits n).length ≤ 10 := dec_short 9 n (by omega)

def nCL : List UInt8 := [67, 111, 110, 116, 101, 110, 116, 45, 76, 101, 110, 103, 116, 104]
def nCN : List UInt8 := [67, 79, 78, 84, 69, 78, 84, 45, 108, 101, 110, 103, 116, 104]
def nTE : List UInt8 := [84, 114, 97, 110, 115, 102, 101, 114, 45, 69, 110, 99, 111, 100, 105, 110, 103]
def vId : List UInt8 := [105, 100, 101, 110, 116, 105, 116, 121]
theorem sm1 : sameN nCL nTra = false := by decide +kernel
theorem sm2 : sameN nCL nLen = true := by decide +kernel
theorem sm3 : sameN nCN nTra = false := by decide +kernel
theorem sm4 : sameN nCN nLen = true := by decide +kernel
theorem sm5 : sameN nTE nTra = true := by decide +kernel
theorem vals_cons (f : Fd) (l : List Fd) (name : List UInt8) : vals (f :: l) name = (if sameN f.1 name then [f.2] else []) ++ vals l name := by
  unfold vals
  rw [List.filter_cons]
  split <;> simp
theorem len_1 (t : List UInt8) : lenH [(nCL, t)] = lenV [t] := by
  unfold lenH
  rw [vals_cons, vals_cons]
  simp only [sm1, sm2]
  rfl
theorem len_2 (t o : List UInt8) : lenH [(nCL, t), (nCN, o)] = lenV [t, o] := by
  unfold lenH
  rw [vals_cons, vals_cons, vals_cons, vals_cons]
  simp only [sm1, sm2, sm3, sm4]
  rfl
theorem len_3 (t o : List UInt8) : (lenH [(nCL, t), (nCN, o), (nTE, vId)]).2 = 501 := by
  unfold lenH
  rw [vals_cons, vals_cons, vals_cons]
  simp only [sm1, sm3, sm5]
  rfl
theorem badN_self {t : List UInt8} (h0 : t ≠ []) (h : onlyR dR t = true) (hl : t.length ≤ 10) : badN t t = false := by
  unfold badN
  have h1 : (t == []) = false := by simpa using h0
  rw [h1, h, decide_eq_false (by omega)]
  simp
theorem lenV_1 {t : List UInt8} (h0 : t ≠ []) (h : onlyR dR t = true) (hl : t.length ≤ 10) : lenV [t] = if 65535 < num t then (0, 413) else (((num t : Nat) : Int), 200) := by
  show (if [t].any (badN t) = true then _ else _) = _
  rw [List.any_cons, badN_self h0 h hl]
  rfl
theorem lenV_2 {t : List UInt8} (o : List UInt8) (h0 : t ≠ []) (h : onlyR dR t = true) (hl : t.length ≤ 10) : ((lenV [t, o]).2 == 400) = (o != t) := by
  show ((if [t, o].any (badN t) = true then ((0 : Int), (400 : Int)) else if 65535 < num t then (0, 413) else (((num t : Nat) : Int), 200)).2 == 400) = _
  rw [List.any_cons, List.any_cons, badN_self h0 h hl, List.any_nil, Bool.or_false, Bool.false_or]
  by_cases e : o = t
  · subst e
    rw [badN_self h0 h hl, if_neg (by simp)]
    split <;> simp
  · have hb : badN t o = true := by
      unfold badN
      have : (o != t) = true := by simpa using e
      rw [this]
      simp
    rw [hb, if_pos rfl]
    simp [e]
theorem hof_len (n : Nat) (o : List UInt8) (hn : n ≤ 1073741824) :
    lenH [(nCL, Lib.decDigits n)] = (if 65535 < n then (0, 413) else ((n : Int), 200)) ∧ ((lenH [(nCL, Lib.decDigits n), (nCN, o)]).2 == 400) = (o != Lib.decDigits n) := by
  obtain ⟨h1, h2, h3⟩ := dec_facts2 n
  rw [len_1, len_2, lenV_1 h3 h1 (dec_ten hn), lenV_2 o h3 h1 (dec_ten hn), h2]
  exact ⟨rfl, rfl⟩
end Go.Proofs.YtknfgcmidpgifaaGreatDoor

/-
  The statement HeadLengths.
-/
namespace Go.Proofs.YtknfgcmidpgifaaGreatDoor
open Go.RowKit Go.Shelf
set_option linter.unusedVariables false
set_option linter.unusedSimpArgs false
set_option maxRecDepth 100000

/-- A field more, in a row that stands in a box's last cell: what runs, what lies behind it. -/
theorem box_app {w : World} {B q n c : Nat} {a : Option Addr} {l : List Fd} {b0 b1 b2 : Value} (x : Fd) (ho : OwnF w B (.slice a n c) l) (hn : n = l.length) (hx : Cel w q [b0, b1, b2, .slice a n c]) (hq : ∀ k, (Value.slice a n c).ownBlock = some k → k ≠ q) (hB : B ≤ w.heap.size) (hl : n + 1 ≤ 1000000) :
    ∃ a' c' w', (Builtin.append_ #[22, 22] 22 #[.slice a n c, .slice (some ⟨w.heap.size, 0, none⟩) 1 1]).run Tryz.prog (w.alloc (.cells #[.string (bs x.1), .string (bs x.2)] 44)) = .ok (.slice a' (n + 1) c') w' ∧
      w'.cell? ⟨q, 3, none⟩ = some (.slice a n c) ∧ (∀ j, w'.frozen? ⟨q, j, none⟩ = false) ∧
      Cel (w'.setCell ⟨q, 3, none⟩ (.slice a' (n + 1) c')) q [b0, b1, b2, .slice a' (n + 1) c'] ∧ OwnF (w'.setCell ⟨q, 3, none⟩ (.slice a' (n + 1) c')) B (.slice a' (n + 1) c') (l ++ [x]) ∧
      (∀ k, (Value.slice a' (n + 1) c').ownBlock = some k → k ≠ q) ∧ Aside (fun b => b = q ∨ B ≤ b) w (w'.setCell ⟨q, 3, none⟩ (.slice a' (n + 1) c')) := by
  subst hn
  have hal : Below w.heap.size w (w.alloc (.cells #[.string (bs x.1), .string (bs x.2)] 44)) := (Below.refl _ _).alloc (Nat.le_refl _) _
  have ho1 := ho.below hal
  have hlt := World.ownsRow.lt ho
  obtain ⟨a', c', w', h1, h2, h3, h4⟩ := run_appF ho1 (sf_one w x) (by simpa using hl) (by rw [World.size_alloc]; omega)
  simp only [List.length_singleton] at h1 h2 h4
  have hxx := (hx.below (by simp) hal).aside (by simp) h3 (fun h => hq _ h rfl)
  have hql := hx.lt (by simp)
  have hq' : ∀ k, (Value.slice a' (l.length + 1) c').ownBlock = some k → k ≠ q := fun k hk => by
    rcases h4 with h4 | h4
    · rw [h4] at hk; exact hq k hk
    · rw [h4, World.size_alloc] at hk
      injection hk with hk
      omega
  have hst : Aside (fun k => k = q) w' (w'.setCell ⟨q, 3, none⟩ (.slice a' (l.length + 1) c')) := Aside.setCell w' (p := ⟨q, 3, none⟩) _ rfl
  refine ⟨a', c', w', h1, hxx.c 3 (by simp), hxx.fz, hxx.set (o := 3) (by simp) _, row_aside h2 hst (fun k hk hg => hq' k hk hg), hq', ?_⟩
  exact (((Aside.of_all hal).trans (h3.mono fun k _ hk => .inr (hlt k hk).1)).trans (hst.mono fun k _ hk => .inl hk))

theorem hv_own {w : World} {B n c : Nat} {a : Option Addr} {l : List Fd} {m t : List UInt8} {v : Int} (ho : OwnF w B (.slice a n c) l) (hl : l.length ≤ 1000000) : Hv w w.heap.size (.agg #[.string (bs m), .string (bs t), .int .i64 v, .slice a n c]) ⟨m, t, v, l⟩ := ⟨_, rfl, ho.sf hl⟩

set_option maxHeartbeats 16000000 in
theorem lengths_law {w : World} (n : Int) (other : ByteArray) (hE : Env w) : Calls Tryz.prog 8 #[.int .i64 n, .string other] w (Tells w (.bool true)) := by
  have hoe : other = bs other.data.toList := bs_eta other
  obtain ⟨o, hoo⟩ : ∃ o, other.data.toList = o := ⟨_, rfl⟩
  rw [hoo] at hoe
  subst hoe
  clear hoo
  have HAW := Lib.hid (awake_any hE)
  have HE := Lib.hid hE
  clear hE
  by_cases h1 : n < 0
  · go_enter Tryz.func8, Tryz.ntmps8
    go_wp2_with fail
    refine (HAW.out).mono ?_; rintro e w1 ⟨rfl, hb1⟩
    have HB1 := Lib.hid hb1
    clear hb1
    go_wp2_with fail
    go_ret
    exact ⟨rfl, HB1.out⟩
  · by_cases h2 : 1073741824 < n
    · go_enter Tryz.func8, Tryz.ntmps8
      go_wp2_with fail
      refine (HAW.out).mono ?_; rintro e w1 ⟨rfl, hb1⟩
      have HB1 := Lib.hid hb1
      clear hb1
      go_wp2_with fail
      go_ret
      exact ⟨rfl, HB1.out⟩
    · by_cases h3 : 100 < o.length
      · have t3 : (100 : Int) < o.length := by omega
        clear h3
        go_enter Tryz.func8, Tryz.ntmps8
        go_wp2_with fail
        refine (HAW.out).mono ?_; rintro e w1 ⟨rfl, hb1⟩
        have HB1 := Lib.hid hb1
        clear hb1
        go_wp2_with fail
        go_ret
        exact ⟨rfl, HB1.out⟩
      · have t3 : ¬ ((100 : Int) < o.length) := by omega
        obtain ⟨k, rfl⟩ : ∃ k : Nat, n = k := ⟨n.toNat, by omega⟩
        have hk : k ≤ 1073741824 := by omega
        have HHL := Lib.hid (hof_len k o hk)
        have HH3 := Lib.hid (len_3 (Lib.decDigits k) o)
        have HDC := Lib.hid (fun w => decimal_any k (by omega) (by have := dec_ten hk; omega) w)
        have HTL := Lib.hid (dec_ten hk)
        have HOL := Lib.hid (show o.length ≤ 100 by omega)
        obtain ⟨T, hT⟩ : ∃ T, Lib.decDigits k = T := ⟨_, rfl⟩
        rw [hT] at HHL HH3 HDC HTL
        clear h1 h2 h3 hT
        have t1 : ¬ ((k : Int) < 0) := by omega
        have t2 : ¬ ((1073741824 : Int) < k) := by omega
        go_enter Tryz.func8, Tryz.ntmps8
        go_wp2_with fail
        refine (HAW.out).mono ?_; rintro e w1 ⟨rfl, hb1⟩
        have HB1 := Lib.hid hb1
        clear hb1 HAW
        go_wp2_with fail
        refine (HDC.out _).mono ?_; rintro e w2 ⟨rfl, hb2⟩
        have HB2 := Lib.hid (bel_call HB1.out hb2)
        clear hb2 t1 t2 t3
        go_wp2_with fail
        refine (of_any 1 nCL T w2).mono ?_; rintro e w3 ⟨a3, rfl, ho3, hb3⟩
        have hal : Below w3.heap.size w3 (w3.alloc (.cells #[.string (bs mGet), .string (bs tA), .int .i64 1, .slice a3 1 1] 24)) := (Below.refl _ _).alloc (Nat.le_refl _) _
        have hxx := cel_new4 w3 (.string (bs mGet)) (.string (bs tA)) (.int .i64 1) (.slice a3 1 1) 24
        obtain ⟨W, hW⟩ : ∃ W, w3.alloc (.cells #[.string (bs mGet), .string (bs tA), .int .i64 1, .slice a3 1 1] 24) = W := ⟨_, rfl⟩
        have HW := Lib.hid hW
        rw [hW] at hal hxx
        obtain ⟨q, hq⟩ : ∃ q, w3.heap.size = q := ⟨_, rfl⟩
        have HQ := Lib.hid (And.intro hq (show w2.heap.size ≤ q by rw [← hq]; exact hb3.size))
        have HSQ := Lib.hid (show W.heap.size = q + 1 by rw [← hW, World.size_alloc, hq])
        have HO4 := Lib.hid (ho3.below hal)
        have HOQ := Lib.hid (show ∀ k, (Value.slice a3 1 1).ownBlock = some k → k ≠ q from fun k hk => by have := (ho3.lt k hk).2; omega)
        have HB4 := Lib.hid (bel_call HB2.out (bel_call hb3 hal))
        rw [hq] at hxx
        have HX4 := Lib.hid hxx
        clear hb3 ho3 hal hxx hW hq
        go_wp2_with fail
        rw [HW.out]
        -- the lengths
        have hf1 : Fits ⟨mGet, tA, 1, [(nCL, T)]⟩ := ⟨by simp, fun x hx => by
          simp only [List.mem_singleton] at hx
          subst hx
          exact ⟨by simp [nCL], by have := HTL.out; simp only; omega⟩⟩
        have hf2 : Fits ⟨mGet, tA, 1, [(nCL, T), (nCN, o)]⟩ := ⟨by simp, fun x hx => by
          simp only [List.mem_cons, List.mem_nil_iff, or_false] at hx
          rcases hx with rfl | rfl
          · exact ⟨by simp [nCL], by have := HTL.out; simp only; omega⟩
          · exact ⟨by simp [nCN], by have := HOL.out; simp only; omega⟩⟩
        have hf3 : Fits ⟨mGet, tA, 1, [(nCL, T), (nCN, o), (nTE, vId)]⟩ := ⟨by simp, fun x hx => by
          simp only [List.mem_cons, List.mem_nil_iff, or_false] at hx
          rcases hx with rfl | rfl | rfl
          · exact ⟨by simp [nCL], by have := HTL.out; simp only; omega⟩
          · exact ⟨by simp [nCN], by have := HOL.out; simp only; omega⟩
          · exact ⟨by simp [nTE], by simp [vId]⟩⟩
        have HL1 := Lib.hid (length_any (w := W) (h := ⟨mGet, tA, 1, [(nCL, T)]⟩) (hv_own HO4.out (by simp)) (Nat.le_refl _) hf1)
        have HL2 := Lib.hid (fun (wx : World) (a : Option Addr) (c : Nat) (ho : OwnF wx w2.heap.size (.slice a 2 c) [(nCL, T), (nCN, o)]) => length_any (w := wx) (h := ⟨mGet, tA, 1, [(nCL, T), (nCN, o)]⟩) (hv_own ho (by simp)) (Nat.le_refl _) hf2)
        have HL3 := Lib.hid (fun (wx : World) (a : Option Addr) (c : Nat) (ho : OwnF wx w2.heap.size (.slice a 3 c) [(nCL, T), (nCN, o), (nTE, vId)]) => length_any (w := wx) (h := ⟨mGet, tA, 1, [(nCL, T), (nCN, o), (nTE, vId)]⟩) (hv_own ho (by simp)) (Nat.le_refl _) hf3)
        have hs2 := HHL.out.2
        have hs1 := HHL.out.1
        simp only [HH3.out] at HL3
        simp only at HL1 HL2
        rw [hs1] at HL1
        obtain ⟨S1, hS1⟩ : ∃ S, (lenH [(nCL, T), (nCN, o)]).1 = S := ⟨_, rfl⟩
        obtain ⟨S2, hS2⟩ : ∃ S, (lenH [(nCL, T), (nCN, o)]).2 = S := ⟨_, rfl⟩
        obtain ⟨S3, hS3⟩ : ∃ S, (lenH [(nCL, T), (nCN, o), (nTE, vId)]).1 = S := ⟨_, rfl⟩
        simp only [hS1, hS2] at HL2
        simp only [hS3] at HL3
        rw [hS2] at hs2
        have hoT : (!((bs o).toList == (bs T).toList)) = (o != T) := by rw [bs_toList, bs_toList]; rfl
        obtain ⟨K, hK⟩ : ∃ K, (o != T) = K := ⟨_, rfl⟩
        rw [hK] at hs2 hoT
        clear hf1 hf2 hf3 hs1 hS1 hS2 hS3 hK HHL HH3
        by_cases h6 : 65535 < k
        · have t6 : (65535 : Int) < k := by omega
          have t7 : ¬ ((k : Int) ≤ 65535) := by omega
          rw [if_pos h6] at HL1
          clear h6
          have hq3 : w3.heap.size = q := HQ.out.1
          refine (HL1.out).mono ?_; rintro e w5 ⟨rfl, hb5⟩
          have HB5 := Lib.hid (bel_call HB4.out hb5)
          have HX5 := Lib.hid (HX4.out.below (by simp) hb5)
          have HO5 := Lib.hid (HO4.out.below hb5)
          have HZ5 := Lib.hid (show q + 1 ≤ w5.heap.size by have := hb5.size; have := HSQ.out; omega)
          clear hb5
          obtain ⟨a5, k5, w6, r6, z6, f6, x6, o6, u6, s6⟩ := box_app (nCN, o) HO5.out rfl HX5.out HOQ.out (by have := HZ5.out; have := HQ.out.2; omega) (by omega)
          have r6 : (Builtin.append_ #[22, 22] 22 #[.slice a3 1 1, .slice (some ⟨w5.heap.size, 0, none⟩) 1 1]).run Tryz.prog (w5.alloc (.cells #[.string ⟨#[67, 79, 78, 84, 69, 78, 84, 45, 108, 101, 110, 103, 116, 104]⟩, .string (bs o)] 44)) = .ok (.slice a5 2 k5) w6 := r6
          have HR6 := Lib.hid r6
          have HX6 := Lib.hid x6
          have HO6 := Lib.hid (show OwnF (w6.setCell ⟨q, 3, none⟩ (.slice a5 2 k5)) w2.heap.size (.slice a5 2 k5) [(nCL, T), (nCN, o)] from o6)
          have HU6 := Lib.hid u6
          have HB6 := Lib.hid (show Below w.heap.size w (w6.setCell ⟨q, 3, none⟩ (.slice a5 2 k5)) from below_aside HB5.out s6 (fun b hb => ⟨by have := HB5.out.size; omega, fun h => by
            have := HB2.out.size
            have := HQ.out.2
            rcases h with h | h <;> omega⟩))
          have HZ6 := Lib.hid (show q + 1 ≤ (w6.setCell ⟨q, 3, none⟩ (.slice a5 2 k5)).heap.size from Nat.le_trans HZ5.out s6.size)
          clear r6 x6 o6 u6 s6
          obtain ⟨c0, c1, c2, c3⟩ := HX5.out.four
          have cf := HX5.out.fz
          obtain ⟨m0, m1, m2, m3⟩ := HX6.out.four
          go_wp2_with (at_builtin; refine wpList_append_run (.tmp 56) (.tmp 59) 22 22 rfl rfl rfl rfl HR6.out ?_)
          obtain ⟨W6, hW6⟩ : ∃ W6, w6.setCell ⟨q, 3, none⟩ (.slice a5 2 k5) = W6 := ⟨_, rfl⟩
          rw [hW6] at HX6 HO6 HB6 HZ6 ⊢
          clear c0 c1 c2 c3 cf z6 f6 hW6 m0 m1 m2 m3
          refine (HL2.out _ _ _ HO6.out).mono ?_; rintro e w7 ⟨rfl, hb7⟩
          have HB7 := Lib.hid (bel_call HB6.out hb7)
          have HX7 := Lib.hid (HX6.out.below (by simp) hb7)
          have HO7 := Lib.hid (HO6.out.below hb7)
          have HZ7 := Lib.hid (Nat.le_trans HZ6.out hb7.size)
          clear hb7
          obtain ⟨a7, k7, w8, r8, z8, f8, x8, o8, u8, s8⟩ := box_app (nTE, vId) HO7.out rfl HX7.out HU6.out (by have := HZ7.out; have := HQ.out.2; omega) (by omega)
          have r8 : (Builtin.append_ #[22, 22] 22 #[.slice a5 2 k5, .slice (some ⟨w7.heap.size, 0, none⟩) 1 1]).run Tryz.prog (w7.alloc (.cells #[.string ⟨#[84, 114, 97, 110, 115, 102, 101, 114, 45, 69, 110, 99, 111, 100, 105, 110, 103]⟩, .string ⟨#[105, 100, 101, 110, 116, 105, 116, 121]⟩] 44)) = .ok (.slice a7 3 k7) w8 := r8
          have HR8 := Lib.hid r8
          have HX8 := Lib.hid x8
          have HO8 := Lib.hid (show OwnF (w8.setCell ⟨q, 3, none⟩ (.slice a7 3 k7)) w2.heap.size (.slice a7 3 k7) [(nCL, T), (nCN, o), (nTE, vId)] from o8)
          have HB8 := Lib.hid (show Below w.heap.size w (w8.setCell ⟨q, 3, none⟩ (.slice a7 3 k7)) from below_aside HB7.out s8 (fun b hb => ⟨by have := HB7.out.size; omega, fun h => by
            have := HB2.out.size
            have := HQ.out.2
            rcases h with h | h <;> omega⟩))
          clear r8 x8 o8 u8 s8
          obtain ⟨c0, c1, c2, c3⟩ := HX7.out.four
          have cf := HX7.out.fz
          obtain ⟨m0, m1, m2, m3⟩ := HX8.out.four
          go_wp2_with (at_builtin; refine wpList_append_run (.tmp 68) (.tmp 70) 22 22 rfl rfl rfl rfl HR8.out ?_)
          obtain ⟨W8, hW8⟩ : ∃ W8, w8.setCell ⟨q, 3, none⟩ (.slice a7 3 k7) = W8 := ⟨_, rfl⟩
          rw [hW8] at HX8 HO8 HB8 ⊢
          clear c0 c1 c2 c3 cf z8 f8 hW8 m0 m1 m2 m3
          refine (HL3.out _ _ _ HO8.out).mono ?_; rintro e w9 ⟨rfl, hb9⟩
          have HB9 := Lib.hid (bel_call HB8.out hb9)
          clear hb9
          go_wp2_with fail
          go_ret
          exact ⟨rfl, HB9.out⟩
        · have t6 : ¬ ((65535 : Int) < k) := by omega
          have t7 : (k : Int) ≤ 65535 := by omega
          rw [if_neg h6] at HL1
          clear h6
          have hq3 : w3.heap.size = q := HQ.out.1
          refine (HL1.out).mono ?_; rintro e w5 ⟨rfl, hb5⟩
          have HB5 := Lib.hid (bel_call HB4.out hb5)
          have HX5 := Lib.hid (HX4.out.below (by simp) hb5)
          have HO5 := Lib.hid (HO4.out.below hb5)
          have HZ5 := Lib.hid (show q + 1 ≤ w5.heap.size by have := hb5.size; have := HSQ.out; omega)
          clear hb5
          obtain ⟨a5, k5, w6, r6, z6, f6, x6, o6, u6, s6⟩ := box_app (nCN, o) HO5.out rfl HX5.out HOQ.out (by have := HZ5.out; have := HQ.out.2; omega) (by omega)
          have r6 : (Builtin.append_ #[22, 22] 22 #[.slice a3 1 1, .slice (some ⟨w5.heap.size, 0, none⟩) 1 1]).run Tryz.prog (w5.alloc (.cells #[.string ⟨#[67, 79, 78, 84, 69, 78, 84, 45, 108, 101, 110, 103, 116, 104]⟩, .string (bs o)] 44)) = .ok (.slice a5 2 k5) w6 := r6
          have HR6 := Lib.hid r6
          have HX6 := Lib.hid x6
          have HO6 := Lib.hid (show OwnF (w6.setCell ⟨q, 3, none⟩ (.slice a5 2 k5)) w2.heap.size (.slice a5 2 k5) [(nCL, T), (nCN, o)] from o6)
          have HU6 := Lib.hid u6
          have HB6 := Lib.hid (show Below w.heap.size w (w6.setCell ⟨q, 3, none⟩ (.slice a5 2 k5)) from below_aside HB5.out s6 (fun b hb => ⟨by have := HB5.out.size; omega, fun h => by
            have := HB2.out.size
            have := HQ.out.2
            rcases h with h | h <;> omega⟩))
          have HZ6 := Lib.hid (show q + 1 ≤ (w6.setCell ⟨q, 3, none⟩ (.slice a5 2 k5)).heap.size from Nat.le_trans HZ5.out s6.size)
          clear r6 x6 o6 u6 s6
          obtain ⟨c0, c1, c2, c3⟩ := HX5.out.four
          have cf := HX5.out.fz
          obtain ⟨m0, m1, m2, m3⟩ := HX6.out.four
          go_wp2_with (at_builtin; refine wpList_append_run (.tmp 56) (.tmp 59) 22 22 rfl rfl rfl rfl HR6.out ?_)
          obtain ⟨W6, hW6⟩ : ∃ W6, w6.setCell ⟨q, 3, none⟩ (.slice a5 2 k5) = W6 := ⟨_, rfl⟩
          rw [hW6] at HX6 HO6 HB6 HZ6 ⊢
          clear c0 c1 c2 c3 cf z6 f6 hW6 m0 m1 m2 m3
          refine (HL2.out _ _ _ HO6.out).mono ?_; rintro e w7 ⟨rfl, hb7⟩
          have HB7 := Lib.hid (bel_call HB6.out hb7)
          have HX7 := Lib.hid (HX6.out.below (by simp) hb7)
          have HO7 := Lib.hid (HO6.out.below hb7)
          have HZ7 := Lib.hid (Nat.le_trans HZ6.out hb7.size)
          clear hb7
          obtain ⟨a7, k7, w8, r8, z8, f8, x8, o8, u8, s8⟩ := box_app (nTE, vId) HO7.out rfl HX7.out HU6.out (by have := HZ7.out; have := HQ.out.2; omega) (by omega)
          have r8 : (Builtin.append_ #[22, 22] 22 #[.slice a5 2 k5, .slice (some ⟨w7.heap.size, 0, none⟩) 1 1]).run Tryz.prog (w7.alloc (.cells #[.string ⟨#[84, 114, 97, 110, 115, 102, 101, 114, 45, 69, 110, 99, 111, 100, 105, 110, 103]⟩, .string ⟨#[105, 100, 101, 110, 116, 105, 116, 121]⟩] 44)) = .ok (.slice a7 3 k7) w8 := r8
          have HR8 := Lib.hid r8
          have HX8 := Lib.hid x8
          have HO8 := Lib.hid (show OwnF (w8.setCell ⟨q, 3, none⟩ (.slice a7 3 k7)) w2.heap.size (.slice a7 3 k7) [(nCL, T), (nCN, o), (nTE, vId)] from o8)
          have HB8 := Lib.hid (show Below w.heap.size w (w8.setCell ⟨q, 3, none⟩ (.slice a7 3 k7)) from below_aside HB7.out s8 (fun b hb => ⟨by have := HB7.out.size; omega, fun h => by
            have := HB2.out.size
            have := HQ.out.2
            rcases h with h | h <;> omega⟩))
          clear r8 x8 o8 u8 s8
          obtain ⟨c0, c1, c2, c3⟩ := HX7.out.four
          have cf := HX7.out.fz
          obtain ⟨m0, m1, m2, m3⟩ := HX8.out.four
          go_wp2_with (at_builtin; refine wpList_append_run (.tmp 68) (.tmp 70) 22 22 rfl rfl rfl rfl HR8.out ?_)
          obtain ⟨W8, hW8⟩ : ∃ W8, w8.setCell ⟨q, 3, none⟩ (.slice a7 3 k7) = W8 := ⟨_, rfl⟩
          rw [hW8] at HX8 HO8 HB8 ⊢
          clear c0 c1 c2 c3 cf z8 f8 hW8 m0 m1 m2 m3
          refine (HL3.out _ _ _ HO8.out).mono ?_; rintro e w9 ⟨rfl, hb9⟩
          have HB9 := Lib.hid (bel_call HB8.out hb9)
          clear hb9
          go_wp2_with fail
          go_ret
          exact ⟨rfl, HB9.out⟩
end Go.Proofs.YtknfgcmidpgifaaGreatDoor

/-
  What is written is parsed as it was, blanks or none; what is parsed may be, but for how long it is.
-/
namespace Go.Proofs.YtknfgcmidpgifaaGreatDoor
open Go.RowKit Go.Shelf
set_option linter.unusedVariables false
set_option linter.unusedSimpArgs false
set_option maxRecDepth 100000

/-! ### lines -/
def joinL (L : List (List UInt8)) : List UInt8 := L.flatMap (· ++ crlf)
theorem scan_join : ∀ (L : List (List UInt8)), (∀ x ∈ L, clean x ∧ x ≠ []) → scan false [] (joinL L ++ crlf) = some L
  | [], _ => rfl
  | x :: r, h => by
    have h1 := h x (by simp)
    have e : joinL (x :: r) ++ crlf = x ++ 13 :: 10 :: (joinL r ++ crlf) := by
      unfold joinL
      rw [List.flatMap_cons]
      simp [crlf]
    rw [e, scan_clean _ _ _ h1.1, List.nil_append, scan_end, if_neg h1.2, scan_join r fun y hy => h y (by simp [hy])]
    rfl
theorem lines_join (L : List (List UInt8)) (h : ∀ x ∈ L, clean x ∧ x ≠ []) : linesB (joinL L ++ crlf) = L := by
  unfold linesB; rw [scan_join L h]; rfl
theorem scan_size : ∀ (b : List UInt8) (l : List UInt8) (ls : List (List UInt8)), (scan false l b = some ls → l.length + b.length = (joinL ls).length + 2) ∧ (scan true l b = some ls → l.length + 1 + b.length = (joinL ls).length + 2)
  | [], l, ls => ⟨fun h => by simp [scan] at h, fun h => by simp [scan] at h⟩
  | c :: r, l, ls => by
    refine ⟨fun h => ?_, fun h => ?_⟩
    · rw [scan] at h
      split at h
      · have := (scan_size r l ls).2 h
        rw [List.length_cons]; omega
      · split at h
        · cases h
        · have := (scan_size r (l ++ [c]) ls).1 h
          rw [List.length_append] at this
          simp at this ⊢; omega
    · rw [scan] at h
      split at h
      · split at h
        · rename_i hl
          split at h
          · rename_i hr
            injection h with h
            subst h; subst hl; subst hr
            rfl
          · cases h
        · cases hs : scan false [] r with
          | none => rw [hs] at h; cases h
          | some m =>
            rw [hs] at h
            injection h with h
            subst h
            have := (scan_size r [] m).1 hs
            unfold joinL at this ⊢
            rw [List.flatMap_cons, List.length_append, List.length_append]
            simp [crlf] at this ⊢
            omega
      · cases h
theorem lines_size {b : List UInt8} {l : List UInt8} {ls : List (List UInt8)} (h : linesB b = l :: ls) : b.length = (joinL (l :: ls)).length + 2 := by
  unfold linesB at h
  cases hs : scan false [] b with
  | none => rw [hs] at h; cases h
  | some m =>
    rw [hs] at h
    have e : m = l :: ls := h
    subst e
    simpa using (scan_size b [] _).1 hs
theorem joinL_len (L : List (List UInt8)) : (joinL L).length = (L.map fun x => x.length + 2).sum := by
  induction L with
  | nil => rfl
  | cons x r ih =>
    unfold joinL at ih ⊢
    rw [List.flatMap_cons, List.length_append, ih, List.length_append, List.map_cons, List.sum_cons]
    rfl

/-! ### which bytes may stand where -/
theorem only_mem {r s : List UInt8} (h : onlyR r s = true) : ∀ x ∈ s, inR r x.toNat = true := List.all_eq_true.mp h
theorem wR_not : ∀ n : Nat, n = 10 ∨ n = 13 ∨ n = 32 ∨ n = 58 → inR wR n = false := by
  intro n h
  rcases h with rfl | rfl | rfl | rfl <;> decide +kernel
theorem tR_not : ∀ n : Nat, n = 10 ∨ n = 13 ∨ n = 32 → inR tR n = false := by
  intro n h
  rcases h with rfl | rfl | rfl <;> decide +kernel
theorem vR_not : ∀ n : Nat, n = 10 ∨ n = 13 → inR vR n = false := by
  intro n h
  rcases h with rfl | rfl <;> decide +kernel
theorem word_not {s : List UInt8} {most : Nat} (h : wordL s most = true) : clean s ∧ (32 : UInt8) ∉ s ∧ (58 : UInt8) ∉ s ∧ s ≠ [] := by
  unfold wordL at h
  simp only [Bool.and_eq_true, decide_eq_true_eq] at h
  have ho := only_mem h.2.2
  refine ⟨fun x hx => ⟨?_, ?_⟩, fun hx => ?_, fun hx => ?_, ?_⟩
  · rintro rfl; exact absurd (ho _ hx) (by decide +kernel)
  · rintro rfl; exact absurd (ho _ hx) (by decide +kernel)
  · exact absurd (ho _ hx) (by decide +kernel)
  · exact absurd (ho _ hx) (by decide +kernel)
  · rintro rfl; simp at h
theorem tgt_not {s : List UInt8} (h : tgtL s = true) : clean s ∧ (32 : UInt8) ∉ s ∧ s ≠ [] ∧ s.length ≤ 2048 := by
  unfold tgtL at h
  simp only [Bool.and_eq_true, decide_eq_true_eq] at h
  have ho := only_mem h.1.2.2
  refine ⟨fun x hx => ⟨?_, ?_⟩, fun hx => ?_, ?_, h.1.2.1⟩
  · rintro rfl; exact absurd (ho _ hx) (by decide +kernel)
  · rintro rfl; exact absurd (ho _ hx) (by decide +kernel)
  · exact absurd (ho _ hx) (by decide +kernel)
  · rintro rfl; simp at h
theorem val_not {s : List UInt8} (h : valL s = true) : clean s ∧ trimB s = s := by
  unfold valL at h
  simp only [Bool.and_eq_true, beq_iff_eq] at h
  have ho := only_mem h.1
  refine ⟨fun x hx => ⟨?_, ?_⟩, h.2⟩
  · rintro rfl; exact absurd (ho _ hx) (by decide +kernel)
  · rintro rfl; exact absurd (ho _ hx) (by decide +kernel)
theorem clean_app {a b : List UInt8} (ha : clean a) (hb : clean b) : clean (a ++ b) := fun x hx => (List.mem_append.mp hx).elim (ha x) (hb x)
theorem clean_blank {a : List UInt8} (h : ∀ x ∈ a, blk x = true) : clean a := fun x hx => by
  rcases (blk_iff x).1 (h x hx) with rfl | rfl <;> decide

/-! ### a line of a field -/
def okF (f : Fd) : Bool := wordL f.1 64 && valL f.2
/-- A line that says this field. -/
def Gd (f : Fd) (l : List UInt8) : Prop := ∃ a b, (∀ x ∈ a, blk x = true) ∧ (∀ x ∈ b, blk x = true) ∧ l = f.1 ++ 58 :: (a ++ f.2 ++ b)
theorem gd_reads {f : Fd} {l : List UInt8} (h : Gd f l) (ho : okF f = true) : badF l = false ∧ (ahd l, trimB (bhd l)) = f ∧ clean l ∧ l ≠ [] := by
  obtain ⟨a, b, ha, hb, rfl⟩ := h
  unfold okF at ho
  rw [Bool.and_eq_true] at ho
  obtain ⟨hw, _, h58, hne⟩ := word_not ho.1
  obtain ⟨hv, htv⟩ := val_not ho.2
  have e1 : (f.1 ++ 58 :: (a ++ f.2 ++ b)).takeWhile (· != 58) = f.1 := by
    rw [List.takeWhile_append_of_pos (fun x hx => by
      rw [bne_iff_ne]; rintro rfl; exact h58 hx)]
    simp
  have e2 : (f.1 ++ 58 :: (a ++ f.2 ++ b)).dropWhile (· != 58) = 58 :: (a ++ f.2 ++ b) := by
    have := List.takeWhile_append_dropWhile (p := (· != 58)) (l := f.1 ++ 58 :: (a ++ f.2 ++ b))
    rw [e1] at this
    exact List.append_cancel_left this
  have h1 : ahd (f.1 ++ 58 :: (a ++ f.2 ++ b)) = f.1 := e1
  have h2 : trimB (bhd (f.1 ++ 58 :: (a ++ f.2 ++ b))) = f.2 := by
    unfold bhd
    rw [e2]
    show trimB (a ++ f.2 ++ b) = f.2
    rw [trimB_mid _ _ _ ha hb, htv]
  refine ⟨?_, by rw [h1, h2], ?_, by simp⟩
  · unfold badF
    rw [h1, h2, ho.1, ho.2]
    simp
  · refine clean_app hw fun x hx => ?_
    rcases List.mem_cons.mp hx with rfl | hx
    · decide
    · exact clean_app (clean_app (clean_blank ha) hv) (clean_blank hb) x hx
def GdL : List Fd → List (List UInt8) → Prop
  | [], [] => True
  | f :: fs, l :: ls => (Gd f l ∧ okF f = true) ∧ GdL fs ls
  | _, _ => False
theorem gdL_reads : ∀ (fs : List Fd) (ls : List (List UInt8)) (acc : List Fd), GdL fs ls → acc.length + fs.length ≤ 32 → fldsA acc ls = (acc ++ fs, 200)
  | [], [], acc, _, _ => by simp [fldsA]
  | f :: fs, l :: ls, acc, h, hl => by
    obtain ⟨h1, h2, _⟩ := gd_reads h.1.1 h.1.2
    rw [List.length_cons] at hl
    rw [fldsA_go (by omega) h1, h2, gdL_reads fs ls _ h.2 (by simp; omega)]
    simp
  | [], _ :: _, _, h, _ => h.elim
  | _ :: _, [], _, h, _ => h.elim
theorem gdL_clean : ∀ (fs : List Fd) (ls : List (List UInt8)), GdL fs ls → ∀ x ∈ ls, clean x ∧ x ≠ []
  | [], [], _ => by simp
  | f :: fs, l :: ls, h => by
    intro x hx
    rcases List.mem_cons.mp hx with rfl | hx
    · exact ⟨(gd_reads h.1.1 h.1.2).2.2.1, (gd_reads h.1.1 h.1.2).2.2.2⟩
    · exact gdL_clean fs ls h.2 x hx
  | [], _ :: _, h => h.elim
  | _ :: _, [], h => h.elim

/-! ### the first line -/
def ver (v : Int) : List UInt8 := [72, 84, 84, 80, 47, 49, 46] ++ dgt v
def fst1 (h : Hd) : List UInt8 := h.m ++ 32 :: (h.t ++ 32 :: ver h.v)
theorem ver_L (v : Int) (hv : v = 0 ∨ v = 1) : verL (ver v) = (v, 200) ∧ (32 : UInt8) ∉ ver v ∧ clean (ver v) ∧ ver v ≠ [] := by
  rcases hv with rfl | rfl
  · exact ⟨by rfl, by decide, by unfold clean; decide, by decide⟩
  · exact ⟨by rfl, by decide, by unfold clean; decide, by decide⟩
theorem fst_reads {h : Hd} (hm : wordL h.m 16 = true) (ht : tgtL h.t = true) (hv : h.v = 0 ∨ h.v = 1) : fstL (fst1 h) = (⟨h.m, h.t, h.v, []⟩, 200) ∧ clean (fst1 h) ∧ fst1 h ≠ [] := by
  obtain ⟨m1, m2, _, m4⟩ := word_not hm
  obtain ⟨t1, t2, t3, t4⟩ := tgt_not ht
  obtain ⟨v1, v2, v3, v4⟩ := ver_L h.v hv
  have hs : spl 32 (fst1 h) = [h.m, h.t, ver h.v] := by
    unfold fst1
    rw [spl_app _ _ _ m2, spl_app _ _ _ t2, spl_no _ _ v2]
  refine ⟨?_, ?_, by unfold fst1; simp⟩
  · rw [fstL_3 hs]
    unfold fst3
    rw [if_neg (by simp [m4, t3, v4]), if_neg (by rw [hm]; simp), if_neg (by rw [v1]; simp), if_neg (by omega), if_neg (by rw [ht]; simp), v1]
  · unfold fst1
    refine clean_app m1 fun x hx => ?_
    rcases List.mem_cons.mp hx with rfl | hx
    · decide
    · refine clean_app t1 (fun y hy => ?_) x hx
      rcases List.mem_cons.mp hy with rfl | hy
      · decide
      · exact v3 y hy

/-! ### what is written -/
theorem par_good {h : Hd} {ls : List (List UInt8)} (hm : wordL h.m 16 = true) (ht : tgtL h.t = true) (hv : h.v = 0 ∨ h.v = 1) (hg : GdL h.fs ls) (hl : h.fs.length ≤ 32) (ho : hostL h.fs h.v = true)
    (hn : (joinL (fst1 h :: ls) ++ crlf).length ≤ 4096) : parH (joinL (fst1 h :: ls) ++ crlf) = (h, 200) := by
  obtain ⟨f1, f2, f3⟩ := fst_reads hm ht hv
  unfold parH
  rw [if_neg (by omega), lines_join _ (fun x hx => by
    rcases List.mem_cons.mp hx with rfl | hx
    · exact ⟨f2, f3⟩
    · exact gdL_clean _ _ hg x hx)]
  rw [par1, f1, if_neg (by simp)]
  unfold par2
  rw [gdL_reads h.fs ls [] hg (by simpa using hl)]
  simp [ho]
theorem gdL_self (fs : List Fd) (h : ∀ f ∈ fs, okF f = true) : GdL fs (fs.map fun f => f.1 ++ 58 :: ([32] ++ f.2 ++ [])) := by
  induction fs with
  | nil => trivial
  | cons f r ih => exact ⟨⟨⟨[32], [], by simp [blk], by simp, rfl⟩, h f (by simp)⟩, ih fun g hg => h g (by simp [hg])⟩
theorem wr_join (h : Hd) : wrH h = joinL (fst1 h :: h.fs.map fun f => f.1 ++ 58 :: ([32] ++ f.2 ++ [])) ++ crlf := by
  have e1 : (h.fs.flatMap pcF).flatten = joinL (h.fs.map fun f => f.1 ++ 58 :: ([32] ++ f.2 ++ [])) := by
    unfold joinL
    generalize h.fs = l
    induction l with
    | nil => rfl
    | cons f r ih =>
      rw [List.flatMap_cons, List.flatten_append, ih, List.map_cons, List.flatMap_cons]
      simp [pcF]
  have e2 : joinL (fst1 h :: h.fs.map fun f => f.1 ++ 58 :: ([32] ++ f.2 ++ [])) = fst1 h ++ crlf ++ joinL (h.fs.map fun f => f.1 ++ 58 :: ([32] ++ f.2 ++ [])) := by
    unfold joinL; rw [List.flatMap_cons]
  rw [e2, ← e1]
  unfold wrH
  rw [pcs_eq, List.flatten_append, List.flatten_append]
  unfold pc0 fst1 ver htp
  simp
theorem mayH_all {h : Hd} (hm : mayH h = true) : wordL h.m 16 = true ∧ tgtL h.t = true ∧ (h.v = 0 ∨ h.v = 1) ∧ h.fs.length ≤ 32 ∧ (∀ f ∈ h.fs, okF f = true) ∧ hostL h.fs h.v = true ∧ (wrH h).length ≤ 4096 := by
  unfold mayH at hm
  simp only [Bool.and_eq_true, decide_eq_true_eq, Bool.or_eq_true, beq_iff_eq] at hm
  obtain ⟨h1, h2, h3, h4, h5, h6, h7⟩ := hm
  exact ⟨h1, h2, h3, h4, fun f hf => by have := List.all_eq_true.mp h5 f hf; exact this, h6, h7⟩
/-- **What is written is parsed as it was.** -/
theorem par_wr {h : Hd} (hm : mayH h = true) : parH (wrH h) = (h, 200) := by
  obtain ⟨h1, h2, h3, h4, h5, h6, h7⟩ := mayH_all hm
  rw [wr_join] at h7 ⊢
  exact par_good h1 h2 h3 (gdL_self _ h5) h4 h6 h7
end Go.Proofs.YtknfgcmidpgifaaGreatDoor
