/-
  An entry of a list is read, and laid behind the others.
-/
import Derived.Test.YtpdaekgldgoalaaGreatV13
import Derived.Test.YtpdaekgldgoalaaGreatV07
import Derived.Defers
namespace Go.Proofs.YtpdaekgldgoalaaGreat
open Go.RowKit Go.Shelf
set_option linter.unusedVariables false
set_option linter.unusedSimpArgs false
set_option maxRecDepth 100000

/-- What comes of reading an entry: the list that stands in cell o of block M has it behind the others. -/
def RdPost (w : World) (M o : Nat) (xs : List Value) (v : Value) (own : World → Value → Prop) (E F A : Int) (x : Ending) (w' : World) : Prop :=
  ∃ v', x = .returned (.tuple #[.int .i64 E, .agg #[.int .i64 F, .int .i64 A]]) ∧ Cel w' M (xs.set o v') ∧ own w' v' ∧ Aside (fun k => k = M ∨ v.ownBlock = some k) w w' ∧ (v'.ownBlock = v.ownBlock ∨ ∃ k, v'.ownBlock = some k ∧ w.heap.size ≤ k)

theorem info_qn : (Tryz.prog.info? 55).map (fun i => (i.zero, i.size, i.bytes)) = some (some (.agg #[.string ⟨#[]⟩, .int .i64 0, .int .i64 0]), 3, 32) := by kernel_rfl
theorem info_rc : (Tryz.prog.info? 52).map (fun i => (i.zero, i.size, i.bytes)) = some (some (.agg #[.string ⟨#[]⟩, .int .i64 0, .int .i64 0, .int .i64 0, .string ⟨#[]⟩]), 5, 56) := by kernel_rfl

/-- append to rows of questions, of records. -/
theorem run_appQn {w : World} {B hi : Nat} {v u : Value} {l m : List Qn} (h : OwnQn w B v l) (hx : SQ w hi u m) (hnm : l.length + m.length ≤ 1000000) (hB : B ≤ w.heap.size) :
    ∃ a' c' w', (Builtin.append_ #[22, 22] 22 #[v, u]).run Tryz.prog w = .ok (.slice a' (l.length + m.length) c') w' ∧ OwnQn w' B (.slice a' (l.length + m.length) c') (l ++ m) ∧ Aside (fun b => v.ownBlock = some b) w w' ∧
      ((Value.slice a' (l.length + m.length) c').ownBlock = v.ownBlock ∨ (Value.slice a' (l.length + m.length) c').ownBlock = some w.heap.size) := by
  obtain ⟨i0, hi, hz0, hz1, hz2⟩ := info_parts info_qn
  obtain ⟨a', c', w', h1, h2, h3, h4⟩ := row_more (ty := 22) 32 Tryz.underlying22 hi hz0 hz1 hz2 rfl (by decide) (by decide) h hx (acq_len m) (acq_one m) hnm hB
  refine ⟨a', c', w', h1, ?_, h3, h4⟩
  unfold OwnQn
  rw [List.length_append, acq_app]
  exact h2
theorem run_appRc {w : World} {B hi : Nat} {v u : Value} {l m : List Rc} (h : OwnRc w B v l) (hx : SR w hi u m) (hnm : l.length + m.length ≤ 1000000) (hB : B ≤ w.heap.size) :
    ∃ a' c' w', (Builtin.append_ #[23, 23] 23 #[v, u]).run Tryz.prog w = .ok (.slice a' (l.length + m.length) c') w' ∧ OwnRc w' B (.slice a' (l.length + m.length) c') (l ++ m) ∧ Aside (fun b => v.ownBlock = some b) w w' ∧
      ((Value.slice a' (l.length + m.length) c').ownBlock = v.ownBlock ∨ (Value.slice a' (l.length + m.length) c').ownBlock = some w.heap.size) := by
  obtain ⟨i0, hi, hz0, hz1, hz2⟩ := info_parts info_rc
  obtain ⟨a', c', w', h1, h2, h3, h4⟩ := row_more (ty := 23) 56 Tryz.underlying23 hi hz0 hz1 hz2 rfl (by decide) (by decide) h hx (acr_len m) (acr_one m) hnm hB
  refine ⟨a', c', w', h1, ?_, h3, h4⟩
  unfold OwnRc
  rw [List.length_append, acr_app]
  exact h2

/-- One that was just built, as a slice. -/
theorem sq_one (w : World) (x : Qn) : SQ (w.alloc (.cells #[.string (bs x.n), .int .i64 x.t, .int .i64 x.c] 55)) (w.heap.size + 1) (.slice (some ⟨w.heap.size, 0, none⟩) 1 1) [x] :=
  ⟨_, 1, rfl, by simp, fun h => by simp at h, fun _ => ⟨w.heap.size, 0, rfl, by omega, fun i u hu => by
    have hc := cel_new3 w (.string (bs x.n)) (.int .i64 x.t) (.int .i64 x.c) 55
    rw [Nat.zero_add]
    match i, hu with
    | 0, hu => rw [hc.c 0 (by simp)]; simpa [acq, cq] using hu
    | 1, hu => rw [hc.c 1 (by simp)]; simpa [acq, cq] using hu
    | 2, hu => rw [hc.c 2 (by simp)]; simpa [acq, cq] using hu
    | i + 3, hu => simp [acq, cq] at hu⟩⟩
theorem sr_one (w : World) (x : Rc) : SR (w.alloc (.cells #[.string (bs x.n), .int .i64 x.t, .int .i64 x.c, .int .i64 x.l, .string (bs x.d)] 52)) (w.heap.size + 1) (.slice (some ⟨w.heap.size, 0, none⟩) 1 1) [x] :=
  ⟨_, 1, rfl, by simp, fun h => by simp at h, fun _ => ⟨w.heap.size, 0, rfl, by omega, fun i u hu => by
    have hc := cel_new w (.string (bs x.n)) (.int .i64 x.t) (.int .i64 x.c) (.int .i64 x.l) (.string (bs x.d)) 52
    rw [Nat.zero_add]
    match i, hu with
    | 0, hu => rw [hc.c 0 (by simp)]; simpa [acr, cr] using hu
    | 1, hu => rw [hc.c 1 (by simp)]; simpa [acr, cr] using hu
    | 2, hu => rw [hc.c 2 (by simp)]; simpa [acr, cr] using hu
    | 3, hu => rw [hc.c 3 (by simp)]; simpa [acr, cr] using hu
    | 4, hu => rw [hc.c 4 (by simp)]; simpa [acr, cr] using hu
    | i + 5, hu => simp [acr, cr] at hu⟩⟩

set_option maxHeartbeats 8000000 in
theorem readQ_gen {w : World} {M o B : Nat} {xs : List Value} {v vb : Value} {l : List Qn} (a : Int) (x : Qn) (E F A : Int) (hm : Cel w M xs) (ho : o < xs.length) (hv : xs[o] = v) (how : OwnQn w B v l) (hMB : M < B) (hB : B ≤ w.heap.size) (hln : l.length + 1 ≤ 1000000)
    (hc : ∀ wx, Below w.heap.size w wx → Calls Tryz.prog 78 #[vb, .int .i64 a] wx (Tells wx (.tuple #[.agg #[.string (bs x.n), .int .i64 x.t, .int .i64 x.c], .int .i64 E, .agg #[.int .i64 F, .int .i64 A]]))) :
    Calls Tryz.prog 75 #[.agg #[.pointer (some ⟨M, o, none⟩)], vb, .int .i64 a] w (RdPost w M o xs v (fun w' v' => OwnQn w' B v' (l ++ [x])) E F A) := by
  obtain ⟨g0, hg0⟩ : ∃ g, w.heap.size = g := ⟨_, rfl⟩
  obtain ⟨W1, hW1⟩ : ∃ W, w.alloc (.cells #[.pointer (some ⟨M, o, none⟩)] 92) = W := ⟨_, rfl⟩
  obtain ⟨W2, hW2⟩ : ∃ W, W1.alloc (.cells #[.int .i64 0, .int .i64 0] 47) = W := ⟨_, rfl⟩
  have s1 : W1.heap.size = g0 + 1 := by rw [← hW1, World.size_alloc, hg0]
  have s2 : W2.heap.size = g0 + 2 := by rw [← hW2, World.size_alloc, s1]
  have b2 : Below w.heap.size w W2 := by rw [← hW2, ← hW1]; exact ((Below.refl _ _).alloc (Nat.le_refl _) _).alloc (by simp) _
  have x1 : Cel W2 g0 [.pointer (some ⟨M, o, none⟩)] := by
    have := cel_new1 w (.pointer (some ⟨M, o, none⟩)) 92
    rw [hW1, hg0] at this
    exact this.below (by simp) (by rw [← hW2]; exact (Below.refl _ _).alloc (Nat.le_refl _) _)
  have x7 : Cel W2 (g0 + 1) [.int .i64 0, .int .i64 0] := by
    have := cel_new2 W1 (.int .i64 0) (.int .i64 0) 47
    rwa [hW2, s1] at this
  have HCB := Lib.hid x1
  have HC7 := Lib.hid x7
  have HXL := Lib.hid (show 0 < xs.length by omega)
  have HCM := Lib.hid (hm.below HXL.out b2)
  have HOW0 := Lib.hid how
  have HOW := Lib.hid (row_below how b2)
  have HAS := Lib.hid (Aside.of_all b2 : Aside (fun k => k = M ∨ v.ownBlock = some k) w W2)
  have HO := Lib.hid ho
  have HV := Lib.hid hv
  have HMB := Lib.hid hMB
  have HBB := Lib.hid hB
  have HLN := Lib.hid (show l.length + [x].length ≤ 1000000 from hln)
  have HG0 := Lib.hid hg0
  have HC := Lib.hid (hc W2 b2)
  clear hm how b2 x1 x7 hc hMB hB hv
  go_enter Tryz.func75, Tryz.ntmps75
  go_wp2_with fail
  refine HC.out.mono ?_; rintro e w3 ⟨rfl, hb⟩
  obtain ⟨g1, hg1⟩ : ∃ g, w3.heap.size = g := ⟨_, rfl⟩
  have HG1 := Lib.hid (show g0 + 2 ≤ g1 by have := hb.size; omega)
  obtain ⟨W4, hW4⟩ : ∃ W, w3.alloc (.cells #[.string (bs x.n), .int .i64 x.t, .int .i64 x.c] 55) = W := ⟨_, rfl⟩
  obtain ⟨W5, hW5⟩ : ∃ W, W4.alloc (.cells #[.int .i64 F, .int .i64 A] 47) = W := ⟨_, rfl⟩
  have s4 : W4.heap.size = g1 + 1 := by rw [← hW4, World.size_alloc, hg1]
  have b5 : Below W2.heap.size W2 W5 := by rw [← hW5, ← hW4]; exact (hb.alloc hb.size _).alloc (by simp; exact Nat.le_succ_of_le hb.size) _
  have xq : Cel W5 g1 [.string (bs x.n), .int .i64 x.t, .int .i64 x.c] := by
    have := cel_new3 w3 (.string (bs x.n)) (.int .i64 x.t) (.int .i64 x.c) 55
    rw [hW4, hg1] at this
    exact this.below (by simp) (by rw [← hW5]; exact (Below.refl _ _).alloc (Nat.le_refl _) _)
  have xf : Cel W5 (g1 + 1) [.int .i64 F, .int .i64 A] := by
    have := cel_new2 W4 (.int .i64 F) (.int .i64 A) 47
    rwa [hW5, s4] at this
  replace HCB := Lib.hid (HCB.out.below (by simp) b5)
  replace HC7 := Lib.hid (HC7.out.below (by simp) b5)
  replace HCM := Lib.hid (HCM.out.below HXL.out b5)
  replace HOW := Lib.hid (row_below HOW.out b5)
  replace HAS := Lib.hid (HAS.out.trans (Aside.of_all b5))
  have HCQ := Lib.hid xq
  have s5 : W5.heap.size = g1 + 2 := by rw [← hW5, World.size_alloc, s4]
  have HCF := Lib.hid xf
  obtain ⟨WX, hWX⟩ : ∃ X, W5.drew = X := ⟨_, rfl⟩
  have HS5 := Lib.hid (show g1 + 2 ≤ WX.heap.size by rw [← hWX]; exact Nat.le_of_eq s5.symm)
  have b6 : Below W5.heap.size W5 WX := by rw [← hWX]; exact (Below.refl _ _).drew
  replace HCB := Lib.hid (HCB.out.below (by simp) b6)
  replace HC7 := Lib.hid (HC7.out.below (by simp) b6)
  replace HCM := Lib.hid (HCM.out.below HXL.out b6)
  replace HOW := Lib.hid (row_below HOW.out b6)
  replace HAS := Lib.hid (HAS.out.trans (Aside.of_all b6))
  replace HCQ := Lib.hid (HCQ.out.below (by simp) b6)
  replace HCF := Lib.hid (HCF.out.below (by simp) b6)
  have d1 : WX.cell? ⟨M, o, none⟩ = some v := by have := HCM.out.c o HO.out; rw [HV.out] at this; exact this
  clear xq xf b5 b6 hb HC s5
  go_wp2_with fail
  refine wp_region_held_drew (S := (fun wx => wx.cell? ⟨g0, 0, none⟩ = some (.pointer (some ⟨M, o, none⟩)) ∧ wx.cell? ⟨g1, 0, none⟩ = some (.string (bs x.n)) ∧ wx.cell? ⟨g1, 1, none⟩ = some (.int .i64 x.t) ∧ wx.cell? ⟨g1, 2, none⟩ = some (.int .i64 x.c))) (by kernel_rfl) (by rw [hWX]; exact ⟨HCB.out.c 0 (by simp), HCQ.out.c 0 (by simp), HCQ.out.c 1 (by simp), HCQ.out.c 2 (by simp)⟩) (fun hHeld => ?_)
  refine wpAnyH_take (i := 0) (oi := { dst := some 18, op := Op.fieldAddr 92 (Operand.tmp 3) 0, type := 0, pos := "list.go:50", after := #[], guard := none }) (v := ?_) rfl (by kernel_rfl) (by kernel_rfl) (by kernel_rfl) (fun _ _ _ h => h) (Or.inl ⟨by rfl, ?_⟩) (by assumption) ?_
  rotate_left 1
  · intro w hSw; (try dsimp only at hSw); go_simp; try (with_reducible rfl)
  try simp only [Act.put, List.setIfInBounds_toArray, List.set_cons_zero, List.set_cons_succ]
  refine wpAnyH_take (i := 1) (oi := { dst := some 19, op := Op.load 90 (Operand.tmp 18), type := 90, pos := "list.go:50", after := #[{ on := 0, ground := Ground.data }], guard := none }) (v := ?_) rfl (by kernel_rfl) (by kernel_rfl) (by kernel_rfl) (fun _ _ _ h => h) (Or.inl ⟨by rfl, ?_⟩) (by assumption) ?_
  rotate_left 1
  · intro w hSw; (try dsimp only at hSw); go_simp; try (with_reducible rfl)
  try simp only [Act.put, List.setIfInBounds_toArray, List.set_cons_zero, List.set_cons_succ]
  refine wpAnyH_take (i := 2) (oi := { dst := some 20, op := Op.fieldAddr 92 (Operand.tmp 3) 0, type := 0, pos := "list.go:50", after := #[], guard := none }) (v := ?_) rfl (by kernel_rfl) (by kernel_rfl) (by kernel_rfl) (fun _ _ _ h => h) (Or.inl ⟨by rfl, ?_⟩) (by assumption) ?_
  rotate_left 1
  · intro w hSw; (try dsimp only at hSw); go_simp; try (with_reducible rfl)
  try simp only [Act.put, List.setIfInBounds_toArray, List.set_cons_zero, List.set_cons_succ]
  refine wpAnyH_take (i := 3) (oi := { dst := some 21, op := Op.load 90 (Operand.tmp 20), type := 90, pos := "list.go:50", after := #[{ on := 2, ground := Ground.data }], guard := none }) (v := ?_) rfl (by kernel_rfl) (by kernel_rfl) (by kernel_rfl) (fun _ _ _ h => h) (Or.inl ⟨by rfl, ?_⟩) (by assumption) ?_
  rotate_left 1
  · intro w hSw; (try dsimp only at hSw); go_simp; try (with_reducible rfl)
  try simp only [Act.put, List.setIfInBounds_toArray, List.set_cons_zero, List.set_cons_succ]
  refine wpAnyH_take (i := 4) (oi := { dst := some 22, op := Op.nilCheck (Operand.tmp 21), type := 0, pos := "list.go:50", after := #[{ on := 3, ground := Ground.data }], guard := none }) (v := ?_) rfl (by kernel_rfl) (by kernel_rfl) (by kernel_rfl) (fun _ _ _ h => h) (Or.inl ⟨by rfl, ?_⟩) (by assumption) ?_
  rotate_left 1
  · intro w hSw; (try dsimp only at hSw); go_simp; try (with_reducible rfl)
  try simp only [Act.put, List.setIfInBounds_toArray, List.set_cons_zero, List.set_cons_succ]
  refine wpAnyH_take (i := 6) (oi := { dst := some 24, op := Op.load 55 (Operand.tmp 8), type := 55, pos := "list.go:50", after := #[], guard := none }) (v := ?_) rfl (by kernel_rfl) (by kernel_rfl) (by kernel_rfl) (fun _ _ _ h => h) (Or.inl ⟨by rfl, ?_⟩) (by assumption) ?_
  rotate_left 1
  · intro w hSw; (try dsimp only at hSw); go_simp; try (with_reducible rfl)
  try simp only [Act.put, List.setIfInBounds_toArray, List.set_cons_zero, List.set_cons_succ]
  refine wpAnyH_ready (rs := [5, 7]) (by kernel_rfl) (by simp) ?_
  refine AllReadyH.cons (o := { dst := some 23, op := Op.load 22 (Operand.tmp 22), type := 22, pos := "list.go:50", after := #[{ on := 4, ground := Ground.data }], guard := none }) rfl (fun K hK => ?_) (AllReadyH.cons (o := { dst := some 25, op := Op.buildSlice 22 1 #[(0, Operand.tmp 24)], type := 22, pos := "list.go:50", after := #[{ on := 6, ground := Ground.data }], guard := none }) rfl (fun K hK => ?_) (AllReadyH.nil))
  · go_simp
    refine hK.out _ _ ⟨HCB.out.c 0 (by simp), HCQ.out.c 0 (by simp), HCQ.out.c 1 (by simp), HCQ.out.c 2 (by simp)⟩ (fun hHeld => ?_)
    clear hK K
    try simp only [Act.put, List.setIfInBounds_toArray, List.set_cons_zero, List.set_cons_succ]
    refine wpAnyH_ready (rs := [7]) (by kernel_rfl) (by simp) ?_
    refine AllReadyH.cons (o := { dst := some 25, op := Op.buildSlice 22 1 #[(0, Operand.tmp 24)], type := 22, pos := "list.go:50", after := #[{ on := 6, ground := Ground.data }], guard := none }) rfl (fun K hK => ?_) (AllReadyH.nil)
    go_simp
    have hb : Below WX.heap.size WX (WX.alloc (.cells #[.string (bs x.n), .int .i64 x.t, .int .i64 x.c] 55)) := (Below.refl _ _).alloc (Nat.le_refl _) _
    have HONE := Lib.hid (sq_one WX x)
    replace HCB := Lib.hid (HCB.out.below (by simp) hb)
    replace HC7 := Lib.hid (HC7.out.below (by simp) hb)
    replace HCQ := Lib.hid (HCQ.out.below (by simp) hb)
    replace HCF := Lib.hid (HCF.out.below (by simp) hb)
    replace HCM := Lib.hid (HCM.out.below HXL.out hb)
    replace HOW := Lib.hid (row_below HOW.out hb)
    replace HAS := Lib.hid (HAS.out.trans (Aside.of_all hb))
    clear hb d1
    have d1 : (WX.alloc (.cells #[.string (bs x.n), .int .i64 x.t, .int .i64 x.c] 55)).cell? ⟨M, o, none⟩ = some v := by have := HCM.out.c o HO.out; rw [HV.out] at this; exact this
    refine hK.out _ _ ⟨HCB.out.c 0 (by simp), HCQ.out.c 0 (by simp), HCQ.out.c 1 (by simp), HCQ.out.c 2 (by simp)⟩ (fun hHeld => ?_)
    clear hK K
    try simp only [Act.put, List.setIfInBounds_toArray, List.set_cons_zero, List.set_cons_succ]
    refine wpAnyH_ready (rs := [8]) (by kernel_rfl) (by simp) ?_
    refine AllReadyH.cons (o := { dst := some 26, op := Op.call { callee := Callee.builtin Builtin.append, args := #[Operand.tmp 23, Operand.tmp 25], argTypes := #[22, 22] }, type := 22, pos := "list.go:50", after := #[{ on := 5, ground := Ground.data }, { on := 7, ground := Ground.data }], guard := none }) rfl (fun K hK => ?_) (AllReadyH.nil)
    obtain ⟨a2, c2, w6, hrun, ho6, ha6, hk6⟩ := run_appQn HOW.out HONE.out HLN.out (Nat.le_trans HBB.out HAS.out.size)
    simp only [List.length_singleton] at hrun ho6 hk6
    have HRUN := Lib.hid hrun
    have hlt := World.ownsRow.lt HOW0.out
    have hG : ∀ k, k < B ∨ g0 ≤ k → ¬ v.ownBlock = some k := fun k hk hg => by have := hlt k hg; have := HG0.out; omega
    replace HCB := Lib.hid (HCB.out.aside (by simp) ha6 (hG _ (by omega)))
    replace HC7 := Lib.hid (HC7.out.aside (by simp) ha6 (hG _ (by omega)))
    replace HCQ := Lib.hid (HCQ.out.aside (by simp) ha6 (hG _ (by have := HG1.out; omega)))
    replace HCF := Lib.hid (HCF.out.aside (by simp) ha6 (hG _ (by have := HG1.out; omega)))
    replace HCM := Lib.hid (HCM.out.aside HXL.out ha6 (hG _ (.inl HMB.out)))
    have HAS6 := Lib.hid (HAS.out.trans (ha6.mono fun k _ hk => .inr hk))
    have HO6 := Lib.hid ho6
    have HK6 := Lib.hid hk6
    clear d1
    have d1 : w6.cell? ⟨M, o, none⟩ = some v := by have := HCM.out.c o HO.out; rw [HV.out] at this; exact this
    have f1 := HCM.out.fz
    clear hrun ho6 ha6 hk6 hlt hG
    refine oper_app_run (.tmp 23) (.tmp 25) 22 22 rfl rfl rfl rfl HRUN.out ?_
    refine hK.out _ _ ⟨HCB.out.c 0 (by simp), HCQ.out.c 0 (by simp), HCQ.out.c 1 (by simp), HCQ.out.c 2 (by simp)⟩ (fun hHeld => ?_)
    clear hK K
    try simp only [Act.put, List.setIfInBounds_toArray, List.set_cons_zero, List.set_cons_succ]
    refine wpAnyH_take (i := 9) (oi := { dst := some 27, op := Op.nilCheck (Operand.tmp 19), type := 0, pos := "list.go:50", after := #[{ on := 1, ground := Ground.data }, { on := 0, ground := Ground.phase }, { on := 1, ground := Ground.phase }, { on := 2, ground := Ground.phase }, { on := 3, ground := Ground.phase }, { on := 4, ground := Ground.phase }, { on := 5, ground := Ground.phase }, { on := 6, ground := Ground.phase }, { on := 7, ground := Ground.phase }, { on := 8, ground := Ground.phase }], guard := none }) (v := ?_) rfl (by kernel_rfl) (by kernel_rfl) (by kernel_rfl) (fun _ _ _ h => h) (Or.inl ⟨by rfl, ?_⟩) (by assumption) ?_
    rotate_left 1
    · intro w hSw; (try dsimp only at hSw); go_simp; try (with_reducible rfl)
    try simp only [Act.put, List.setIfInBounds_toArray, List.set_cons_zero, List.set_cons_succ]
    refine wpAnyH_ready (rs := [10]) (by kernel_rfl) (by simp) ?_
    refine AllReadyH.cons (o := { dst := none, op := Op.store 22 (Operand.tmp 27) (Operand.tmp 26), type := 0, pos := "list.go:50", after := #[{ on := 9, ground := Ground.data }, { on := 8, ground := Ground.data }, { on := 8, ground := Ground.chain }, { on := 0, ground := Ground.phase }, { on := 1, ground := Ground.phase }, { on := 2, ground := Ground.phase }, { on := 3, ground := Ground.phase }, { on := 4, ground := Ground.phase }, { on := 5, ground := Ground.phase }, { on := 6, ground := Ground.phase }, { on := 7, ground := Ground.phase }, { on := 8, ground := Ground.phase }], guard := none }) rfl (fun K hK => ?_) (AllReadyH.nil)
    go_simp
    replace HCB := Lib.hid (HCB.out.other (a := ⟨M, o, none⟩) (by have := HMB.out; have := HBB.out; have := HG0.out; show M ≠ g0; omega) (.slice a2 (l.length + 1) c2))
    replace HC7 := Lib.hid (HC7.out.other (a := ⟨M, o, none⟩) (by have := HMB.out; have := HBB.out; have := HG0.out; show M ≠ g0 + 1; omega) (.slice a2 (l.length + 1) c2))
    replace HCQ := Lib.hid (HCQ.out.other (a := ⟨M, o, none⟩) (by have := HMB.out; have := HBB.out; have := HG0.out; have := HG1.out; show M ≠ g1; omega) (.slice a2 (l.length + 1) c2))
    replace HCF := Lib.hid (HCF.out.other (a := ⟨M, o, none⟩) (by have := HMB.out; have := HBB.out; have := HG0.out; have := HG1.out; show M ≠ g1 + 1; omega) (.slice a2 (l.length + 1) c2))
    replace HCM := Lib.hid (HCM.out.set HO.out (.slice a2 (l.length + 1) c2))
    replace HAS6 := Lib.hid (HAS6.out.trans (Aside.setCell w6 (p := ⟨M, o, none⟩) (.slice a2 (l.length + 1) c2) (.inl rfl)))
    replace HO6 := Lib.hid (row_aside (G := fun k => k = M) HO6.out (Aside.setCell w6 (p := ⟨M, o, none⟩) (.slice a2 (l.length + 1) c2) rfl) (fun k hk hg => by have := (World.ownsRow.lt HO6.out k hk).1; have := HMB.out; omega))
    refine hK.out _ _ ⟨HCB.out.c 0 (by simp), HCQ.out.c 0 (by simp), HCQ.out.c 1 (by simp), HCQ.out.c 2 (by simp)⟩ (fun hHeld => ?_)
    clear hK K
    try simp only [Act.put, List.setIfInBounds_toArray, List.set_cons_zero, List.set_cons_succ]
    refine wpAnyH_done (by kernel_rfl) ?_ _
    clear hHeld
    obtain ⟨X, hX⟩ : ∃ X, w6.setCell ⟨M, o, none⟩ (.slice a2 (l.length + 1) c2) = X := ⟨_, rfl⟩
    rw [hX] at HCB HC7 HCQ HCF HCM HAS6 HO6 ⊢
    clear hX HONE HRUN d1 f1
    have y0 := HCF.out.c 0 (by simp)
    have y1 := HCF.out.c 1 (by simp)
    have z0 := HC7.out.c 0 (by simp)
    have z1 := HC7.out.c 1 (by simp)
    simp only [List.getElem_cons_zero, List.getElem_cons_succ] at y0 y1 z0 z1
    have f7 := HC7.out.fz
    go_wp2_with fail
    go_region
    go_wp2_with fail
    have r7 := (HC7.out.set (o := 0) (by simp) (.int .i64 F)).set (o := 1) (by simp) (.int .i64 A)
    simp only [List.set_cons_zero, List.set_cons_succ] at r7
    have m0 := r7.c 0 (by simp)
    have m1 := r7.c 1 (by simp)
    simp only [List.getElem_cons_zero, List.getElem_cons_succ] at m0 m1
    clear y0 y1 z0 z1 f7 r7
    have hk6 := HK6.out
    have hlt0 := World.ownsRow.lt HOW0.out
    have hnb : ∀ k, (Value.slice a2 (l.length + 1) c2).ownBlock = some k → ¬ k = g0 + 1 := fun k hk hg => by
      have h0 := HG0.out
      have h5 := HS5.out
      rcases hk6 with h | h
      · have := hlt0 k (by rw [← h]; exact hk); omega
      · rw [h] at hk; injection hk with hk; simp only [World.size_alloc] at hk; have := HG1.out; omega
    have hne : (⟨M, 0, none⟩ : Addr).block ≠ g0 + 1 := by have := HMB.out; have := HBB.out; have := HG0.out; show M ≠ g0 + 1; omega
    have hst : Aside (fun k => k = g0 + 1) X ((X.setCell ⟨g0 + 1, 0, none⟩ (.int .i64 F)).setCell ⟨g0 + 1, 1, none⟩ (.int .i64 A)).drew := by
      have h1 : Aside (fun k => k = g0 + 1) X (X.setCell ⟨g0 + 1, 0, none⟩ (.int .i64 F)) := Aside.setCell X (p := ⟨g0 + 1, 0, none⟩) _ rfl
      have h2 : Aside (fun k => k = g0 + 1) (X.setCell ⟨g0 + 1, 0, none⟩ (.int .i64 F)) ((X.setCell ⟨g0 + 1, 0, none⟩ (.int .i64 F)).setCell ⟨g0 + 1, 1, none⟩ (.int .i64 A)) := Aside.setCell _ (p := ⟨g0 + 1, 1, none⟩) _ rfl
      have h3 := h1.trans h2
      exact ⟨h3.os, h3.tape, h3.output, h3.size, h3.block⟩
    refine bodyPost_ret (by simp [results, Tryz.results75, go_sem, m0, m1]) rfl ⟨.slice a2 (l.length + 1) c2, rfl, ?_, ?_, ?_, ?_⟩
    · have := (HCM.out.other (a := ⟨g0 + 1, 0, none⟩) (fun h => hne h.symm) (.int .i64 F)).other (a := ⟨g0 + 1, 1, none⟩) (fun h => hne h.symm) (.int .i64 A)
      exact ⟨this.c, this.fz⟩
    · exact row_aside (G := fun k => k = g0 + 1) HO6.out hst hnb
    · exact HAS6.out.onto (M := fun k => k = g0 + 1) hst (fun k hk _ hg => by have := HG0.out; omega)
    · rcases hk6 with h | h
      · exact .inl h
      · refine .inr ⟨_, h, ?_⟩
        have h0 := HG0.out
        have h5 := HS5.out
        have := HG1.out
        simp only [World.size_alloc]
        omega
  · go_simp
    have hb : Below WX.heap.size WX (WX.alloc (.cells #[.string (bs x.n), .int .i64 x.t, .int .i64 x.c] 55)) := (Below.refl _ _).alloc (Nat.le_refl _) _
    have HONE := Lib.hid (sq_one WX x)
    replace HCB := Lib.hid (HCB.out.below (by simp) hb)
    replace HC7 := Lib.hid (HC7.out.below (by simp) hb)
    replace HCQ := Lib.hid (HCQ.out.below (by simp) hb)
    replace HCF := Lib.hid (HCF.out.below (by simp) hb)
    replace HCM := Lib.hid (HCM.out.below HXL.out hb)
    replace HOW := Lib.hid (row_below HOW.out hb)
    replace HAS := Lib.hid (HAS.out.trans (Aside.of_all hb))
    clear hb d1
    have d1 : (WX.alloc (.cells #[.string (bs x.n), .int .i64 x.t, .int .i64 x.c] 55)).cell? ⟨M, o, none⟩ = some v := by have := HCM.out.c o HO.out; rw [HV.out] at this; exact this
    refine hK.out _ _ ⟨HCB.out.c 0 (by simp), HCQ.out.c 0 (by simp), HCQ.out.c 1 (by simp), HCQ.out.c 2 (by simp)⟩ (fun hHeld => ?_)
    clear hK K
    try simp only [Act.put, List.setIfInBounds_toArray, List.set_cons_zero, List.set_cons_succ]
    refine wpAnyH_ready (rs := [5]) (by kernel_rfl) (by simp) ?_
    refine AllReadyH.cons (o := { dst := some 23, op := Op.load 22 (Operand.tmp 22), type := 22, pos := "list.go:50", after := #[{ on := 4, ground := Ground.data }], guard := none }) rfl (fun K hK => ?_) (AllReadyH.nil)
    go_simp
    refine hK.out _ _ ⟨HCB.out.c 0 (by simp), HCQ.out.c 0 (by simp), HCQ.out.c 1 (by simp), HCQ.out.c 2 (by simp)⟩ (fun hHeld => ?_)
    clear hK K
    try simp only [Act.put, List.setIfInBounds_toArray, List.set_cons_zero, List.set_cons_succ]
    refine wpAnyH_ready (rs := [8]) (by kernel_rfl) (by simp) ?_
    refine AllReadyH.cons (o := { dst := some 26, op := Op.call { callee := Callee.builtin Builtin.append, args := #[Operand.tmp 23, Operand.tmp 25], argTypes := #[22, 22] }, type := 22, pos := "list.go:50", after := #[{ on := 5, ground := Ground.data }, { on := 7, ground := Ground.data }], guard := none }) rfl (fun K hK => ?_) (AllReadyH.nil)
    obtain ⟨a2, c2, w6, hrun, ho6, ha6, hk6⟩ := run_appQn HOW.out HONE.out HLN.out (Nat.le_trans HBB.out HAS.out.size)
    simp only [List.length_singleton] at hrun ho6 hk6
    have HRUN := Lib.hid hrun
    have hlt := World.ownsRow.lt HOW0.out
    have hG : ∀ k, k < B ∨ g0 ≤ k → ¬ v.ownBlock = some k := fun k hk hg => by have := hlt k hg; have := HG0.out; omega
    replace HCB := Lib.hid (HCB.out.aside (by simp) ha6 (hG _ (by omega)))
    replace HC7 := Lib.hid (HC7.out.aside (by simp) ha6 (hG _ (by omega)))
    replace HCQ := Lib.hid (HCQ.out.aside (by simp) ha6 (hG _ (by have := HG1.out; omega)))
    replace HCF := Lib.hid (HCF.out.aside (by simp) ha6 (hG _ (by have := HG1.out; omega)))
    replace HCM := Lib.hid (HCM.out.aside HXL.out ha6 (hG _ (.inl HMB.out)))
    have HAS6 := Lib.hid (HAS.out.trans (ha6.mono fun k _ hk => .inr hk))
    have HO6 := Lib.hid ho6
    have HK6 := Lib.hid hk6
    clear d1
    have d1 : w6.cell? ⟨M, o, none⟩ = some v := by have := HCM.out.c o HO.out; rw [HV.out] at this; exact this
    have f1 := HCM.out.fz
    clear hrun ho6 ha6 hk6 hlt hG
    refine oper_app_run (.tmp 23) (.tmp 25) 22 22 rfl rfl rfl rfl HRUN.out ?_
    refine hK.out _ _ ⟨HCB.out.c 0 (by simp), HCQ.out.c 0 (by simp), HCQ.out.c 1 (by simp), HCQ.out.c 2 (by simp)⟩ (fun hHeld => ?_)
    clear hK K
    try simp only [Act.put, List.setIfInBounds_toArray, List.set_cons_zero, List.set_cons_succ]
    refine wpAnyH_take (i := 9) (oi := { dst := some 27, op := Op.nilCheck (Operand.tmp 19), type := 0, pos := "list.go:50", after := #[{ on := 1, ground := Ground.data }, { on := 0, ground := Ground.phase }, { on := 1, ground := Ground.phase }, { on := 2, ground := Ground.phase }, { on := 3, ground := Ground.phase }, { on := 4, ground := Ground.phase }, { on := 5, ground := Ground.phase }, { on := 6, ground := Ground.phase }, { on := 7, ground := Ground.phase }, { on := 8, ground := Ground.phase }], guard := none }) (v := ?_) rfl (by kernel_rfl) (by kernel_rfl) (by kernel_rfl) (fun _ _ _ h => h) (Or.inl ⟨by rfl, ?_⟩) (by assumption) ?_
    rotate_left 1
    · intro w hSw; (try dsimp only at hSw); go_simp; try (with_reducible rfl)
    try simp only [Act.put, List.setIfInBounds_toArray, List.set_cons_zero, List.set_cons_succ]
    refine wpAnyH_ready (rs := [10]) (by kernel_rfl) (by simp) ?_
    refine AllReadyH.cons (o := { dst := none, op := Op.store 22 (Operand.tmp 27) (Operand.tmp 26), type := 0, pos := "list.go:50", after := #[{ on := 9, ground := Ground.data }, { on := 8, ground := Ground.data }, { on := 8, ground := Ground.chain }, { on := 0, ground := Ground.phase }, { on := 1, ground := Ground.phase }, { on := 2, ground := Ground.phase }, { on := 3, ground := Ground.phase }, { on := 4, ground := Ground.phase }, { on := 5, ground := Ground.phase }, { on := 6, ground := Ground.phase }, { on := 7, ground := Ground.phase }, { on := 8, ground := Ground.phase }], guard := none }) rfl (fun K hK => ?_) (AllReadyH.nil)
    go_simp
    replace HCB := Lib.hid (HCB.out.other (a := ⟨M, o, none⟩) (by have := HMB.out; have := HBB.out; have := HG0.out; show M ≠ g0; omega) (.slice a2 (l.length + 1) c2))
    replace HC7 := Lib.hid (HC7.out.other (a := ⟨M, o, none⟩) (by have := HMB.out; have := HBB.out; have := HG0.out; show M ≠ g0 + 1; omega) (.slice a2 (l.length + 1) c2))
    replace HCQ := Lib.hid (HCQ.out.other (a := ⟨M, o, none⟩) (by have := HMB.out; have := HBB.out; have := HG0.out; have := HG1.out; show M ≠ g1; omega) (.slice a2 (l.length + 1) c2))
    replace HCF := Lib.hid (HCF.out.other (a := ⟨M, o, none⟩) (by have := HMB.out; have := HBB.out; have := HG0.out; have := HG1.out; show M ≠ g1 + 1; omega) (.slice a2 (l.length + 1) c2))
    replace HCM := Lib.hid (HCM.out.set HO.out (.slice a2 (l.length + 1) c2))
    replace HAS6 := Lib.hid (HAS6.out.trans (Aside.setCell w6 (p := ⟨M, o, none⟩) (.slice a2 (l.length + 1) c2) (.inl rfl)))
    replace HO6 := Lib.hid (row_aside (G := fun k => k = M) HO6.out (Aside.setCell w6 (p := ⟨M, o, none⟩) (.slice a2 (l.length + 1) c2) rfl) (fun k hk hg => by have := (World.ownsRow.lt HO6.out k hk).1; have := HMB.out; omega))
    refine hK.out _ _ ⟨HCB.out.c 0 (by simp), HCQ.out.c 0 (by simp), HCQ.out.c 1 (by simp), HCQ.out.c 2 (by simp)⟩ (fun hHeld => ?_)
    clear hK K
    try simp only [Act.put, List.setIfInBounds_toArray, List.set_cons_zero, List.set_cons_succ]
    refine wpAnyH_done (by kernel_rfl) ?_ _
    clear hHeld
    obtain ⟨X, hX⟩ : ∃ X, w6.setCell ⟨M, o, none⟩ (.slice a2 (l.length + 1) c2) = X := ⟨_, rfl⟩
    rw [hX] at HCB HC7 HCQ HCF HCM HAS6 HO6 ⊢
    clear hX HONE HRUN d1 f1
    have y0 := HCF.out.c 0 (by simp)
    have y1 := HCF.out.c 1 (by simp)
    have z0 := HC7.out.c 0 (by simp)
    have z1 := HC7.out.c 1 (by simp)
    simp only [List.getElem_cons_zero, List.getElem_cons_succ] at y0 y1 z0 z1
    have f7 := HC7.out.fz
    go_wp2_with fail
    go_region
    go_wp2_with fail
    have r7 := (HC7.out.set (o := 0) (by simp) (.int .i64 F)).set (o := 1) (by simp) (.int .i64 A)
    simp only [List.set_cons_zero, List.set_cons_succ] at r7
    have m0 := r7.c 0 (by simp)
    have m1 := r7.c 1 (by simp)
    simp only [List.getElem_cons_zero, List.getElem_cons_succ] at m0 m1
    clear y0 y1 z0 z1 f7 r7
    have hk6 := HK6.out
    have hlt0 := World.ownsRow.lt HOW0.out
    have hnb : ∀ k, (Value.slice a2 (l.length + 1) c2).ownBlock = some k → ¬ k = g0 + 1 := fun k hk hg => by
      have h0 := HG0.out
      have h5 := HS5.out
      rcases hk6 with h | h
      · have := hlt0 k (by rw [← h]; exact hk); omega
      · rw [h] at hk; injection hk with hk; simp only [World.size_alloc] at hk; have := HG1.out; omega
    have hne : (⟨M, 0, none⟩ : Addr).block ≠ g0 + 1 := by have := HMB.out; have := HBB.out; have := HG0.out; show M ≠ g0 + 1; omega
    have hst : Aside (fun k => k = g0 + 1) X ((X.setCell ⟨g0 + 1, 0, none⟩ (.int .i64 F)).setCell ⟨g0 + 1, 1, none⟩ (.int .i64 A)).drew := by
      have h1 : Aside (fun k => k = g0 + 1) X (X.setCell ⟨g0 + 1, 0, none⟩ (.int .i64 F)) := Aside.setCell X (p := ⟨g0 + 1, 0, none⟩) _ rfl
      have h2 : Aside (fun k => k = g0 + 1) (X.setCell ⟨g0 + 1, 0, none⟩ (.int .i64 F)) ((X.setCell ⟨g0 + 1, 0, none⟩ (.int .i64 F)).setCell ⟨g0 + 1, 1, none⟩ (.int .i64 A)) := Aside.setCell _ (p := ⟨g0 + 1, 1, none⟩) _ rfl
      have h3 := h1.trans h2
      exact ⟨h3.os, h3.tape, h3.output, h3.size, h3.block⟩
    refine bodyPost_ret (by simp [results, Tryz.results75, go_sem, m0, m1]) rfl ⟨.slice a2 (l.length + 1) c2, rfl, ?_, ?_, ?_, ?_⟩
    · have := (HCM.out.other (a := ⟨g0 + 1, 0, none⟩) (fun h => hne h.symm) (.int .i64 F)).other (a := ⟨g0 + 1, 1, none⟩) (fun h => hne h.symm) (.int .i64 A)
      exact ⟨this.c, this.fz⟩
    · exact row_aside (G := fun k => k = g0 + 1) HO6.out hst hnb
    · exact HAS6.out.onto (M := fun k => k = g0 + 1) hst (fun k hk _ hg => by have := HG0.out; omega)
    · rcases hk6 with h | h
      · exact .inl h
      · refine .inr ⟨_, h, ?_⟩
        have h0 := HG0.out
        have h5 := HS5.out
        have := HG1.out
        simp only [World.size_alloc]
        omega

set_option maxHeartbeats 8000000 in
theorem readR_gen {w : World} {M o B : Nat} {xs : List Value} {v vb : Value} {l : List Rc} (a : Int) (x : Rc) (E F A : Int) (hm : Cel w M xs) (ho : o < xs.length) (hv : xs[o] = v) (how : OwnRc w B v l) (hMB : M < B) (hB : B ≤ w.heap.size) (hln : l.length + 1 ≤ 1000000)
    (hc : ∀ wx, Below w.heap.size w wx → Calls Tryz.prog 106 #[vb, .int .i64 a] wx (Tells wx (.tuple #[.agg #[.string (bs x.n), .int .i64 x.t, .int .i64 x.c, .int .i64 x.l, .string (bs x.d)], .int .i64 E, .agg #[.int .i64 F, .int .i64 A]]))) :
    Calls Tryz.prog 103 #[.agg #[.pointer (some ⟨M, o, none⟩)], vb, .int .i64 a] w (RdPost w M o xs v (fun w' v' => OwnRc w' B v' (l ++ [x])) E F A) := by
  obtain ⟨g0, hg0⟩ : ∃ g, w.heap.size = g := ⟨_, rfl⟩
  obtain ⟨W1, hW1⟩ : ∃ W, w.alloc (.cells #[.pointer (some ⟨M, o, none⟩)] 95) = W := ⟨_, rfl⟩
  obtain ⟨W2, hW2⟩ : ∃ W, W1.alloc (.cells #[.int .i64 0, .int .i64 0] 47) = W := ⟨_, rfl⟩
  have s1 : W1.heap.size = g0 + 1 := by rw [← hW1, World.size_alloc, hg0]
  have s2 : W2.heap.size = g0 + 2 := by rw [← hW2, World.size_alloc, s1]
  have b2 : Below w.heap.size w W2 := by rw [← hW2, ← hW1]; exact ((Below.refl _ _).alloc (Nat.le_refl _) _).alloc (by simp) _
  have x1 : Cel W2 g0 [.pointer (some ⟨M, o, none⟩)] := by
    have := cel_new1 w (.pointer (some ⟨M, o, none⟩)) 95
    rw [hW1, hg0] at this
    exact this.below (by simp) (by rw [← hW2]; exact (Below.refl _ _).alloc (Nat.le_refl _) _)
  have x7 : Cel W2 (g0 + 1) [.int .i64 0, .int .i64 0] := by
    have := cel_new2 W1 (.int .i64 0) (.int .i64 0) 47
    rwa [hW2, s1] at this
  have HCB := Lib.hid x1
  have HC7 := Lib.hid x7
  have HXL := Lib.hid (show 0 < xs.length by omega)
  have HCM := Lib.hid (hm.below HXL.out b2)
  have HOW0 := Lib.hid how
  have HOW := Lib.hid (row_below how b2)
  have HAS := Lib.hid (Aside.of_all b2 : Aside (fun k => k = M ∨ v.ownBlock = some k) w W2)
  have HO := Lib.hid ho
  have HV := Lib.hid hv
  have HMB := Lib.hid hMB
  have HBB := Lib.hid hB
  have HLN := Lib.hid (show l.length + [x].length ≤ 1000000 from hln)
  have HG0 := Lib.hid hg0
  have HC := Lib.hid (hc W2 b2)
  clear hm how b2 x1 x7 hc hMB hB hv
  go_enter Tryz.func103, Tryz.ntmps103
  go_wp2_with fail
  refine HC.out.mono ?_; rintro e w3 ⟨rfl, hb⟩
  obtain ⟨g1, hg1⟩ : ∃ g, w3.heap.size = g := ⟨_, rfl⟩
  have HG1 := Lib.hid (show g0 + 2 ≤ g1 by have := hb.size; omega)
  obtain ⟨W4, hW4⟩ : ∃ W, w3.alloc (.cells #[.string (bs x.n), .int .i64 x.t, .int .i64 x.c, .int .i64 x.l, .string (bs x.d)] 52) = W := ⟨_, rfl⟩
  obtain ⟨W5, hW5⟩ : ∃ W, W4.alloc (.cells #[.int .i64 F, .int .i64 A] 47) = W := ⟨_, rfl⟩
  have s4 : W4.heap.size = g1 + 1 := by rw [← hW4, World.size_alloc, hg1]
  have b5 : Below W2.heap.size W2 W5 := by rw [← hW5, ← hW4]; exact (hb.alloc hb.size _).alloc (by simp; exact Nat.le_succ_of_le hb.size) _
  have xq : Cel W5 g1 [.string (bs x.n), .int .i64 x.t, .int .i64 x.c, .int .i64 x.l, .string (bs x.d)] := by
    have := cel_new w3 (.string (bs x.n)) (.int .i64 x.t) (.int .i64 x.c) (.int .i64 x.l) (.string (bs x.d)) 52
    rw [hW4, hg1] at this
    exact this.below (by simp) (by rw [← hW5]; exact (Below.refl _ _).alloc (Nat.le_refl _) _)
  have xf : Cel W5 (g1 + 1) [.int .i64 F, .int .i64 A] := by
    have := cel_new2 W4 (.int .i64 F) (.int .i64 A) 47
    rwa [hW5, s4] at this
  replace HCB := Lib.hid (HCB.out.below (by simp) b5)
  replace HC7 := Lib.hid (HC7.out.below (by simp) b5)
  replace HCM := Lib.hid (HCM.out.below HXL.out b5)
  replace HOW := Lib.hid (row_below HOW.out b5)
  replace HAS := Lib.hid (HAS.out.trans (Aside.of_all b5))
  have HCQ := Lib.hid xq
  have s5 : W5.heap.size = g1 + 2 := by rw [← hW5, World.size_alloc, s4]
  have HCF := Lib.hid xf
  obtain ⟨WX, hWX⟩ : ∃ X, W5.drew = X := ⟨_, rfl⟩
  have HS5 := Lib.hid (show g1 + 2 ≤ WX.heap.size by rw [← hWX]; exact Nat.le_of_eq s5.symm)
  have b6 : Below W5.heap.size W5 WX := by rw [← hWX]; exact (Below.refl _ _).drew
  replace HCB := Lib.hid (HCB.out.below (by simp) b6)
  replace HC7 := Lib.hid (HC7.out.below (by simp) b6)
  replace HCM := Lib.hid (HCM.out.below HXL.out b6)
  replace HOW := Lib.hid (row_below HOW.out b6)
  replace HAS := Lib.hid (HAS.out.trans (Aside.of_all b6))
  replace HCQ := Lib.hid (HCQ.out.below (by simp) b6)
  replace HCF := Lib.hid (HCF.out.below (by simp) b6)
  have d1 : WX.cell? ⟨M, o, none⟩ = some v := by have := HCM.out.c o HO.out; rw [HV.out] at this; exact this
  clear xq xf b5 b6 hb HC s5
  go_wp2_with fail
  refine wp_region_held_drew (S := (fun wx => wx.cell? ⟨g0, 0, none⟩ = some (.pointer (some ⟨M, o, none⟩)) ∧ wx.cell? ⟨g1, 0, none⟩ = some (.string (bs x.n)) ∧ wx.cell? ⟨g1, 1, none⟩ = some (.int .i64 x.t) ∧ wx.cell? ⟨g1, 2, none⟩ = some (.int .i64 x.c) ∧ wx.cell? ⟨g1, 3, none⟩ = some (.int .i64 x.l) ∧ wx.cell? ⟨g1, 4, none⟩ = some (.string (bs x.d)))) (by kernel_rfl) (by rw [hWX]; exact ⟨HCB.out.c 0 (by simp), HCQ.out.c 0 (by simp), HCQ.out.c 1 (by simp), HCQ.out.c 2 (by simp), HCQ.out.c 3 (by simp), HCQ.out.c 4 (by simp)⟩) (fun hHeld => ?_)
  refine wpAnyH_take (i := 0) (oi := { dst := some 18, op := Op.fieldAddr 95 (Operand.tmp 3) 0, type := 0, pos := "list.go:64", after := #[], guard := none }) (v := ?_) rfl (by kernel_rfl) (by kernel_rfl) (by kernel_rfl) (fun _ _ _ h => h) (Or.inl ⟨by rfl, ?_⟩) (by assumption) ?_
  rotate_left 1
  · intro w hSw; (try dsimp only at hSw); go_simp; try (with_reducible rfl)
  try simp only [Act.put, List.setIfInBounds_toArray, List.set_cons_zero, List.set_cons_succ]
  refine wpAnyH_take (i := 1) (oi := { dst := some 19, op := Op.load 93 (Operand.tmp 18), type := 93, pos := "list.go:64", after := #[{ on := 0, ground := Ground.data }], guard := none }) (v := ?_) rfl (by kernel_rfl) (by kernel_rfl) (by kernel_rfl) (fun _ _ _ h => h) (Or.inl ⟨by rfl, ?_⟩) (by assumption) ?_
  rotate_left 1
  · intro w hSw; (try dsimp only at hSw); go_simp; try (with_reducible rfl)
  try simp only [Act.put, List.setIfInBounds_toArray, List.set_cons_zero, List.set_cons_succ]
  refine wpAnyH_take (i := 2) (oi := { dst := some 20, op := Op.fieldAddr 95 (Operand.tmp 3) 0, type := 0, pos := "list.go:64", after := #[], guard := none }) (v := ?_) rfl (by kernel_rfl) (by kernel_rfl) (by kernel_rfl) (fun _ _ _ h => h) (Or.inl ⟨by rfl, ?_⟩) (by assumption) ?_
  rotate_left 1
  · intro w hSw; (try dsimp only at hSw); go_simp; try (with_reducible rfl)
  try simp only [Act.put, List.setIfInBounds_toArray, List.set_cons_zero, List.set_cons_succ]
  refine wpAnyH_take (i := 3) (oi := { dst := some 21, op := Op.load 93 (Operand.tmp 20), type := 93, pos := "list.go:64", after := #[{ on := 2, ground := Ground.data }], guard := none }) (v := ?_) rfl (by kernel_rfl) (by kernel_rfl) (by kernel_rfl) (fun _ _ _ h => h) (Or.inl ⟨by rfl, ?_⟩) (by assumption) ?_
  rotate_left 1
  · intro w hSw; (try dsimp only at hSw); go_simp; try (with_reducible rfl)
  try simp only [Act.put, List.setIfInBounds_toArray, List.set_cons_zero, List.set_cons_succ]
  refine wpAnyH_take (i := 4) (oi := { dst := some 22, op := Op.nilCheck (Operand.tmp 21), type := 0, pos := "list.go:64", after := #[{ on := 3, ground := Ground.data }], guard := none }) (v := ?_) rfl (by kernel_rfl) (by kernel_rfl) (by kernel_rfl) (fun _ _ _ h => h) (Or.inl ⟨by rfl, ?_⟩) (by assumption) ?_
  rotate_left 1
  · intro w hSw; (try dsimp only at hSw); go_simp; try (with_reducible rfl)
  try simp only [Act.put, List.setIfInBounds_toArray, List.set_cons_zero, List.set_cons_succ]
  refine wpAnyH_take (i := 6) (oi := { dst := some 24, op := Op.load 52 (Operand.tmp 8), type := 52, pos := "list.go:64", after := #[], guard := none }) (v := ?_) rfl (by kernel_rfl) (by kernel_rfl) (by kernel_rfl) (fun _ _ _ h => h) (Or.inl ⟨by rfl, ?_⟩) (by assumption) ?_
  rotate_left 1
  · intro w hSw; (try dsimp only at hSw); go_simp; try (with_reducible rfl)
  try simp only [Act.put, List.setIfInBounds_toArray, List.set_cons_zero, List.set_cons_succ]
  refine wpAnyH_ready (rs := [5, 7]) (by kernel_rfl) (by simp) ?_
  refine AllReadyH.cons (o := { dst := some 23, op := Op.load 23 (Operand.tmp 22), type := 23, pos := "list.go:64", after := #[{ on := 4, ground := Ground.data }], guard := none }) rfl (fun K hK => ?_) (AllReadyH.cons (o := { dst := some 25, op := Op.buildSlice 23 1 #[(0, Operand.tmp 24)], type := 23, pos := "list.go:64", after := #[{ on := 6, ground := Ground.data }], guard := none }) rfl (fun K hK => ?_) (AllReadyH.nil))
  · go_simp
    refine hK.out _ _ ⟨HCB.out.c 0 (by simp), HCQ.out.c 0 (by simp), HCQ.out.c 1 (by simp), HCQ.out.c 2 (by simp), HCQ.out.c 3 (by simp), HCQ.out.c 4 (by simp)⟩ (fun hHeld => ?_)
    clear hK K
    try simp only [Act.put, List.setIfInBounds_toArray, List.set_cons_zero, List.set_cons_succ]
    refine wpAnyH_ready (rs := [7]) (by kernel_rfl) (by simp) ?_
    refine AllReadyH.cons (o := { dst := some 25, op := Op.buildSlice 23 1 #[(0, Operand.tmp 24)], type := 23, pos := "list.go:64", after := #[{ on := 6, ground := Ground.data }], guard := none }) rfl (fun K hK => ?_) (AllReadyH.nil)
    go_simp
    have hb : Below WX.heap.size WX (WX.alloc (.cells #[.string (bs x.n), .int .i64 x.t, .int .i64 x.c, .int .i64 x.l, .string (bs x.d)] 52)) := (Below.refl _ _).alloc (Nat.le_refl _) _
    have HONE := Lib.hid (sr_one WX x)
    replace HCB := Lib.hid (HCB.out.below (by simp) hb)
    replace HC7 := Lib.hid (HC7.out.below (by simp) hb)
    replace HCQ := Lib.hid (HCQ.out.below (by simp) hb)
    replace HCF := Lib.hid (HCF.out.below (by simp) hb)
    replace HCM := Lib.hid (HCM.out.below HXL.out hb)
    replace HOW := Lib.hid (row_below HOW.out hb)
    replace HAS := Lib.hid (HAS.out.trans (Aside.of_all hb))
    clear hb d1
    have d1 : (WX.alloc (.cells #[.string (bs x.n), .int .i64 x.t, .int .i64 x.c, .int .i64 x.l, .string (bs x.d)] 52)).cell? ⟨M, o, none⟩ = some v := by have := HCM.out.c o HO.out; rw [HV.out] at this; exact this
    refine hK.out _ _ ⟨HCB.out.c 0 (by simp), HCQ.out.c 0 (by simp), HCQ.out.c 1 (by simp), HCQ.out.c 2 (by simp), HCQ.out.c 3 (by simp), HCQ.out.c 4 (by simp)⟩ (fun hHeld => ?_)
    clear hK K
    try simp only [Act.put, List.setIfInBounds_toArray, List.set_cons_zero, List.set_cons_succ]
    refine wpAnyH_ready (rs := [8]) (by kernel_rfl) (by simp) ?_
    refine AllReadyH.cons (o := { dst := some 26, op := Op.call { callee := Callee.builtin Builtin.append, args := #[Operand.tmp 23, Operand.tmp 25], argTypes := #[23, 23] }, type := 23, pos := "list.go:64", after := #[{ on := 5, ground := Ground.data }, { on := 7, ground := Ground.data }], guard := none }) rfl (fun K hK => ?_) (AllReadyH.nil)
    obtain ⟨a2, c2, w6, hrun, ho6, ha6, hk6⟩ := run_appRc HOW.out HONE.out HLN.out (Nat.le_trans HBB.out HAS.out.size)
    simp only [List.length_singleton] at hrun ho6 hk6
    have HRUN := Lib.hid hrun
    have hlt := World.ownsRow.lt HOW0.out
    have hG : ∀ k, k < B ∨ g0 ≤ k → ¬ v.ownBlock = some k := fun k hk hg => by have := hlt k hg; have := HG0.out; omega
    replace HCB := Lib.hid (HCB.out.aside (by simp) ha6 (hG _ (by omega)))
    replace HC7 := Lib.hid (HC7.out.aside (by simp) ha6 (hG _ (by omega)))
    replace HCQ := Lib.hid (HCQ.out.aside (by simp) ha6 (hG _ (by have := HG1.out; omega)))
    replace HCF := Lib.hid (HCF.out.aside (by simp) ha6 (hG _ (by have := HG1.out; omega)))
    replace HCM := Lib.hid (HCM.out.aside HXL.out ha6 (hG _ (.inl HMB.out)))
    have HAS6 := Lib.hid (HAS.out.trans (ha6.mono fun k _ hk => .inr hk))
    have HO6 := Lib.hid ho6
    have HK6 := Lib.hid hk6
    clear d1
    have d1 : w6.cell? ⟨M, o, none⟩ = some v := by have := HCM.out.c o HO.out; rw [HV.out] at this; exact this
    have f1 := HCM.out.fz
    clear hrun ho6 ha6 hk6 hlt hG
    refine oper_app_run (.tmp 23) (.tmp 25) 23 23 rfl rfl rfl rfl HRUN.out ?_
    refine hK.out _ _ ⟨HCB.out.c 0 (by simp), HCQ.out.c 0 (by simp), HCQ.out.c 1 (by simp), HCQ.out.c 2 (by simp), HCQ.out.c 3 (by simp), HCQ.out.c 4 (by simp)⟩ (fun hHeld => ?_)
    clear hK K
    try simp only [Act.put, List.setIfInBounds_toArray, List.set_cons_zero, List.set_cons_succ]
    refine wpAnyH_take (i := 9) (oi := { dst := some 27, op := Op.nilCheck (Operand.tmp 19), type := 0, pos := "list.go:64", after := #[{ on := 1, ground := Ground.data }, { on := 0, ground := Ground.phase }, { on := 1, ground := Ground.phase }, { on := 2, ground := Ground.phase }, { on := 3, ground := Ground.phase }, { on := 4, ground := Ground.phase }, { on := 5, ground := Ground.phase }, { on := 6, ground := Ground.phase }, { on := 7, ground := Ground.phase }, { on := 8, ground := Ground.phase }], guard := none }) (v := ?_) rfl (by kernel_rfl) (by kernel_rfl) (by kernel_rfl) (fun _ _ _ h => h) (Or.inl ⟨by rfl, ?_⟩) (by assumption) ?_
    rotate_left 1
    · intro w hSw; (try dsimp only at hSw); go_simp; try (with_reducible rfl)
    try simp only [Act.put, List.setIfInBounds_toArray, List.set_cons_zero, List.set_cons_succ]
    refine wpAnyH_ready (rs := [10]) (by kernel_rfl) (by simp) ?_
    refine AllReadyH.cons (o := { dst := none, op := Op.store 23 (Operand.tmp 27) (Operand.tmp 26), type := 0, pos := "list.go:64", after := #[{ on := 9, ground := Ground.data }, { on := 8, ground := Ground.data }, { on := 8, ground := Ground.chain }, { on := 0, ground := Ground.phase }, { on := 1, ground := Ground.phase }, { on := 2, ground := Ground.phase }, { on := 3, ground := Ground.phase }, { on := 4, ground := Ground.phase }, { on := 5, ground := Ground.phase }, { on := 6, ground := Ground.phase }, { on := 7, ground := Ground.phase }, { on := 8, ground := Ground.phase }], guard := none }) rfl (fun K hK => ?_) (AllReadyH.nil)
    go_simp
    replace HCB := Lib.hid (HCB.out.other (a := ⟨M, o, none⟩) (by have := HMB.out; have := HBB.out; have := HG0.out; show M ≠ g0; omega) (.slice a2 (l.length + 1) c2))
    replace HC7 := Lib.hid (HC7.out.other (a := ⟨M, o, none⟩) (by have := HMB.out; have := HBB.out; have := HG0.out; show M ≠ g0 + 1; omega) (.slice a2 (l.length + 1) c2))
    replace HCQ := Lib.hid (HCQ.out.other (a := ⟨M, o, none⟩) (by have := HMB.out; have := HBB.out; have := HG0.out; have := HG1.out; show M ≠ g1; omega) (.slice a2 (l.length + 1) c2))
    replace HCF := Lib.hid (HCF.out.other (a := ⟨M, o, none⟩) (by have := HMB.out; have := HBB.out; have := HG0.out; have := HG1.out; show M ≠ g1 + 1; omega) (.slice a2 (l.length + 1) c2))
    replace HCM := Lib.hid (HCM.out.set HO.out (.slice a2 (l.length + 1) c2))
    replace HAS6 := Lib.hid (HAS6.out.trans (Aside.setCell w6 (p := ⟨M, o, none⟩) (.slice a2 (l.length + 1) c2) (.inl rfl)))
    replace HO6 := Lib.hid (row_aside (G := fun k => k = M) HO6.out (Aside.setCell w6 (p := ⟨M, o, none⟩) (.slice a2 (l.length + 1) c2) rfl) (fun k hk hg => by have := (World.ownsRow.lt HO6.out k hk).1; have := HMB.out; omega))
    refine hK.out _ _ ⟨HCB.out.c 0 (by simp), HCQ.out.c 0 (by simp), HCQ.out.c 1 (by simp), HCQ.out.c 2 (by simp), HCQ.out.c 3 (by simp), HCQ.out.c 4 (by simp)⟩ (fun hHeld => ?_)
    clear hK K
    try simp only [Act.put, List.setIfInBounds_toArray, List.set_cons_zero, List.set_cons_succ]
    refine wpAnyH_done (by kernel_rfl) ?_ _
    clear hHeld
    obtain ⟨X, hX⟩ : ∃ X, w6.setCell ⟨M, o, none⟩ (.slice a2 (l.length + 1) c2) = X := ⟨_, rfl⟩
    rw [hX] at HCB HC7 HCQ HCF HCM HAS6 HO6 ⊢
    clear hX HONE HRUN d1 f1
    have y0 := HCF.out.c 0 (by simp)
    have y1 := HCF.out.c 1 (by simp)
    have z0 := HC7.out.c 0 (by simp)
    have z1 := HC7.out.c 1 (by simp)
    simp only [List.getElem_cons_zero, List.getElem_cons_succ] at y0 y1 z0 z1
    have f7 := HC7.out.fz
    go_wp2_with fail
    go_region
    go_wp2_with fail
    have r7 := (HC7.out.set (o := 0) (by simp) (.int .i64 F)).set (o := 1) (by simp) (.int .i64 A)
    simp only [List.set_cons_zero, List.set_cons_succ] at r7
    have m0 := r7.c 0 (by simp)
    have m1 := r7.c 1 (by simp)
    simp only [List.getElem_cons_zero, List.getElem_cons_succ] at m0 m1
    clear y0 y1 z0 z1 f7 r7
    have hk6 := HK6.out
    have hlt0 := World.ownsRow.lt HOW0.out
    have hnb : ∀ k, (Value.slice a2 (l.length + 1) c2).ownBlock = some k → ¬ k = g0 + 1 := fun k hk hg => by
      have h0 := HG0.out
      have h5 := HS5.out
      rcases hk6 with h | h
      · have := hlt0 k (by rw [← h]; exact hk); omega
      · rw [h] at hk; injection hk with hk; simp only [World.size_alloc] at hk; have := HG1.out; omega
    have hne : (⟨M, 0, none⟩ : Addr).block ≠ g0 + 1 := by have := HMB.out; have := HBB.out; have := HG0.out; show M ≠ g0 + 1; omega
    have hst : Aside (fun k => k = g0 + 1) X ((X.setCell ⟨g0 + 1, 0, none⟩ (.int .i64 F)).setCell ⟨g0 + 1, 1, none⟩ (.int .i64 A)).drew := by
      have h1 : Aside (fun k => k = g0 + 1) X (X.setCell ⟨g0 + 1, 0, none⟩ (.int .i64 F)) := Aside.setCell X (p := ⟨g0 + 1, 0, none⟩) _ rfl
      have h2 : Aside (fun k => k = g0 + 1) (X.setCell ⟨g0 + 1, 0, none⟩ (.int .i64 F)) ((X.setCell ⟨g0 + 1, 0, none⟩ (.int .i64 F)).setCell ⟨g0 + 1, 1, none⟩ (.int .i64 A)) := Aside.setCell _ (p := ⟨g0 + 1, 1, none⟩) _ rfl
      have h3 := h1.trans h2
      exact ⟨h3.os, h3.tape, h3.output, h3.size, h3.block⟩
    refine bodyPost_ret (by simp [results, Tryz.results103, go_sem, m0, m1]) rfl ⟨.slice a2 (l.length + 1) c2, rfl, ?_, ?_, ?_, ?_⟩
    · have := (HCM.out.other (a := ⟨g0 + 1, 0, none⟩) (fun h => hne h.symm) (.int .i64 F)).other (a := ⟨g0 + 1, 1, none⟩) (fun h => hne h.symm) (.int .i64 A)
      exact ⟨this.c, this.fz⟩
    · exact row_aside (G := fun k => k = g0 + 1) HO6.out hst hnb
    · exact HAS6.out.onto (M := fun k => k = g0 + 1) hst (fun k hk _ hg => by have := HG0.out; omega)
    · rcases hk6 with h | h
      · exact .inl h
      · refine .inr ⟨_, h, ?_⟩
        have h0 := HG0.out
        have h5 := HS5.out
        have := HG1.out
        simp only [World.size_alloc]
        omega
  · go_simp
    have hb : Below WX.heap.size WX (WX.alloc (.cells #[.string (bs x.n), .int .i64 x.t, .int .i64 x.c, .int .i64 x.l, .string (bs x.d)] 52)) := (Below.refl _ _).alloc (Nat.le_refl _) _
    have HONE := Lib.hid (sr_one WX x)
    replace HCB := Lib.hid (HCB.out.below (by simp) hb)
    replace HC7 := Lib.hid (HC7.out.below (by simp) hb)
    replace HCQ := Lib.hid (HCQ.out.below (by simp) hb)
    replace HCF := Lib.hid (HCF.out.below (by simp) hb)
    replace HCM := Lib.hid (HCM.out.below HXL.out hb)
    replace HOW := Lib.hid (row_below HOW.out hb)
    replace HAS := Lib.hid (HAS.out.trans (Aside.of_all hb))
    clear hb d1
    have d1 : (WX.alloc (.cells #[.string (bs x.n), .int .i64 x.t, .int .i64 x.c, .int .i64 x.l, .string (bs x.d)] 52)).cell? ⟨M, o, none⟩ = some v := by have := HCM.out.c o HO.out; rw [HV.out] at this; exact this
    refine hK.out _ _ ⟨HCB.out.c 0 (by simp), HCQ.out.c 0 (by simp), HCQ.out.c 1 (by simp), HCQ.out.c 2 (by simp), HCQ.out.c 3 (by simp), HCQ.out.c 4 (by simp)⟩ (fun hHeld => ?_)
    clear hK K
    try simp only [Act.put, List.setIfInBounds_toArray, List.set_cons_zero, List.set_cons_succ]
    refine wpAnyH_ready (rs := [5]) (by kernel_rfl) (by simp) ?_
    refine AllReadyH.cons (o := { dst := some 23, op := Op.load 23 (Operand.tmp 22), type := 23, pos := "list.go:64", after := #[{ on := 4, ground := Ground.data }], guard := none }) rfl (fun K hK => ?_) (AllReadyH.nil)
    go_simp
    refine hK.out _ _ ⟨HCB.out.c 0 (by simp), HCQ.out.c 0 (by simp), HCQ.out.c 1 (by simp), HCQ.out.c 2 (by simp), HCQ.out.c 3 (by simp), HCQ.out.c 4 (by simp)⟩ (fun hHeld => ?_)
    clear hK K
    try simp only [Act.put, List.setIfInBounds_toArray, List.set_cons_zero, List.set_cons_succ]
    refine wpAnyH_ready (rs := [8]) (by kernel_rfl) (by simp) ?_
    refine AllReadyH.cons (o := { dst := some 26, op := Op.call { callee := Callee.builtin Builtin.append, args := #[Operand.tmp 23, Operand.tmp 25], argTypes := #[23, 23] }, type := 23, pos := "list.go:64", after := #[{ on := 5, ground := Ground.data }, { on := 7, ground := Ground.data }], guard := none }) rfl (fun K hK => ?_) (AllReadyH.nil)
    obtain ⟨a2, c2, w6, hrun, ho6, ha6, hk6⟩ := run_appRc HOW.out HONE.out HLN.out (Nat.le_trans HBB.out HAS.out.size)
    simp only [List.length_singleton] at hrun ho6 hk6
    have HRUN := Lib.hid hrun
    have hlt := World.ownsRow.lt HOW0.out
    have hG : ∀ k, k < B ∨ g0 ≤ k → ¬ v.ownBlock = some k := fun k hk hg => by have := hlt k hg; have := HG0.out; omega
    replace HCB := Lib.hid (HCB.out.aside (by simp) ha6 (hG _ (by omega)))
    replace HC7 := Lib.hid (HC7.out.aside (by simp) ha6 (hG _ (by omega)))
    replace HCQ := Lib.hid (HCQ.out.aside (by simp) ha6 (hG _ (by have := HG1.out; omega)))
    replace HCF := Lib.hid (HCF.out.aside (by simp) ha6 (hG _ (by have := HG1.out; omega)))
    replace HCM := Lib.hid (HCM.out.aside HXL.out ha6 (hG _ (.inl HMB.out)))
    have HAS6 := Lib.hid (HAS.out.trans (ha6.mono fun k _ hk => .inr hk))
    have HO6 := Lib.hid ho6
    have HK6 := Lib.hid hk6
    clear d1
    have d1 : w6.cell? ⟨M, o, none⟩ = some v := by have := HCM.out.c o HO.out; rw [HV.out] at this; exact this
    have f1 := HCM.out.fz
    clear hrun ho6 ha6 hk6 hlt hG
    refine oper_app_run (.tmp 23) (.tmp 25) 23 23 rfl rfl rfl rfl HRUN.out ?_
    refine hK.out _ _ ⟨HCB.out.c 0 (by simp), HCQ.out.c 0 (by simp), HCQ.out.c 1 (by simp), HCQ.out.c 2 (by simp), HCQ.out.c 3 (by simp), HCQ.out.c 4 (by simp)⟩ (fun hHeld => ?_)
    clear hK K
    try simp only [Act.put, List.setIfInBounds_toArray, List.set_cons_zero, List.set_cons_succ]
    refine wpAnyH_take (i := 9) (oi := { dst := some 27, op := Op.nilCheck (Operand.tmp 19), type := 0, pos := "list.go:64", after := #[{ on := 1, ground := Ground.data }, { on := 0, ground := Ground.phase }, { on := 1, ground := Ground.phase }, { on := 2, ground := Ground.phase }, { on := 3, ground := Ground.phase }, { on := 4, ground := Ground.phase }, { on := 5, ground := Ground.phase }, { on := 6, ground := Ground.phase }, { on := 7, ground := Ground.phase }, { on := 8, ground := Ground.phase }], guard := none }) (v := ?_) rfl (by kernel_rfl) (by kernel_rfl) (by kernel_rfl) (fun _ _ _ h => h) (Or.inl ⟨by rfl, ?_⟩) (by assumption) ?_
    rotate_left 1
    · intro w hSw; (try dsimp only at hSw); go_simp; try (with_reducible rfl)
    try simp only [Act.put, List.setIfInBounds_toArray, List.set_cons_zero, List.set_cons_succ]
    refine wpAnyH_ready (rs := [10]) (by kernel_rfl) (by simp) ?_
    refine AllReadyH.cons (o := { dst := none, op := Op.store 23 (Operand.tmp 27) (Operand.tmp 26), type := 0, pos := "list.go:64", after := #[{ on := 9, ground := Ground.data }, { on := 8, ground := Ground.data }, { on := 8, ground := Ground.chain }, { on := 0, ground := Ground.phase }, { on := 1, ground := Ground.phase }, { on := 2, ground := Ground.phase }, { on := 3, ground := Ground.phase }, { on := 4, ground := Ground.phase }, { on := 5, ground := Ground.phase }, { on := 6, ground := Ground.phase }, { on := 7, ground := Ground.phase }, { on := 8, ground := Ground.phase }], guard := none }) rfl (fun K hK => ?_) (AllReadyH.nil)
    go_simp
    replace HCB := Lib.hid (HCB.out.other (a := ⟨M, o, none⟩) (by have := HMB.out; have := HBB.out; have := HG0.out; show M ≠ g0; omega) (.slice a2 (l.length + 1) c2))
    replace HC7 := Lib.hid (HC7.out.other (a := ⟨M, o, none⟩) (by have := HMB.out; have := HBB.out; have := HG0.out; show M ≠ g0 + 1; omega) (.slice a2 (l.length + 1) c2))
    replace HCQ := Lib.hid (HCQ.out.other (a := ⟨M, o, none⟩) (by have := HMB.out; have := HBB.out; have := HG0.out; have := HG1.out; show M ≠ g1; omega) (.slice a2 (l.length + 1) c2))
    replace HCF := Lib.hid (HCF.out.other (a := ⟨M, o, none⟩) (by have := HMB.out; have := HBB.out; have := HG0.out; have := HG1.out; show M ≠ g1 + 1; omega) (.slice a2 (l.length + 1) c2))
    replace HCM := Lib.hid (HCM.out.set HO.out (.slice a2 (l.length + 1) c2))
    replace HAS6 := Lib.hid (HAS6.out.trans (Aside.setCell w6 (p := ⟨M, o, none⟩) (.slice a2 (l.length + 1) c2) (.inl rfl)))
    replace HO6 := Lib.hid (row_aside (G := fun k => k = M) HO6.out (Aside.setCell w6 (p := ⟨M, o, none⟩) (.slice a2 (l.length + 1) c2) rfl) (fun k hk hg => by have := (World.ownsRow.lt HO6.out k hk).1; have := HMB.out; omega))
    refine hK.out _ _ ⟨HCB.out.c 0 (by simp), HCQ.out.c 0 (by simp), HCQ.out.c 1 (by simp), HCQ.out.c 2 (by simp), HCQ.out.c 3 (by simp), HCQ.out.c 4 (by simp)⟩ (fun hHeld => ?_)
    clear hK K
    try simp only [Act.put, List.setIfInBounds_toArray, List.set_cons_zero, List.set_cons_succ]
    refine wpAnyH_done (by kernel_rfl) ?_ _
    clear hHeld
    obtain ⟨X, hX⟩ : ∃ X, w6.setCell ⟨M, o, none⟩ (.slice a2 (l.length + 1) c2) = X := ⟨_, rfl⟩
    rw [hX] at HCB HC7 HCQ HCF HCM HAS6 HO6 ⊢
    clear hX HONE HRUN d1 f1
    have y0 := HCF.out.c 0 (by simp)
    have y1 := HCF.out.c 1 (by simp)
    have z0 := HC7.out.c 0 (by simp)
    have z1 := HC7.out.c 1 (by simp)
    simp only [List.getElem_cons_zero, List.getElem_cons_succ] at y0 y1 z0 z1
    have f7 := HC7.out.fz
    go_wp2_with fail
    go_region
    go_wp2_with fail
    have r7 := (HC7.out.set (o := 0) (by simp) (.int .i64 F)).set (o := 1) (by simp) (.int .i64 A)
    simp only [List.set_cons_zero, List.set_cons_succ] at r7
    have m0 := r7.c 0 (by simp)
    have m1 := r7.c 1 (by simp)
    simp only [List.getElem_cons_zero, List.getElem_cons_succ] at m0 m1
    clear y0 y1 z0 z1 f7 r7
    have hk6 := HK6.out
    have hlt0 := World.ownsRow.lt HOW0.out
    have hnb : ∀ k, (Value.slice a2 (l.length + 1) c2).ownBlock = some k → ¬ k = g0 + 1 := fun k hk hg => by
      have h0 := HG0.out
      have h5 := HS5.out
      rcases hk6 with h | h
      · have := hlt0 k (by rw [← h]; exact hk); omega
      · rw [h] at hk; injection hk with hk; simp only [World.size_alloc] at hk; have := HG1.out; omega
    have hne : (⟨M, 0, none⟩ : Addr).block ≠ g0 + 1 := by have := HMB.out; have := HBB.out; have := HG0.out; show M ≠ g0 + 1; omega
    have hst : Aside (fun k => k = g0 + 1) X ((X.setCell ⟨g0 + 1, 0, none⟩ (.int .i64 F)).setCell ⟨g0 + 1, 1, none⟩ (.int .i64 A)).drew := by
      have h1 : Aside (fun k => k = g0 + 1) X (X.setCell ⟨g0 + 1, 0, none⟩ (.int .i64 F)) := Aside.setCell X (p := ⟨g0 + 1, 0, none⟩) _ rfl
      have h2 : Aside (fun k => k = g0 + 1) (X.setCell ⟨g0 + 1, 0, none⟩ (.int .i64 F)) ((X.setCell ⟨g0 + 1, 0, none⟩ (.int .i64 F)).setCell ⟨g0 + 1, 1, none⟩ (.int .i64 A)) := Aside.setCell _ (p := ⟨g0 + 1, 1, none⟩) _ rfl
      have h3 := h1.trans h2
      exact ⟨h3.os, h3.tape, h3.output, h3.size, h3.block⟩
    refine bodyPost_ret (by simp [results, Tryz.results103, go_sem, m0, m1]) rfl ⟨.slice a2 (l.length + 1) c2, rfl, ?_, ?_, ?_, ?_⟩
    · have := (HCM.out.other (a := ⟨g0 + 1, 0, none⟩) (fun h => hne h.symm) (.int .i64 F)).other (a := ⟨g0 + 1, 1, none⟩) (fun h => hne h.symm) (.int .i64 A)
      exact ⟨this.c, this.fz⟩
    · exact row_aside (G := fun k => k = g0 + 1) HO6.out hst hnb
    · exact HAS6.out.onto (M := fun k => k = g0 + 1) hst (fun k hk _ hg => by have := HG0.out; omega)
    · rcases hk6 with h | h
      · exact .inl h
      · refine .inr ⟨_, h, ?_⟩
        have h0 := HG0.out
        have h5 := HS5.out
        have := HG1.out
        simp only [World.size_alloc]
        omega
end Go.Proofs.YtpdaekgldgoalaaGreat

/-
  What Read stands on: what is read so far, the deferred function.
-/
namespace Go.Proofs.YtpdaekgldgoalaaGreat
open Go.RowKit Go.Shelf
set_option linter.unusedVariables false
set_option linter.unusedSimpArgs false
set_option maxRecDepth 100000

def RD.app {α : Type} (l : List α) : RD α → RD α
  | .ok l' q => .ok (l ++ l') q
  | .bad e a => .bad e a
theorem RD.app_cons {α : Type} (l : List α) (x : α) (r : RD α) : RD.app l (r.cons x) = RD.app (l ++ [x]) r := by
  cases r <;> simp [RD.app, RD.cons]
theorem RD.app_nil {α : Type} (r : RD α) : RD.app [] r = r := by cases r <;> simp [RD.app]
theorem rdQs_step (b : List UInt8) (l : List Qn) (g p : Nat) : RD.app l (rdQs b (g + 1) p) = if (s3 b p).e ≠ 0 then .bad (s3 b p).e (s3 b p).p else RD.app (l ++ [quesR b p]) (rdQs b g (s3 b p).a.toNat) := by
  rw [rdQs]
  split
  · rfl
  · rw [RD.app_cons]
theorem rdRs_step (b : List UInt8) (l : List Rc) (g p : Nat) : RD.app l (rdRs b (g + 1) p) = if (s6 b p).e ≠ 0 then .bad (s6 b p).e (s6 b p).p else RD.app (l ++ [recR b p]) (rdRs b g (s6 b p).a.toNat) := by
  rw [rdRs]
  split
  · rfl
  · rw [RD.app_cons]

/-- What is read so far. -/
structure R0 (w wr : World) (M H B0 : Nat) (i0 i1 : Int) (hs : List Value) (v2 v3 v4 v5 : Value) (lq : List Qn) (la ln lr : List Rc) : Prop where
  x : Cel wr M [.int .i64 i0, .int .i64 i1, v2, v3, v4, v5]
  f : Cel wr (M + 1) [.int .i64 0, .int .i64 0]
  h : Cel wr H hs
  hl : 0 < hs.length
  q : OwnQn wr B0 v2 lq
  a : OwnRc wr B0 v3 la
  n : OwnRc wr B0 v4 ln
  r : OwnRc wr B0 v5 lr
  n34 : ∀ k, v3.ownBlock = some k → v4.ownBlock = some k → False
  n35 : ∀ k, v3.ownBlock = some k → v5.ownBlock = some k → False
  n45 : ∀ k, v4.ownBlock = some k → v5.ownBlock = some k → False
  bel : Below M w wr
  size : B0 ≤ wr.heap.size
  hH : M + 2 ≤ H
  hB : H < B0

section
variable {w wr w' : World} {M H B0 : Nat} {i0 i1 : Int} {hs : List Value} {v2 v3 v4 v5 : Value} {lq : List Qn} {la ln lr : List Rc}
theorem R0.later (h : R0 w wr M H B0 i0 i1 hs v2 v3 v4 v5 lq la ln lr) (hb : Below wr.heap.size wr w') : R0 w w' M H B0 i0 i1 hs v2 v3 v4 v5 lq la ln lr :=
  ⟨h.x.below (by simp) hb, h.f.below (by simp) hb, h.h.below h.hl hb, h.hl, row_below h.q hb, row_below h.a hb, row_below h.n hb, row_below h.r hb, h.n34, h.n35, h.n45, below_aside h.bel (Aside.of_all hb : Aside (fun _ => False) wr w') (fun k hk => ⟨by have := h.size; have := h.hB; have := h.hH; omega, id⟩), Nat.le_trans h.size hb.size, h.hH, h.hB⟩

/-- Other numbers of no fault are stored. -/
theorem R0.fault (h : R0 w wr M H B0 i0 i1 hs v2 v3 v4 v5 lq la ln lr) : R0 w ((wr.setCell ⟨M + 1, 0, none⟩ (.int .i64 0)).setCell ⟨M + 1, 1, none⟩ (.int .i64 0)) M H B0 i0 i1 hs v2 v3 v4 v5 lq la ln lr := by
  have hH := h.hH
  have hB := h.hB
  have hst : Aside (fun k => k = M + 1) wr ((wr.setCell ⟨M + 1, 0, none⟩ (.int .i64 0)).setCell ⟨M + 1, 1, none⟩ (.int .i64 0)) := by
    have g1 : Aside (fun k => k = M + 1) wr (wr.setCell ⟨M + 1, 0, none⟩ (.int .i64 0)) := Aside.setCell wr (p := ⟨M + 1, 0, none⟩) _ rfl
    have g2 : Aside (fun k => k = M + 1) (wr.setCell ⟨M + 1, 0, none⟩ (.int .i64 0)) ((wr.setCell ⟨M + 1, 0, none⟩ (.int .i64 0)).setCell ⟨M + 1, 1, none⟩ (.int .i64 0)) := Aside.setCell _ (p := ⟨M + 1, 1, none⟩) _ rfl
    exact g1.trans g2
  have ho : ∀ {v : Value} {k e : Nat} {xs : List Value} {n : Nat}, wr.ownsRow B0 e k v n xs → ∀ j, v.ownBlock = some j → ¬ j = M + 1 := fun hr j hj hg => by have := (World.ownsRow.lt hr j hj).1; omega
  refine ⟨h.x.aside (by simp) hst (by omega), ?_, h.h.aside h.hl hst (by omega), h.hl, row_aside h.q hst (ho h.q), row_aside h.a hst (ho h.a), row_aside h.n hst (ho h.n), row_aside h.r hst (ho h.r), h.n34, h.n35, h.n45, below_aside h.bel hst (fun k hk => ⟨by have := h.size; omega, by omega⟩), Nat.le_trans h.size hst.size, hH, hB⟩
  have := (h.f.set (o := 0) (by simp) (.int .i64 0)).set (o := 1) (by simp) (.int .i64 0)
  simpa using this

theorem R0.read0 (h : R0 w wr M H B0 i0 i1 hs v2 v3 v4 v5 lq la ln lr) {v' : Value} {x : Qn} (hx : Cel w' M ([.int .i64 i0, .int .i64 i1, v2, v3, v4, v5].set 2 v')) (ho : OwnQn w' B0 v' (lq ++ [x])) (ha : Aside (fun k => k = M ∨ v2.ownBlock = some k) wr w') (hk : v'.ownBlock = v2.ownBlock ∨ ∃ k, v'.ownBlock = some k ∧ wr.heap.size ≤ k) :
    R0 w w' M H B0 i0 i1 hs v' v3 v4 v5 (lq ++ [x]) (la) (ln) (lr) := by
  have hH := h.hH
  have hB := h.hB
  have hlt := World.ownsRow.lt h.q
  have hG : ∀ k, k < B0 → k ≠ M → ¬ (k = M ∨ v2.ownBlock = some k) := fun k hk1 hk2 hg => by
    rcases hg with rfl | hg
    · exact hk2 rfl
    · have := (hlt k hg).1; omega
  have hM : ∀ {v : Value} {k e : Nat} {xs : List Value} {n : Nat}, wr.ownsRow B0 e k v n xs → ∀ j, v.ownBlock = some j → j ≠ M := fun hr j hj hg => by have := (World.ownsRow.lt hr j hj).1; omega
  have o1 : ∀ j, v3.ownBlock = some j → ¬ (j = M ∨ v2.ownBlock = some j) := fun j hj hg => by
    rcases hg with rfl | hg
    · exact hM h.a _ hj rfl
    · exact row_apart h.a h.q (by decide) j hj hg
  have o2 : ∀ j, v4.ownBlock = some j → ¬ (j = M ∨ v2.ownBlock = some j) := fun j hj hg => by
    rcases hg with rfl | hg
    · exact hM h.n _ hj rfl
    · exact row_apart h.n h.q (by decide) j hj hg
  have o3 : ∀ j, v5.ownBlock = some j → ¬ (j = M ∨ v2.ownBlock = some j) := fun j hj hg => by
    rcases hg with rfl | hg
    · exact hM h.r _ hj rfl
    · exact row_apart h.r h.q (by decide) j hj hg
  refine ⟨by simpa using hx, h.f.aside (by simp) ha (hG _ (by omega) (by omega)), h.h.aside h.hl ha (hG _ hB (by omega)), h.hl, ho, row_aside h.a ha o1, row_aside h.n ha o2, row_aside h.r ha o3, ?_, ?_, ?_, below_aside h.bel ha (fun k hk => ⟨by have := h.size; omega, hG k (by omega) (by omega)⟩), Nat.le_trans h.size ha.size, hH, hB⟩
  · exact h.n34
  · exact h.n35
  · exact h.n45

theorem R0.read1 (h : R0 w wr M H B0 i0 i1 hs v2 v3 v4 v5 lq la ln lr) {v' : Value} {x : Rc} (hx : Cel w' M ([.int .i64 i0, .int .i64 i1, v2, v3, v4, v5].set 3 v')) (ho : OwnRc w' B0 v' (la ++ [x])) (ha : Aside (fun k => k = M ∨ v3.ownBlock = some k) wr w') (hk : v'.ownBlock = v3.ownBlock ∨ ∃ k, v'.ownBlock = some k ∧ wr.heap.size ≤ k) :
    R0 w w' M H B0 i0 i1 hs v2 v' v4 v5 (lq) (la ++ [x]) (ln) (lr) := by
  have hH := h.hH
  have hB := h.hB
  have hlt := World.ownsRow.lt h.a
  have hG : ∀ k, k < B0 → k ≠ M → ¬ (k = M ∨ v3.ownBlock = some k) := fun k hk1 hk2 hg => by
    rcases hg with rfl | hg
    · exact hk2 rfl
    · have := (hlt k hg).1; omega
  have hM : ∀ {v : Value} {k e : Nat} {xs : List Value} {n : Nat}, wr.ownsRow B0 e k v n xs → ∀ j, v.ownBlock = some j → j ≠ M := fun hr j hj hg => by have := (World.ownsRow.lt hr j hj).1; omega
  have o0 : ∀ j, v2.ownBlock = some j → ¬ (j = M ∨ v3.ownBlock = some j) := fun j hj hg => by
    rcases hg with rfl | hg
    · exact hM h.q _ hj rfl
    · exact row_apart h.q h.a (by decide) j hj hg
  have o2 : ∀ j, v4.ownBlock = some j → ¬ (j = M ∨ v3.ownBlock = some j) := fun j hj hg => by
    rcases hg with rfl | hg
    · exact hM h.n _ hj rfl
    · exact h.n34 j hg hj
  have o3 : ∀ j, v5.ownBlock = some j → ¬ (j = M ∨ v3.ownBlock = some j) := fun j hj hg => by
    rcases hg with rfl | hg
    · exact hM h.r _ hj rfl
    · exact h.n35 j hg hj
  refine ⟨by simpa using hx, h.f.aside (by simp) ha (hG _ (by omega) (by omega)), h.h.aside h.hl ha (hG _ hB (by omega)), h.hl, row_aside h.q ha o0, ho, row_aside h.n ha o2, row_aside h.r ha o3, ?_, ?_, ?_, below_aside h.bel ha (fun k hk => ⟨by have := h.size; omega, hG k (by omega) (by omega)⟩), Nat.le_trans h.size ha.size, hH, hB⟩
  · exact fun k h1 h2 => by
      rcases hk with hk | ⟨m, hk, hm⟩
      · exact h.n34 k (hk.symm.trans h1) h2
      · rw [hk] at h1
        injection h1 with h1
        have := (World.ownsRow.lt h.n k h2).2
        omega
  · exact fun k h1 h2 => by
      rcases hk with hk | ⟨m, hk, hm⟩
      · exact h.n35 k (hk.symm.trans h1) h2
      · rw [hk] at h1
        injection h1 with h1
        have := (World.ownsRow.lt h.r k h2).2
        omega
  · exact h.n45

theorem R0.read2 (h : R0 w wr M H B0 i0 i1 hs v2 v3 v4 v5 lq la ln lr) {v' : Value} {x : Rc} (hx : Cel w' M ([.int .i64 i0, .int .i64 i1, v2, v3, v4, v5].set 4 v')) (ho : OwnRc w' B0 v' (ln ++ [x])) (ha : Aside (fun k => k = M ∨ v4.ownBlock = some k) wr w') (hk : v'.ownBlock = v4.ownBlock ∨ ∃ k, v'.ownBlock = some k ∧ wr.heap.size ≤ k) :
    R0 w w' M H B0 i0 i1 hs v2 v3 v' v5 (lq) (la) (ln ++ [x]) (lr) := by
  have hH := h.hH
  have hB := h.hB
  have hlt := World.ownsRow.lt h.n
  have hG : ∀ k, k < B0 → k ≠ M → ¬ (k = M ∨ v4.ownBlock = some k) := fun k hk1 hk2 hg => by
    rcases hg with rfl | hg
    · exact hk2 rfl
    · have := (hlt k hg).1; omega
  have hM : ∀ {v : Value} {k e : Nat} {xs : List Value} {n : Nat}, wr.ownsRow B0 e k v n xs → ∀ j, v.ownBlock = some j → j ≠ M := fun hr j hj hg => by have := (World.ownsRow.lt hr j hj).1; omega
  have o0 : ∀ j, v2.ownBlock = some j → ¬ (j = M ∨ v4.ownBlock = some j) := fun j hj hg => by
    rcases hg with rfl | hg
    · exact hM h.q _ hj rfl
    · exact row_apart h.q h.n (by decide) j hj hg
  have o1 : ∀ j, v3.ownBlock = some j → ¬ (j = M ∨ v4.ownBlock = some j) := fun j hj hg => by
    rcases hg with rfl | hg
    · exact hM h.a _ hj rfl
    · exact h.n34 j hj hg
  have o3 : ∀ j, v5.ownBlock = some j → ¬ (j = M ∨ v4.ownBlock = some j) := fun j hj hg => by
    rcases hg with rfl | hg
    · exact hM h.r _ hj rfl
    · exact h.n45 j hg hj
  refine ⟨by simpa using hx, h.f.aside (by simp) ha (hG _ (by omega) (by omega)), h.h.aside h.hl ha (hG _ hB (by omega)), h.hl, row_aside h.q ha o0, row_aside h.a ha o1, ho, row_aside h.r ha o3, ?_, ?_, ?_, below_aside h.bel ha (fun k hk => ⟨by have := h.size; omega, hG k (by omega) (by omega)⟩), Nat.le_trans h.size ha.size, hH, hB⟩
  · exact fun k h1 h2 => by
      rcases hk with hk | ⟨m, hk, hm⟩
      · exact h.n34 k h1 (hk.symm.trans h2)
      · rw [hk] at h2
        injection h2 with h2
        have := (World.ownsRow.lt h.a k h1).2
        omega
  · exact h.n35
  · exact fun k h1 h2 => by
      rcases hk with hk | ⟨m, hk, hm⟩
      · exact h.n45 k (hk.symm.trans h1) h2
      · rw [hk] at h1
        injection h1 with h1
        have := (World.ownsRow.lt h.r k h2).2
        omega

theorem R0.read3 (h : R0 w wr M H B0 i0 i1 hs v2 v3 v4 v5 lq la ln lr) {v' : Value} {x : Rc} (hx : Cel w' M ([.int .i64 i0, .int .i64 i1, v2, v3, v4, v5].set 5 v')) (ho : OwnRc w' B0 v' (lr ++ [x])) (ha : Aside (fun k => k = M ∨ v5.ownBlock = some k) wr w') (hk : v'.ownBlock = v5.ownBlock ∨ ∃ k, v'.ownBlock = some k ∧ wr.heap.size ≤ k) :
    R0 w w' M H B0 i0 i1 hs v2 v3 v4 v' (lq) (la) (ln) (lr ++ [x]) := by
  have hH := h.hH
  have hB := h.hB
  have hlt := World.ownsRow.lt h.r
  have hG : ∀ k, k < B0 → k ≠ M → ¬ (k = M ∨ v5.ownBlock = some k) := fun k hk1 hk2 hg => by
    rcases hg with rfl | hg
    · exact hk2 rfl
    · have := (hlt k hg).1; omega
  have hM : ∀ {v : Value} {k e : Nat} {xs : List Value} {n : Nat}, wr.ownsRow B0 e k v n xs → ∀ j, v.ownBlock = some j → j ≠ M := fun hr j hj hg => by have := (World.ownsRow.lt hr j hj).1; omega
  have o0 : ∀ j, v2.ownBlock = some j → ¬ (j = M ∨ v5.ownBlock = some j) := fun j hj hg => by
    rcases hg with rfl | hg
    · exact hM h.q _ hj rfl
    · exact row_apart h.q h.r (by decide) j hj hg
  have o1 : ∀ j, v3.ownBlock = some j → ¬ (j = M ∨ v5.ownBlock = some j) := fun j hj hg => by
    rcases hg with rfl | hg
    · exact hM h.a _ hj rfl
    · exact h.n35 j hj hg
  have o2 : ∀ j, v4.ownBlock = some j → ¬ (j = M ∨ v5.ownBlock = some j) := fun j hj hg => by
    rcases hg with rfl | hg
    · exact hM h.n _ hj rfl
    · exact h.n45 j hj hg
  refine ⟨by simpa using hx, h.f.aside (by simp) ha (hG _ (by omega) (by omega)), h.h.aside h.hl ha (hG _ hB (by omega)), h.hl, row_aside h.q ha o0, row_aside h.a ha o1, row_aside h.n ha o2, ho, ?_, ?_, ?_, below_aside h.bel ha (fun k hk => ⟨by have := h.size; omega, hG k (by omega) (by omega)⟩), Nat.le_trans h.size ha.size, hH, hB⟩
  · exact h.n34
  · exact fun k h1 h2 => by
      rcases hk with hk | ⟨m, hk, hm⟩
      · exact h.n35 k h1 (hk.symm.trans h2)
      · rw [hk] at h2
        injection h2 with h2
        have := (World.ownsRow.lt h.a k h1).2
        omega
  · exact fun k h1 h2 => by
      rcases hk with hk | ⟨m, hk, hm⟩
      · exact h.n45 k h1 (hk.symm.trans h2)
      · rw [hk] at h2
        injection h2 with h2
        have := (World.ownsRow.lt h.n k h1).2
        omega
end

/-- A message of nothing. -/
def zeroM : Value := .agg #[.int .i64 0, .int .i64 0, .slice none 0 0, .slice none 0 0, .slice none 0 0, .slice none 0 0]

theorem rend_ok (g h : Nat) (w : World) (hp : w.cell? ⟨g, 0, none⟩ = some (.int .i64 0)) :
    CallsD Tryz.prog 32 #[.pointer (some ⟨g, 0, none⟩), .pointer (some ⟨h, 0, none⟩)] .returning w fun e u' w' => u' = .returning ∧ (e = .returned (.tuple #[]) ∧ w = w') := by
  refine callsD_of_wp Tryz.func32 rfl ?_
  simp only [Tryz.ntmps32, List.size_toArray, List.length_cons, List.length_nil, Nat.reduceAdd, Nat.reduceSub, Array.replicate_succ, Array.replicate_zero, List.push_toArray, List.append_toArray, List.nil_append, List.cons_append]
  go_wp2
  exact ⟨rfl, .tuple #[], by simp [results, Tryz.results32], rfl, rfl⟩
theorem rend_bad (g h : Nat) (E : Int) (a b c d e f : Value) (hE : E ≠ 0) (w : World) (hp : w.cell? ⟨g, 0, none⟩ = some (.int .i64 E)) (hq : Cel w h [a, b, c, d, e, f]) :
    CallsD Tryz.prog 32 #[.pointer (some ⟨g, 0, none⟩), .pointer (some ⟨h, 0, none⟩)] .returning w fun x u' w' => u' = .returning ∧ (x = .returned (.tuple #[]) ∧ Cel w' h [.int .i64 0, .int .i64 0, .slice none 0 0, .slice none 0 0, .slice none 0 0, .slice none 0 0] ∧ Aside (fun k => k = h) w w') := by
  have tE : (E != 0) = true := by simpa using hE
  obtain ⟨c0, c1, c2, c3, c4, c5⟩ := hq.six
  have fz := hq.fz
  have HQ := Lib.hid hq
  clear hq
  refine callsD_of_wp Tryz.func32 rfl ?_
  simp only [Tryz.ntmps32, List.size_toArray, List.length_cons, List.length_nil, Nat.reduceAdd, Nat.reduceSub, Array.replicate_succ, Array.replicate_zero, List.push_toArray, List.append_toArray, List.nil_append, List.cons_append]
  go_wp2
  refine ⟨rfl, .tuple #[], by simp [results, Tryz.results32], rfl, ?_, ?_⟩
  · have := (((((HQ.out.set (o := 0) (by simp) (.int .i64 0)).set (o := 1) (by simp) (.int .i64 0)).set (o := 2) (by simp) (.slice none 0 0)).set (o := 3) (by simp) (.slice none 0 0)).set (o := 4) (by simp) (.slice none 0 0)).set (o := 5) (by simp) (.slice none 0 0)
    simpa using this
  · have st : ∀ (X : World) (o : Nat) (v : Value), Aside (fun k => k = h) X (X.setCell ⟨h, o, none⟩ v) := fun X o v => Aside.setCell X (p := ⟨h, o, none⟩) v rfl
    exact (((((st _ _ _).trans (st _ _ _)).trans (st _ _ _)).trans (st _ _ _)).trans (st _ _ _)).trans (st _ _ _)

end Go.Proofs.YtpdaekgldgoalaaGreat
