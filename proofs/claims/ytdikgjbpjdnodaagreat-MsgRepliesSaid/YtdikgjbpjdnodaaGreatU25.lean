/-
  The document's bare answer.
-/
import Derived.Test.YtdikgjbpjdnodaaGreatU22
import Derived.Test.YtdikgjbpjdnodaaGreatU15
namespace Go.Proofs.YtdikgjbpjdnodaaGreat
open Go.RowKit Go.Shelf
set_option linter.unusedVariables false
set_option linter.unusedSimpArgs false
set_option maxRecDepth 100000

set_option maxHeartbeats 8000000 in
theorem replyR_any {w : World} {hi : Nat} {u : Value} {m : Ms} (c : Int) (h : Mg w hi u m) (h1 : hi ≤ w.heap.size) (hl : m.q.length ≤ 900000) (hn : ∀ x ∈ m.q, x.n.length ≤ 1000000) :
    Calls Tryz.prog 20 #[u, .int .i64 c] w (RpPost w m c) := by
  obtain ⟨q, a, n, r, rfl, hq, _, _, _⟩ := h
  obtain ⟨xa, xc, rfl⟩ := Lst.shape hq
  obtain ⟨i0, hi0⟩ : ∃ i, m.id = i := ⟨_, rfl⟩
  obtain ⟨f0, hf0⟩ : ∃ i, m.fl = i := ⟨_, rfl⟩
  obtain ⟨l, hlq⟩ : ∃ l, m.q = l := ⟨_, rfl⟩
  unfold RpPost
  rw [hi0, hf0, hlq]
  rw [hlq] at hq hl hn
  clear hi0 hf0 hlq
  obtain ⟨fl, hfl⟩ : ∃ y, rpF f0 c = y := ⟨_, rfl⟩
  obtain ⟨ls, hls⟩ : ∃ n, l.length = n := ⟨_, rfl⟩
  obtain ⟨N, hN⟩ : ∃ g, w.heap.size = g := ⟨_, rfl⟩
  have HQ := Lib.hid hq
  have HLN := Lib.hid (Lst.len hq)
  have HL := Lib.hid hl
  have HNN := Lib.hid hn
  have HF := Lib.hid (fun wx => (by have := rwith_any (rpB f0) c wx; rw [show wcF (rpB f0) c = fl from hfl] at this; exact this : Calls Tryz.prog 28 #[.int .i64 (rpB f0), .int .i64 c] wx (Tell0 wx (.int .i64 fl))))
  have HHI := Lib.hid h1
  have HN := Lib.hid hN
  rw [hls] at HLN
  rw [hfl]
  clear hq hl hn h1 hfl hN
  unfold rpB at HF
  rw [hls]
  go_enter Tryz.func20, Tryz.ntmps20
  go_wp2_with fail
  obtain ⟨W1, hW1⟩ : ∃ X, w.alloc (.cells #[.int .i64 i0, .int .i64 f0, .slice xa ls xc, a, n, r] 25) = X := ⟨_, rfl⟩
  obtain ⟨W2, hW2⟩ : ∃ X, W1.alloc (.cells #[.int .i64 0, .int .i64 0, .slice none 0 0, .slice none 0 0, .slice none 0 0, .slice none 0 0] 25) = X := ⟨_, rfl⟩
  rw [hW1, hW2, HN.out]
  have s1 : W1.heap.size = N + 1 := by rw [← hW1, World.size_alloc, HN.out]
  have s2 : W2.heap.size = N + 2 := by rw [← hW2, World.size_alloc, s1]
  have x1 : Cel W1 N [.int .i64 i0, .int .i64 f0, .slice xa ls xc, a, n, r] := by
    have := cel_new6 w (.int .i64 i0) (.int .i64 f0) (.slice xa ls xc) a n r 25
    rwa [hW1, HN.out] at this
  have x2 : Cel W2 (N + 1) [.int .i64 0, .int .i64 0, .slice none 0 0, .slice none 0 0, .slice none 0 0, .slice none 0 0] := by
    have := cel_new6 W1 (.int .i64 0) (.int .i64 0) (.slice none 0 0) (.slice none 0 0) (.slice none 0 0) (.slice none 0 0) 25
    rwa [hW2, s1] at this
  have b2 : Below N w W2 := by rw [← hW2, ← hW1]; exact ((Below.refl _ _).alloc (by rw [HN.out]; exact Nat.le_refl _) _).alloc (by simp [HN.out]) _
  replace x1 : Cel W2 N [.int .i64 i0, .int .i64 f0, .slice xa ls xc, a, n, r] := x1.below (by simp) (by rw [← hW2]; exact (Below.refl _ _).alloc (Nat.le_refl _) _)
  obtain ⟨WX, hWX⟩ : ∃ X, W2.drew = X := ⟨_, rfl⟩
  have y1 : Cel WX N [.int .i64 i0, .int .i64 f0, .slice xa ls xc, a, n, r] := by rw [← hWX]; exact ⟨x1.c, x1.fz⟩
  have HX2 := Lib.hid (show Cel WX (N + 1) [.int .i64 0, .int .i64 0, .slice none 0 0, .slice none 0 0, .slice none 0 0, .slice none 0 0] by rw [← hWX]; exact ⟨x2.c, x2.fz⟩)
  have HB := Lib.hid (show Below N w WX by rw [← hWX]; exact b2.drew)
  have sX : WX.heap.size = N + 2 := by rw [← hWX]; exact s2
  have HX1 := Lib.hid y1
  have HX1o := HX1
  clear x1 x2 b2 s1 s2 hW2 hW1 y1
  refine wp_region_held_drew (S := (fun wx => wx.cell? ⟨N, 0, none⟩ = some (.int .i64 i0) ∧ wx.cell? ⟨N, 2, none⟩ = some (.slice xa ls xc))) (by kernel_rfl) (by rw [hWX]; exact ⟨HX1.out.c 0 (by simp), HX1.out.c 2 (by simp)⟩) (fun hHeld => ?_)
  refine wpAnyH_take (i := 0) (oi := { dst := some 9, op := Op.fieldAddr 25 (Operand.tmp 2) 0, type := 0, pos := "ref.go:161", after := #[], guard := none }) (v := ?_) rfl (by kernel_rfl) (by kernel_rfl) (by kernel_rfl) (fun _ _ _ h => h) (Or.inl ⟨by rfl, ?_⟩) (by assumption) ?_
  rotate_left 1
  · intro w hSw; (try dsimp only at hSw); go_simp; try (with_reducible rfl)
  try simp only [Act.put, List.setIfInBounds_toArray, List.set_cons_zero, List.set_cons_succ]
  refine wpAnyH_take (i := 1) (oi := { dst := some 10, op := Op.load 3 (Operand.tmp 9), type := 3, pos := "ref.go:161", after := #[{ on := 0, ground := Ground.data }], guard := none }) (v := ?_) rfl (by kernel_rfl) (by kernel_rfl) (by kernel_rfl) (fun _ _ _ h => h) (Or.inl ⟨by rfl, ?_⟩) (by assumption) ?_
  rotate_left 1
  · intro w hSw; (try dsimp only at hSw); go_simp; try (with_reducible rfl)
  try simp only [Act.put, List.setIfInBounds_toArray, List.set_cons_zero, List.set_cons_succ]
  refine wpAnyH_take (i := 2) (oi := { dst := some 11, op := Op.move (Operand.tmp 5), type := 3, pos := "ref.go:161", after := #[], guard := none }) (v := ?_) rfl (by kernel_rfl) (by kernel_rfl) (by kernel_rfl) (fun _ _ _ h => h) (Or.inl ⟨by rfl, ?_⟩) (by assumption) ?_
  rotate_left 1
  · intro w hSw; (try dsimp only at hSw); go_simp; try (with_reducible rfl)
  try simp only [Act.put, List.setIfInBounds_toArray, List.set_cons_zero, List.set_cons_succ]
  refine wpAnyH_take (i := 3) (oi := { dst := some 12, op := Op.binOp BinOp.or 3 (Operand.tmp 11) (Operand.const (Value.int IntKind.i64 32768)) 3, type := 3, pos := "ref.go:161", after := #[{ on := 2, ground := Ground.data }], guard := none }) (v := ?_) rfl (by kernel_rfl) (by kernel_rfl) (by kernel_rfl) (fun _ _ _ h => h) (Or.inl ⟨by rfl, ?_⟩) (by assumption) ?_
  rotate_left 1
  · intro w hSw; (try dsimp only at hSw); go_simp; try (with_reducible rfl)
  try simp only [Act.put, List.setIfInBounds_toArray, List.set_cons_zero, List.set_cons_succ]
  refine wpAnyH_take (i := 4) (oi := { dst := some 13, op := Op.binOp BinOp.or 3 (Operand.tmp 12) (Operand.const (Value.int IntKind.i64 128)) 3, type := 3, pos := "ref.go:161", after := #[{ on := 3, ground := Ground.data }], guard := none }) (v := ?_) rfl (by kernel_rfl) (by kernel_rfl) (by kernel_rfl) (fun _ _ _ h => h) (Or.inl ⟨by rfl, ?_⟩) (by assumption) ?_
  rotate_left 1
  · intro w hSw; (try dsimp only at hSw); go_simp; try (with_reducible rfl)
  try simp only [Act.put, List.setIfInBounds_toArray, List.set_cons_zero, List.set_cons_succ]
  refine wpAnyH_take (i := 5) (oi := { dst := some 14, op := Op.move (Operand.tmp 1), type := 3, pos := "ref.go:161", after := #[], guard := none }) (v := ?_) rfl (by kernel_rfl) (by kernel_rfl) (by kernel_rfl) (fun _ _ _ h => h) (Or.inl ⟨by rfl, ?_⟩) (by assumption) ?_
  rotate_left 1
  · intro w hSw; (try dsimp only at hSw); go_simp; try (with_reducible rfl)
  try simp only [Act.put, List.setIfInBounds_toArray, List.set_cons_zero, List.set_cons_succ]
  refine wpAnyH_take (i := 8) (oi := { dst := some 17, op := Op.fieldAddr 25 (Operand.tmp 2) 2, type := 0, pos := "ref.go:161", after := #[], guard := none }) (v := ?_) rfl (by kernel_rfl) (by kernel_rfl) (by kernel_rfl) (fun _ _ _ h => h) (Or.inl ⟨by rfl, ?_⟩) (by assumption) ?_
  rotate_left 1
  · intro w hSw; (try dsimp only at hSw); go_simp; try (with_reducible rfl)
  try simp only [Act.put, List.setIfInBounds_toArray, List.set_cons_zero, List.set_cons_succ]
  refine wpAnyH_take (i := 9) (oi := { dst := some 18, op := Op.load 22 (Operand.tmp 17), type := 22, pos := "ref.go:161", after := #[{ on := 8, ground := Ground.data }], guard := none }) (v := ?_) rfl (by kernel_rfl) (by kernel_rfl) (by kernel_rfl) (fun _ _ _ h => h) (Or.inl ⟨by rfl, ?_⟩) (by assumption) ?_
  rotate_left 1
  · intro w hSw; (try dsimp only at hSw); go_simp; try (with_reducible rfl)
  try simp only [Act.put, List.setIfInBounds_toArray, List.set_cons_zero, List.set_cons_succ]
  refine wpAnyH_ready (rs := [6, 7]) (by kernel_rfl) (by simp) ?_
  refine AllReadyH.cons (o := { dst := some 15, op := Op.call { callee := Callee.value (Operand.func 28), args := #[Operand.tmp 13, Operand.tmp 14], argTypes := #[3, 3] }, type := 3, pos := "ref.go:161", after := #[{ on := 4, ground := Ground.data }, { on := 5, ground := Ground.data }], guard := none }) rfl (fun K hK => ?_) (AllReadyH.cons (o := { dst := some 16, op := Op.buildSlice 22 0 #[], type := 22, pos := "ref.go:161", after := #[], guard := none }) rfl (fun K hK => ?_) (AllReadyH.nil))
  · go_simp
    refine (HF.out _).mono ?_; rintro e0 w5 ⟨rfl, rfl⟩
    try go_wp2_with fail
    refine hK.out _ _ ⟨HX1.out.c 0 (by simp), HX1.out.c 2 (by simp)⟩ (fun hHeld => ?_)
    clear hK K
    try simp only [Act.put, List.setIfInBounds_toArray, List.set_cons_zero, List.set_cons_succ]
    refine wpAnyH_ready (rs := [7]) (by kernel_rfl) (by simp) ?_
    refine AllReadyH.cons (o := { dst := some 16, op := Op.buildSlice 22 0 #[], type := 22, pos := "ref.go:161", after := #[], guard := none }) rfl (fun K hK => ?_) (AllReadyH.nil)
    go_simp
    have hb : Below WX.heap.size WX (WX.alloc (.cells #[] 56)) := (Below.refl _ _).alloc (Nat.le_refl _) _
    have ho := World.ownsRow_made (e := 56) (size := 3) (base := N + 2) WX #[] 0 (by rw [sX]; exact Nat.le_refl _) (by decide) (by simp)
    rw [sX] at ho
    have hsz : (WX.alloc (.cells #[] 56)).heap.size = N + 3 := by rw [World.size_alloc, sX]
    replace HX1 := Lib.hid (HX1.out.below (by simp) hb)
    replace HX2 := Lib.hid (HX2.out.below (by simp) hb)
    replace HB := Lib.hid (HB.out.alloc (by rw [sX]; omega) (.cells #[] 56))
    obtain ⟨wc, hwc⟩ : ∃ X, WX.alloc (.cells #[] 56) = X := ⟨_, rfl⟩
    rw [hwc] at HX1 HX2 HB ho hsz ⊢
    have HO := Lib.hid (show OwnQn wc (N + 2) (.slice (some ⟨N + 2, 0, none⟩) 0 0) [] from ho)
    have HSZ := Lib.hid (show N + 2 ≤ wc.heap.size by rw [hsz]; omega)
    clear hb ho hsz hwc hWX
    refine hK.out _ _ ⟨HX1.out.c 0 (by simp), HX1.out.c 2 (by simp)⟩ (fun hHeld => ?_)
    clear hK K
    try simp only [Act.put, List.setIfInBounds_toArray, List.set_cons_zero, List.set_cons_succ]
    refine wpAnyH_ready (rs := [10]) (by kernel_rfl) (by simp) ?_
    refine AllReadyH.cons (o := { dst := some 19, op := Op.call { callee := Callee.builtin Builtin.append, args := #[Operand.tmp 16, Operand.tmp 18], argTypes := #[22, 22] }, type := 22, pos := "ref.go:161", after := #[{ on := 7, ground := Ground.data }, { on := 9, ground := Ground.data }, { on := 6, ground := Ground.chain }], guard := none }) rfl (fun K hK => ?_) (AllReadyH.nil)
    have hu : SQ wc hi (.slice xa l.length xc) l := Lst.below HQ.out HB.out (by have := HHI.out; rw [HN.out] at this; exact this)
    obtain ⟨a2, c2, wn, hrun, ho, ha, _⟩ := run_appQn HO.out hu (by rw [List.length_nil, Nat.zero_add]; have := HL.out; omega) HSZ.out
    simp only [List.length_nil, Nat.zero_add, List.nil_append] at hrun ho
    rw [hls] at hrun ho
    have HRUN := Lib.hid hrun
    have hlt := World.ownsRow.lt HO.out
    replace HX1 := Lib.hid (HX1.out.aside (by simp) ha (fun hg => by have := (hlt _ hg).1; omega))
    replace HX2 := Lib.hid (HX2.out.aside (by simp) ha (fun hg => by have := (hlt _ hg).1; omega))
    replace HB := Lib.hid (below_aside HB.out ha (fun k hk => ⟨by have := HSZ.out; omega, fun hg => by have := (hlt _ hg).1; omega⟩))
    replace HSZ := Lib.hid (Nat.le_trans HSZ.out ha.size)
    replace HO := Lib.hid ho
    clear hu hrun ho ha hlt
    obtain ⟨z0, z1, z2, z3, z4, z5⟩ := HX2.out.six
    have f1 := HX2.out.fz
    refine oper_app_run (.tmp 16) (.tmp 18) 22 22 rfl rfl rfl rfl HRUN.out ?_
    refine hK.out _ _ ⟨HX1.out.c 0 (by simp), HX1.out.c 2 (by simp)⟩ (fun hHeld => ?_)
    clear hK K
    try simp only [Act.put, List.setIfInBounds_toArray, List.set_cons_zero, List.set_cons_succ]
    refine wpAnyH_take (i := 11) (oi := { dst := some 20, op := Op.build 25 #[(0, Operand.tmp 10), (1, Operand.tmp 15), (2, Operand.tmp 19)], type := 25, pos := "ref.go:161", after := #[{ on := 1, ground := Ground.data }, { on := 6, ground := Ground.data }, { on := 10, ground := Ground.data }], guard := none }) (v := ?_) rfl (by kernel_rfl) (by kernel_rfl) (by kernel_rfl) (fun _ _ _ h => h) (Or.inl ⟨by rfl, ?_⟩) (by assumption) ?_
    rotate_left 1
    · intro w hSw; (try dsimp only at hSw); go_simp; try (with_reducible rfl)
    try simp only [Act.put, List.setIfInBounds_toArray, List.set_cons_zero, List.set_cons_succ]
    refine wpAnyH_ready (rs := [12]) (by kernel_rfl) (by simp) ?_
    refine AllReadyH.cons (o := { dst := none, op := Op.store 25 (Operand.tmp 4) (Operand.tmp 20), type := 0, pos := "ref.go:161", after := #[{ on := 11, ground := Ground.data }, { on := 10, ground := Ground.chain }, { on := 0, ground := Ground.phase }, { on := 1, ground := Ground.phase }, { on := 2, ground := Ground.phase }, { on := 3, ground := Ground.phase }, { on := 4, ground := Ground.phase }, { on := 5, ground := Ground.phase }, { on := 6, ground := Ground.phase }, { on := 7, ground := Ground.phase }, { on := 8, ground := Ground.phase }, { on := 9, ground := Ground.phase }, { on := 10, ground := Ground.phase }, { on := 11, ground := Ground.phase }], guard := none }) rfl (fun K hK => ?_) (AllReadyH.nil)
    go_simp
    have k6 := cel_put6 HX2.out (.int .i64 i0) (.int .i64 fl) (.slice a2 ls c2) (.slice none 0 0) (.slice none 0 0) (.slice none 0 0)
    have hst := aside_put6 wn (N + 1) (.int .i64 i0) (.int .i64 fl) (.slice a2 ls c2) (.slice none 0 0) (.slice none 0 0) (.slice none 0 0)
    clear z0 z1 z2 z3 z4 z5 f1
    have h1 : Cel (put6 wn (N + 1) (.int .i64 i0) (.int .i64 fl) (.slice a2 ls c2) (.slice none 0 0) (.slice none 0 0) (.slice none 0 0)) N [.int .i64 i0, .int .i64 f0, .slice xa ls xc, a, n, r] := HX1.out.aside (by simp) hst (by omega)
    replace HX1 := Lib.hid h1
    replace HB := Lib.hid (below_aside HB.out hst (fun k hk => ⟨by have := HSZ.out; omega, by omega⟩))
    replace HO := Lib.hid (show OwnQn _ (N + 2) (.slice a2 ls c2) l from row_aside HO.out hst fun k hk hg => by have := (World.ownsRow.lt HO.out k hk).1; omega)
    obtain ⟨m0, m1, m2, m3, m4, m5⟩ := k6.six
    clear h1 hst k6
    refine hK.out _ _ ⟨HX1.out.c 0 (by simp), HX1.out.c 2 (by simp)⟩ (fun hHeld => ?_)
    clear hK K
    try simp only [Act.put, List.setIfInBounds_toArray, List.set_cons_zero, List.set_cons_succ]
    refine wpAnyH_done (by kernel_rfl) ?_ _
    clear hHeld
    clear HRUN
    go_wp2_with fail
    unfold put6 at m0 m1 m2 m3 m4 m5 HB HO
    refine bodyPost_ret (by simp [results, Tryz.results20, go_sem, m0, m1, m2, m3, m4, m5]) rfl ⟨.slice a2 ls c2, rfl, ?_, ?_⟩
    · rw [HN.out]
      exact row_base HO.out (by omega)
    · rw [HN.out]
      exact HB.out
  · go_simp
    have hb : Below WX.heap.size WX (WX.alloc (.cells #[] 56)) := (Below.refl _ _).alloc (Nat.le_refl _) _
    have ho := World.ownsRow_made (e := 56) (size := 3) (base := N + 2) WX #[] 0 (by rw [sX]; exact Nat.le_refl _) (by decide) (by simp)
    rw [sX] at ho
    have hsz : (WX.alloc (.cells #[] 56)).heap.size = N + 3 := by rw [World.size_alloc, sX]
    replace HX1 := Lib.hid (HX1.out.below (by simp) hb)
    replace HX2 := Lib.hid (HX2.out.below (by simp) hb)
    replace HB := Lib.hid (HB.out.alloc (by rw [sX]; omega) (.cells #[] 56))
    obtain ⟨wc, hwc⟩ : ∃ X, WX.alloc (.cells #[] 56) = X := ⟨_, rfl⟩
    rw [hwc] at HX1 HX2 HB ho hsz ⊢
    have HO := Lib.hid (show OwnQn wc (N + 2) (.slice (some ⟨N + 2, 0, none⟩) 0 0) [] from ho)
    have HSZ := Lib.hid (show N + 2 ≤ wc.heap.size by rw [hsz]; omega)
    clear hb ho hsz hwc hWX
    refine hK.out _ _ ⟨HX1.out.c 0 (by simp), HX1.out.c 2 (by simp)⟩ (fun hHeld => ?_)
    clear hK K
    try simp only [Act.put, List.setIfInBounds_toArray, List.set_cons_zero, List.set_cons_succ]
    refine wpAnyH_ready (rs := [6]) (by kernel_rfl) (by simp) ?_
    refine AllReadyH.cons (o := { dst := some 15, op := Op.call { callee := Callee.value (Operand.func 28), args := #[Operand.tmp 13, Operand.tmp 14], argTypes := #[3, 3] }, type := 3, pos := "ref.go:161", after := #[{ on := 4, ground := Ground.data }, { on := 5, ground := Ground.data }], guard := none }) rfl (fun K hK => ?_) (AllReadyH.nil)
    go_simp
    refine (HF.out _).mono ?_; rintro e0 w5 ⟨rfl, rfl⟩
    try go_wp2_with fail
    refine hK.out _ _ ⟨HX1.out.c 0 (by simp), HX1.out.c 2 (by simp)⟩ (fun hHeld => ?_)
    clear hK K
    try simp only [Act.put, List.setIfInBounds_toArray, List.set_cons_zero, List.set_cons_succ]
    refine wpAnyH_ready (rs := [10]) (by kernel_rfl) (by simp) ?_
    refine AllReadyH.cons (o := { dst := some 19, op := Op.call { callee := Callee.builtin Builtin.append, args := #[Operand.tmp 16, Operand.tmp 18], argTypes := #[22, 22] }, type := 22, pos := "ref.go:161", after := #[{ on := 7, ground := Ground.data }, { on := 9, ground := Ground.data }, { on := 6, ground := Ground.chain }], guard := none }) rfl (fun K hK => ?_) (AllReadyH.nil)
    have hu : SQ wc hi (.slice xa l.length xc) l := Lst.below HQ.out HB.out (by have := HHI.out; rw [HN.out] at this; exact this)
    obtain ⟨a2, c2, wn, hrun, ho, ha, _⟩ := run_appQn HO.out hu (by rw [List.length_nil, Nat.zero_add]; have := HL.out; omega) HSZ.out
    simp only [List.length_nil, Nat.zero_add, List.nil_append] at hrun ho
    rw [hls] at hrun ho
    have HRUN := Lib.hid hrun
    have hlt := World.ownsRow.lt HO.out
    replace HX1 := Lib.hid (HX1.out.aside (by simp) ha (fun hg => by have := (hlt _ hg).1; omega))
    replace HX2 := Lib.hid (HX2.out.aside (by simp) ha (fun hg => by have := (hlt _ hg).1; omega))
    replace HB := Lib.hid (below_aside HB.out ha (fun k hk => ⟨by have := HSZ.out; omega, fun hg => by have := (hlt _ hg).1; omega⟩))
    replace HSZ := Lib.hid (Nat.le_trans HSZ.out ha.size)
    replace HO := Lib.hid ho
    clear hu hrun ho ha hlt
    obtain ⟨z0, z1, z2, z3, z4, z5⟩ := HX2.out.six
    have f1 := HX2.out.fz
    refine oper_app_run (.tmp 16) (.tmp 18) 22 22 rfl rfl rfl rfl HRUN.out ?_
    refine hK.out _ _ ⟨HX1.out.c 0 (by simp), HX1.out.c 2 (by simp)⟩ (fun hHeld => ?_)
    clear hK K
    try simp only [Act.put, List.setIfInBounds_toArray, List.set_cons_zero, List.set_cons_succ]
    refine wpAnyH_take (i := 11) (oi := { dst := some 20, op := Op.build 25 #[(0, Operand.tmp 10), (1, Operand.tmp 15), (2, Operand.tmp 19)], type := 25, pos := "ref.go:161", after := #[{ on := 1, ground := Ground.data }, { on := 6, ground := Ground.data }, { on := 10, ground := Ground.data }], guard := none }) (v := ?_) rfl (by kernel_rfl) (by kernel_rfl) (by kernel_rfl) (fun _ _ _ h => h) (Or.inl ⟨by rfl, ?_⟩) (by assumption) ?_
    rotate_left 1
    · intro w hSw; (try dsimp only at hSw); go_simp; try (with_reducible rfl)
    try simp only [Act.put, List.setIfInBounds_toArray, List.set_cons_zero, List.set_cons_succ]
    refine wpAnyH_ready (rs := [12]) (by kernel_rfl) (by simp) ?_
    refine AllReadyH.cons (o := { dst := none, op := Op.store 25 (Operand.tmp 4) (Operand.tmp 20), type := 0, pos := "ref.go:161", after := #[{ on := 11, ground := Ground.data }, { on := 10, ground := Ground.chain }, { on := 0, ground := Ground.phase }, { on := 1, ground := Ground.phase }, { on := 2, ground := Ground.phase }, { on := 3, ground := Ground.phase }, { on := 4, ground := Ground.phase }, { on := 5, ground := Ground.phase }, { on := 6, ground := Ground.phase }, { on := 7, ground := Ground.phase }, { on := 8, ground := Ground.phase }, { on := 9, ground := Ground.phase }, { on := 10, ground := Ground.phase }, { on := 11, ground := Ground.phase }], guard := none }) rfl (fun K hK => ?_) (AllReadyH.nil)
    go_simp
    have k6 := cel_put6 HX2.out (.int .i64 i0) (.int .i64 fl) (.slice a2 ls c2) (.slice none 0 0) (.slice none 0 0) (.slice none 0 0)
    have hst := aside_put6 wn (N + 1) (.int .i64 i0) (.int .i64 fl) (.slice a2 ls c2) (.slice none 0 0) (.slice none 0 0) (.slice none 0 0)
    clear z0 z1 z2 z3 z4 z5 f1
    have h1 : Cel (put6 wn (N + 1) (.int .i64 i0) (.int .i64 fl) (.slice a2 ls c2) (.slice none 0 0) (.slice none 0 0) (.slice none 0 0)) N [.int .i64 i0, .int .i64 f0, .slice xa ls xc, a, n, r] := HX1.out.aside (by simp) hst (by omega)
    replace HX1 := Lib.hid h1
    replace HB := Lib.hid (below_aside HB.out hst (fun k hk => ⟨by have := HSZ.out; omega, by omega⟩))
    replace HO := Lib.hid (show OwnQn _ (N + 2) (.slice a2 ls c2) l from row_aside HO.out hst fun k hk hg => by have := (World.ownsRow.lt HO.out k hk).1; omega)
    obtain ⟨m0, m1, m2, m3, m4, m5⟩ := k6.six
    clear h1 hst k6
    refine hK.out _ _ ⟨HX1.out.c 0 (by simp), HX1.out.c 2 (by simp)⟩ (fun hHeld => ?_)
    clear hK K
    try simp only [Act.put, List.setIfInBounds_toArray, List.set_cons_zero, List.set_cons_succ]
    refine wpAnyH_done (by kernel_rfl) ?_ _
    clear hHeld
    clear HRUN
    go_wp2_with fail
    unfold put6 at m0 m1 m2 m3 m4 m5 HB HO
    refine bodyPost_ret (by simp [results, Tryz.results20, go_sem, m0, m1, m2, m3, m4, m5]) rfl ⟨.slice a2 ls c2, rfl, ?_, ?_⟩
    · rw [HN.out]
      exact row_base HO.out (by omega)
    · rw [HN.out]
      exact HB.out
end Go.Proofs.YtdikgjbpjdnodaaGreat

/-
  A bare answer is written over: OverMessage.
-/
namespace Go.Proofs.YtdikgjbpjdnodaaGreat
open Go.RowKit Go.Shelf
set_option linter.unusedVariables false
set_option linter.unusedSimpArgs false
set_option maxRecDepth 100000

/-- A row of the call's own, as cells. -/
theorem row_cel {w : World} {B k n g c : Nat} {e : TypeId} {xs : List Value} {m : Nat} (h : w.ownsRow B e k (.slice (some ⟨g, 0, none⟩) m c) n xs) : Cel w g xs := by
  have hc := fun j u hu => World.ownsRow.cells h (g := g) rfl j u hu
  rcases h.2 with ⟨h2, _⟩ | ⟨g', cap, cur, h2, _, hb, _⟩
  · simp at h2
  · injection h2 with h2 _ _
    injection h2 with h2
    injection h2 with h2 _ _
    subst h2
    refine ⟨fun j hj => ?_, fun j => ?_⟩
    · have := hc j xs[j] (List.getElem?_eq_getElem hj)
      rwa [WideShapes.add_plain, Nat.zero_add] at this
    · simp [World.frozen?, hb]

theorem row_how {w : World} {B k n : Nat} {e : TypeId} {a : Option Addr} {m c : Nat} {xs : List Value} (h : w.ownsRow B e k (.slice a m c) n xs) : (a = none ∧ n = 0 ∧ m = 0) ∨ ∃ g, a = some ⟨g, 0, none⟩ ∧ m = n := by
  rcases h.2 with ⟨h2, h0⟩ | ⟨g, cap, cur, h2, _⟩
  · injection h2 with h2 h3 _
    exact .inl ⟨h2, h0, h3⟩
  · injection h2 with h2 h3 _
    exact .inr ⟨g, h2, h3⟩

set_option maxHeartbeats 8000000 in
theorem overM_any {w : World} {B ls : Nat} {a : Option Addr} {c : Nat} {l : List Qn} (i f : Int) (h : OwnQn w B (.slice a ls c) l) (hls : l.length = ls) (hl : ls ≤ 900000) :
    Calls Tryz.prog 22 #[.agg #[.int .i64 i, .int .i64 f, .slice a ls c, .slice none 0 0, .slice none 0 0, .slice none 0 0]] w fun e w' => e = .returned (.tuple #[]) ∧ Aside (fun b => (Value.slice a ls c).ownBlock = some b) w w' := by
  have hlt := World.ownsRow.lt h
  obtain ⟨N, hN⟩ : ∃ N, w.heap.size = N := ⟨_, rfl⟩
  have hx := cel_new6 w (.int .i64 i) (.int .i64 f) (.slice a ls c) (.slice none 0 0) (.slice none 0 0) (.slice none 0 0) 25
  rw [hN] at hx hlt
  have hbel : Below w.heap.size w (w.alloc (.cells #[.int .i64 i, .int .i64 f, .slice a ls c, .slice none 0 0, .slice none 0 0, .slice none 0 0] 25)) := (Below.refl w.heap.size w).alloc (Nat.le_refl _) _
  have HX := Lib.hid hx
  have HA := Lib.hid (Aside.of_all hbel : Aside (fun b => (Value.slice a ls c).ownBlock = some b) w _)
  have HO := Lib.hid (World.ownsRow.alloc h (.cells #[.int .i64 i, .int .i64 f, .slice a ls c, .slice none 0 0, .slice none 0 0, .slice none 0 0] 25) : OwnQn _ B (.slice a ls c) l)
  obtain ⟨c0, c1, c2, c3, c4, c5⟩ := hx.six
  have hrow : ∀ g, a = some ⟨g, 0, none⟩ → Cel (w.alloc (.cells #[.int .i64 i, .int .i64 f, .slice a ls c, .slice none 0 0, .slice none 0 0, .slice none 0 0] 25)) g (acq l) := fun g hg => by subst hg; exact row_cel HO.out
  have hown : ∀ g, a = some ⟨g, 0, none⟩ → (Value.slice a ls c).ownBlock = some g := fun g hg => by subst hg; rfl
  have how := row_how h
  clear h hx hbel
  go_enter Tryz.func22, Tryz.ntmps22
  go_wp2_with fail
  clear c0 c1 c2 c3 c4 c5
  go_loopg [2] ls (fun k v2 wr => ∃ j : Nat, j + k = ls ∧ v2 = .int .i64 j ∧ Hid (Cel wr N [.int .i64 i, .int .i64 f, .slice a ls c, .slice none 0 0, .slice none 0 0, .slice none 0 0]) ∧ Hid (Aside (fun b => (Value.slice a ls c).ownBlock = some b) w wr) ∧ Hid (∀ g, a = some ⟨g, 0, none⟩ → ∃ xs : List Value, xs.length = ls * 3 ∧ Cel wr g xs))
  case atStart => exact ⟨0, by omega, rfl, HX, HA, fun g hg => ⟨_, by rw [acq_len, hls], hrow g hg⟩⟩
  case round =>
    clear HX HA HO hrow
    obtain ⟨j, hj, rfl, HX, HA, HC⟩ := hrel
    obtain ⟨c0, c1, c2, c3, c4, c5⟩ := HX.out.six
    by_cases hj2 : j < ls
    · rcases how with ⟨_, _, h0⟩ | ⟨g, hag, hcl⟩
      · omega
      · obtain ⟨xs, hxl, hc⟩ := HC.out g hag
        have hg := (hlt g (hown g hag)).2
        have e0 := hc.c (j * 3) (by omega)
        have e1 := hc.c (j * 3 + 1) (by omega)
        have e2 := hc.c (j * 3 + 2) (by omega)
        obtain ⟨y0, hy0⟩ : ∃ y, xs[j * 3]'(by omega) = y := ⟨_, rfl⟩
        obtain ⟨y1, hy1⟩ : ∃ y, xs[j * 3 + 1]'(by omega) = y := ⟨_, rfl⟩
        obtain ⟨y2, hy2⟩ : ∃ y, xs[j * 3 + 2]'(by omega) = y := ⟨_, rfl⟩
        rw [hy0] at e0
        rw [hy1] at e1
        rw [hy2] at e2
        have fz := hc.fz
        have hst : ∀ (x : World) (o : Nat) (v : Value), Aside (fun b => b = g) x (x.setCell ⟨g, o, none⟩ v) := fun x o v => Aside.setCell x (p := ⟨g, o, none⟩) v rfl
        have hs3 := ((hst wr (j * 3) (.string ⟨#[]⟩)).trans (hst _ (j * 3 + 1) (.int .i64 9))).trans (hst _ (j * 3 + 2) (.int .i64 0))
        have HX2 := Lib.hid (HX.out.aside (by simp) hs3 (by omega))
        have HA2 := Lib.hid (HA.out.trans (hs3.mono fun k _ hk => by subst hk; exact hown _ hag))
        have HC2 := Lib.hid (((hc.set (o := j * 3) (by omega) (.string ⟨#[]⟩)).set (o := j * 3 + 1) (by rw [List.length_set]; omega) (.int .i64 9)).set (o := j * 3 + 2) (by rw [List.length_set, List.length_set]; omega) (.int .i64 0))
        clear hc hst hs3 HX HA HC hy0 hy1 hy2
        have t1 : (j : Int) < ls := by omega
        clear hcl
        subst hag
        go_wp2_with fail
        go_roundg (ls - (j + 1))
        case measure => omega
        case rel => exact ⟨j + 1, by omega, by go_num, HX2, HA2, fun g' hg' => by injection hg' with hg'; injection hg' with hg' _ _; subst hg'; exact ⟨_, by rw [List.length_set, List.length_set, List.length_set]; exact hxl, HC2.out⟩⟩
    · have t1 : ¬ ((j : Int) < ls) := by omega
      have HAF := Lib.hid (HA.out.trans (Aside.of_all ((Below.refl wr.heap.size wr).alloc (Nat.le_refl _) (.cells #[.slice none 0 0, .slice none 0 0, .slice none 0 0] 23)) : Aside (fun b => (Value.slice a ls c).ownBlock = some b) wr _))
      clear HX HC
      go_wp2_with fail
      refine wp_loop_rounds 4 ?_
      rw [rounds_succ]
      go_wp2_with fail
      refine wp_loop_rounds 1 ?_
      rw [rounds_succ]
      go_wp2_with fail
      rw [rounds_succ]
      go_wp2_with fail
      refine wp_loop_rounds 1 ?_
      rw [rounds_succ]
      go_wp2_with fail
      rw [rounds_succ]
      go_wp2_with fail
      refine wp_loop_rounds 1 ?_
      rw [rounds_succ]
      go_wp2_with fail
      rw [rounds_succ]
      go_wp2_with fail
      go_end0
      exact ⟨rfl, HAF.out⟩
end Go.Proofs.YtdikgjbpjdnodaaGreat

/-
  A message of too many entries, or of too long names and data: BigMessage.
-/
namespace Go.Proofs.YtdikgjbpjdnodaaGreat
open Go.RowKit Go.Shelf
set_option linter.unusedVariables false
set_option linter.unusedSimpArgs false
set_option maxRecDepth 100000

def bigRm (M : Nat) (x : Rc) : Bool := decide (M < x.n.length) || decide (M < x.d.length)
def bigQm (M : Nat) (x : Qn) : Bool := decide (M < x.n.length)
/-- More than so many entries, or a name or data of more than so many bytes. -/
def bigMs (most M : Nat) (m : Ms) : Bool := decide (most < m.q.length + m.an.length + m.ns.length + m.ar.length) || (m.q.any (bigQm M) || (m.an.any (bigRm M) || (m.ns.any (bigRm M) || m.ar.any (bigRm M))))

set_option maxHeartbeats 2000000 in
theorem bigRs_any {w : World} {hi : Nat} {u : Value} {l : List Rc} (M : Nat) (hM : M ≤ 1000000) (h : SR w hi u l) (h1 : hi ≤ w.heap.size) :
    Calls Tryz.prog 51 #[u, .int .i64 M] w fun e w' => e = .returned (.bool (l.any (bigRm M))) ∧ w = w' := by
  obtain ⟨r, hr⟩ : ∃ r, l.any (bigRm M) = r := ⟨_, rfl⟩
  rw [hr]
  have HR := Lib.hid hr
  have HX := Lib.hid h
  have HN := Lib.hid (Lst.len h)
  obtain ⟨a, c, rfl⟩ := Lst.shape h
  clear hr h
  go_enter Tryz.func51, Tryz.ntmps51
  go_wp2
  go_loopg [5] l.length (fun k v5 wr => ∃ j : Nat, j + k = l.length ∧ v5 = .int .i64 j ∧ Hid ((l.take j).any (bigRm M) = false) ∧ w = wr)
  case atStart => exact ⟨0, by omega, rfl, by simp [Hid], rfl⟩
  case round =>
    obtain ⟨j, hj, rfl, HA, rfl⟩ := hrel
    have hlen := HN.out
    by_cases hlt : j < l.length
    · obtain ⟨b, off, c2, he, hb, c0, _, _, _, c4⟩ := HX.out.at_ j hlt
      injection he with he hn3 hc3
      clear hn3 hc3
      subst he
      have hany := HA.out
      have htk : l.take (j + 1) = l.take j ++ [l[j]] := by rw [List.take_add_one, List.getElem?_eq_getElem hlt]; rfl
      have HM := Lib.hid (List.getElem_mem hlt)
      obtain ⟨x, hx⟩ : ∃ x, l[j] = x := ⟨_, rfl⟩
      rw [hx] at c0 c4 htk HM
      obtain ⟨n, t, cl, tl, d⟩ := x
      simp only at c0 c4
      have hns : (bs n).size = n.length := bs_size n
      have hds : (bs d).size = d.length := bs_size d
      by_cases h1 : M < n.length
      · have HE := Lib.hid (show r = true by rw [← HR.out]; exact List.any_eq_true.mpr ⟨_, HM.out, by unfold bigRm; simp [h1]⟩)
        have t1 : decide ((M : Int) < n.length) = true := by simp; omega
        clear hany htk hx HA HM
        go_wp2_with fail
        go_ret
        exact ⟨by rw [HE.out]; rfl, rfl⟩
      · have t1 : decide ((M : Int) < n.length) = false := by simp; omega
        by_cases h2 : M < d.length
        · have HE := Lib.hid (show r = true by rw [← HR.out]; exact List.any_eq_true.mpr ⟨_, HM.out, by unfold bigRm; simp [h2]⟩)
          have t2 : decide ((M : Int) < d.length) = true := by simp; omega
          clear hany htk hx HA HM
          go_wp2_with fail
          go_ret
          exact ⟨by rw [HE.out]; rfl, rfl⟩
        · have t2 : decide ((M : Int) < d.length) = false := by simp; omega
          have HA2 := Lib.hid (show (l.take (j + 1)).any (bigRm M) = false by rw [htk, List.any_append, hany]; simp [bigRm]; omega)
          clear hany htk hx HA HM
          go_wp2_with fail
          go_roundg (l.length - (j + 1))
          case measure => omega
          case rel => exact ⟨j + 1, by omega, by go_num, HA2, rfl⟩
    · have hje : j = l.length := by omega
      have HE := Lib.hid (show r = false by
        rw [← HR.out]
        have := HA.out
        rw [List.take_of_length_le (by omega)] at this
        exact this)
      clear HA
      have t1 : ¬ ((j : Int) < l.length) := by omega
      go_wp2_with fail
      go_ret
      exact ⟨by rw [HE.out]; rfl, rfl⟩

set_option maxHeartbeats 4000000 in
theorem bigM_any {w : World} {hi : Nat} {u : Value} {m : Ms} (most M : Nat) (hmo : most ≤ 1000000) (hM : M ≤ 1000000) (h : Mg w hi u m) (h1 : hi ≤ w.heap.size) :
    Calls Tryz.prog 29 #[u, .int .i64 most, .int .i64 M] w (Tells w (.bool (bigMs most M m))) := by
  obtain ⟨q, a, n, r, rfl, hq, ha, hn, hr⟩ := h
  have HLQ := Lib.hid (Lst.len hq)
  have HLA := Lib.hid (Lst.len ha)
  have HLN := Lib.hid (Lst.len hn)
  have HLR := Lib.hid (Lst.len hr)
  have HCA := Lib.hid (fun wx (hb : Below w.heap.size w wx) => bigRs_any M hM (Lst.below ha hb h1) (Nat.le_trans h1 hb.size))
  have HCN := Lib.hid (fun wx (hb : Below w.heap.size w wx) => bigRs_any M hM (Lst.below hn hb h1) (Nat.le_trans h1 hb.size))
  have HCR := Lib.hid (fun wx (hb : Below w.heap.size w wx) => bigRs_any M hM (Lst.below hr hb h1) (Nat.le_trans h1 hb.size))
  have HQ := Lib.hid hq
  have HHI := Lib.hid h1
  obtain ⟨qa, qc, rfl⟩ := Lst.shape hq
  obtain ⟨aa, ac, rfl⟩ := Lst.shape ha
  obtain ⟨na, nc, rfl⟩ := Lst.shape hn
  obtain ⟨ra, rc, rfl⟩ := Lst.shape hr
  obtain ⟨i0, hi0⟩ : ∃ i, m.id = i := ⟨_, rfl⟩
  obtain ⟨f0, hf0⟩ : ∃ i, m.fl = i := ⟨_, rfl⟩
  obtain ⟨R, hR⟩ : ∃ r, bigMs most M m = r := ⟨_, rfl⟩
  rw [hi0, hf0, hR]
  unfold bigMs at hR
  obtain ⟨b1, hb1⟩ : ∃ r, m.an.any (bigRm M) = r := ⟨_, rfl⟩
  obtain ⟨b2, hb2⟩ : ∃ r, m.ns.any (bigRm M) = r := ⟨_, rfl⟩
  obtain ⟨b3, hb3⟩ : ∃ r, m.ar.any (bigRm M) = r := ⟨_, rfl⟩
  rw [hb1, hb2, hb3] at hR
  rw [hb1] at HCA
  rw [hb2] at HCN
  rw [hb3] at HCR
  obtain ⟨l, hlq⟩ : ∃ l, m.q = l := ⟨_, rfl⟩
  rw [hlq] at hR HQ HLQ ⊢
  obtain ⟨ln, hln⟩ : ∃ l, m.an.length = l := ⟨_, rfl⟩
  rw [hln] at hR HLA HCA ⊢
  obtain ⟨lm, hlm⟩ : ∃ l, m.ns.length = l := ⟨_, rfl⟩
  rw [hlm] at hR HLN HCN ⊢
  obtain ⟨lr, hlr⟩ : ∃ l, m.ar.length = l := ⟨_, rfl⟩
  rw [hlr] at hR HLR HCR ⊢
  have hb0 : Below w.heap.size w (w.alloc (.cells #[.int .i64 i0, .int .i64 f0, .slice qa l.length qc, .slice aa ln ac, .slice na lm nc, .slice ra lr rc] 25)) := (Below.refl _ _).alloc (Nat.le_refl _) _
  have HB := Lib.hid hb0
  have HX := Lib.hid (cel_new6 w (.int .i64 i0) (.int .i64 f0) (.slice qa l.length qc) (.slice aa ln ac) (.slice na lm nc) (.slice ra lr rc) 25)
  have HR := Lib.hid hR
  clear hb1 hb2 hb3 hlq hln hlm hlr hi0 hf0 hq ha hn hr h1 hb0 hR
  have g1 := HLQ.out
  have g2 := HLA.out
  have g3 := HLN.out
  have g4 := HLR.out
  by_cases hbig : most < l.length + ln + lm + lr
  · have t0 : decide ((most : Int) < (l.length : Int) + ln + lm + lr) = true := by simp; omega
    have HE := Lib.hid (show R = true by rw [← HR.out]; simp [hbig])
    go_enter Tryz.func29, Tryz.ntmps29
    go_wp2_with fail
    go_ret
    exact ⟨by rw [HE.out]; rfl, HB.out⟩
  · have t0 : decide ((most : Int) < (l.length : Int) + ln + lm + lr) = false := by simp; omega
    have e0 : decide (most < l.length + ln + lm + lr) = false := by simp; omega
    have HR2 := Lib.hid (show (l.any (bigQm M) || (b1 || (b2 || b3))) = R by rw [← HR.out, e0]; rfl)
    obtain ⟨W, hW⟩ : ∃ W, w.alloc (.cells #[.int .i64 i0, .int .i64 f0, .slice qa l.length qc, .slice aa ln ac, .slice na lm nc, .slice ra lr rc] 25) = W := ⟨_, rfl⟩
    obtain ⟨N, hN⟩ : ∃ N, w.heap.size = N := ⟨_, rfl⟩
    rw [hW] at HB HX
    rw [hN] at HX
    obtain ⟨c0, c1, c2, c3, c4, c5⟩ := HX.out.six
    clear e0 HR
    go_enter Tryz.func29, Tryz.ntmps29
    go_wp2_with fail
    clear t0 hbig
    go_loopg [7] l.length (fun k v7 wr => ∃ j : Nat, j + k = l.length ∧ v7 = .int .i64 j ∧ Hid ((l.take j).any (bigQm M) = false) ∧ W = wr)
    case atStart => exact ⟨0, by omega, rfl, by simp [Hid], by first | rfl | exact hW.symm⟩
    case round =>
      clear hW
      obtain ⟨j, hj, rfl, HA, rfl⟩ := hrel
      by_cases hlt : j < l.length
      · obtain ⟨b, off, cc, he, hb, hc⟩ := HQ.out.at_ j hlt
        obtain ⟨d0, d1, d2⟩ := hc.keep fun o => HB.out.cell (p := ⟨b, o, none⟩) (Nat.lt_of_lt_of_le hb HHI.out)
        injection he with he hn3 hc3
        clear hn3 hc3
        subst he
        have hany := HA.out
        have htk : l.take (j + 1) = l.take j ++ [l[j]] := by rw [List.take_add_one, List.getElem?_eq_getElem hlt]; rfl
        have HM := Lib.hid (List.getElem_mem hlt)
        obtain ⟨x, hx⟩ : ∃ x, l[j] = x := ⟨_, rfl⟩
        rw [hx] at d0 htk HM
        obtain ⟨n, t, cl⟩ := x
        simp only at d0
        have hns : (bs n).size = n.length := bs_size n
        by_cases h1 : M < n.length
        · have HE := Lib.hid (show R = true by rw [← HR2.out, show l.any (bigQm M) = true from List.any_eq_true.mpr ⟨_, HM.out, by unfold bigQm; simp [h1]⟩]; rfl)
          have t1 : decide ((M : Int) < n.length) = true := by simp; omega
          clear hany htk hx HA HM hc hb d1 d2
          go_wp2_with fail
          go_ret
          exact ⟨by rw [HE.out]; rfl, by rw [← hN] at *; exact HB.out⟩
        · have t1 : decide ((M : Int) < n.length) = false := by simp; omega
          have HA2 := Lib.hid (show (l.take (j + 1)).any (bigQm M) = false by rw [htk, List.any_append, hany]; simp [bigQm]; omega)
          clear hany htk hx HA HM hc hb d1 d2
          go_wp2_with fail
          go_roundg (l.length - (j + 1))
          case measure => omega
          case rel => exact ⟨j + 1, by omega, by go_num, HA2, rfl⟩
      · have hje : j = l.length := by omega
        have HE := Lib.hid (show (b1 || (b2 || b3)) = R by
          rw [← HR2.out]
          have := HA.out
          rw [List.take_of_length_le (by omega)] at this
          rw [this]
          rfl)
        clear HA
        have t1 : ¬ ((j : Int) < l.length) := by omega
        cases b1 with
        | true =>
          go_wp2_with fail
          refine (HCA.out _ HB.out).mono ?_; rintro e w1 ⟨rfl, rfl⟩
          go_wp2_with fail
          go_ret
          exact ⟨by rw [← HE.out]; rfl, HB.out⟩
        | false =>
          cases b2 with
          | true =>
            go_wp2_with fail
            refine (HCA.out _ HB.out).mono ?_; rintro e w1 ⟨rfl, rfl⟩
            go_wp2_with fail
            refine (HCN.out _ HB.out).mono ?_; rintro e w1 ⟨rfl, rfl⟩
            go_wp2_with fail
            go_ret
            exact ⟨by rw [← HE.out]; rfl, HB.out⟩
          | false =>
            go_wp2_with fail
            refine (HCA.out _ HB.out).mono ?_; rintro e w1 ⟨rfl, rfl⟩
            go_wp2_with fail
            refine (HCN.out _ HB.out).mono ?_; rintro e w1 ⟨rfl, rfl⟩
            go_wp2_with fail
            refine (HCR.out _ HB.out).mono ?_; rintro e w1 ⟨rfl, rfl⟩
            go_wp2_with fail
            go_ret
            exact ⟨by rw [← HE.out]; rfl, HB.out⟩

theorem bigMs_no {most M : Nat} {m : Ms} (h : bigMs most M m = false) : m.q.length + m.an.length + m.ns.length + m.ar.length ≤ most ∧ (∀ x ∈ m.q, x.n.length ≤ M) ∧ (∀ x ∈ m.an, x.n.length ≤ M ∧ x.d.length ≤ M) ∧ (∀ x ∈ m.ns, x.n.length ≤ M ∧ x.d.length ≤ M) ∧ (∀ x ∈ m.ar, x.n.length ≤ M ∧ x.d.length ≤ M) := by
  unfold bigMs at h
  simp only [Bool.or_eq_false_iff, List.any_eq_false, decide_eq_false_iff_not, Nat.not_lt] at h
  obtain ⟨h0, h1, h2, h3, h4⟩ := h
  have k : ∀ l : List Rc, (∀ x ∈ l, ¬ bigRm M x = true) → ∀ x ∈ l, x.n.length ≤ M ∧ x.d.length ≤ M := fun l hl x hx => by
    have := hl x hx
    unfold bigRm at this
    simp at this
    exact this
  refine ⟨h0, fun x hx => ?_, k _ h2, k _ h3, k _ h4⟩
  have := h1 x hx
  unfold bigQm at this
  simpa using this
end Go.Proofs.YtdikgjbpjdnodaaGreat

/-
  A message that is too big for a statement: ostiarylaw08.big.
-/
namespace Go.Proofs.YtdikgjbpjdnodaaGreat
open Go.RowKit Go.Shelf
set_option linter.unusedVariables false
set_option linter.unusedSimpArgs false
set_option maxRecDepth 100000

set_option maxHeartbeats 2000000 in
theorem bigL_any {w : World} {hi : Nat} {u : Value} {m : Ms} (h : Mg w hi u m) (h1 : hi ≤ w.heap.size) : Calls Tryz.prog 9 #[u] w (Tells w (.bool (bigMs 200 66000 m))) := by
  obtain ⟨q, a, n, r, rfl, hq, ha, hn, hr⟩ := h
  have hm : Mg w w.heap.size (.agg #[.int .i64 m.id, .int .i64 m.fl, q, a, n, r]) m := Mg.wide ⟨_, _, _, _, rfl, hq, ha, hn, hr⟩ h1
  obtain ⟨qa, qc, rfl⟩ := Lst.shape hq
  obtain ⟨aa, ac, rfl⟩ := Lst.shape ha
  obtain ⟨na, nc, rfl⟩ := Lst.shape hn
  obtain ⟨ra, rc, rfl⟩ := Lst.shape hr
  obtain ⟨i0, hi0⟩ : ∃ i, m.id = i := ⟨_, rfl⟩
  obtain ⟨f0, hf0⟩ : ∃ i, m.fl = i := ⟨_, rfl⟩
  rw [hi0, hf0] at hm ⊢
  obtain ⟨R, hR⟩ : ∃ r, bigMs 200 66000 m = r := ⟨_, rfl⟩
  rw [hR]
  have hb : Below w.heap.size w (w.alloc (.cells #[.int .i64 i0, .int .i64 f0, .slice qa m.q.length qc, .slice aa m.an.length ac, .slice na m.ns.length nc, .slice ra m.ar.length rc] 25)) := (Below.refl _ _).alloc (Nat.le_refl _) _
  have HB := Lib.hid hb
  have HM := Lib.hid (hm.later hb)
  clear hm hb hq ha hn hr h1
  go_enter Tryz.func9, Tryz.ntmps9
  go_wp2_with fail
  refine (bigM_any 200 66000 (by decide) (by decide) HM.out (Nat.le_refl _)).mono ?_; rw [hR]; rintro e w1 ⟨rfl, hb⟩
  replace HB := Lib.hid (bel_call HB.out hb)
  go_wp2_with fail
  go_ret
  exact ⟨rfl, HB.out⟩
end Go.Proofs.YtdikgjbpjdnodaaGreat
