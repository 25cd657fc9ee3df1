/-
  A message without what it says besides says nothing: EdnsStrips.
-/
import Derived.Test.YtcjgbholgbjejaaZ06
import Derived.Test.YtcjgbholgbjejaaZ02
import Derived.SizedLaws
namespace Go.Proofs.Ytcjgbholgbjejaa
open Go.RowKit Go.Shelf
set_option linter.unusedVariables false
set_option linter.unusedSimpArgs false
set_option maxRecDepth 100000

theorem opL_noL (l : List Rc) : opL (noL l) = [] := by
  unfold opL noL
  rw [List.filter_filter, List.filter_eq_nil_iff]
  intro x _
  cases isO x <;> simp
theorem noL_noL (l : List Rc) : noL (noL l) = noL l := by
  unfold noL
  rw [List.filter_filter]
  congr 1
  funext x
  simp
theorem noL_id {l : List Rc} (h : opL l = []) : noL l = l := by
  unfold noL
  unfold opL at h
  rw [List.filter_eq_self]
  intro x hx
  have := List.filter_eq_nil_iff.mp h x hx
  simpa using this
theorem ofM_st (m : Ms) : ofM (stM m) = (ed0, false, 0) := by
  show ofL ((opL (noL m.an)).length + (opL (noL m.ns)).length) (opL (noL m.ar)) = _
  rw [opL_noL, opL_noL, opL_noL]
  rfl
theorem stM_st (m : Ms) : stM (stM m) = stM m := by
  unfold stM
  simp only [noL_noL]
theorem roM_st (m : Ms) : roM (stM m) = 512 := by unfold roM; rw [ofM_st]; rfl
theorem codM_st (m : Ms) : codM (stM m) = m.fl % 16 := by
  unfold codM
  rw [ofM_st]
  show m.fl % 16 + 16 * 0 = _
  omega
theorem stM_none {m : Ms} (h1 : (ofM m).2.1 = false) (h2 : (ofM m).2.2 = 0) : stM m = m := by
  have key : (opL m.an).length + (opL m.ns).length = 0 ∧ opL m.ar = [] := by
    rcases Classical.em ((opL m.an).length + (opL m.ns).length = 0 ∧ opL m.ar = []) with h | h
    · exact h
    · exfalso
      have e : ofM m = ofL ((opL m.an).length + (opL m.ns).length) (opL m.ar) := rfl
      rw [e] at h1 h2
      rcases Classical.em ((opL m.an).length + (opL m.ns).length = 0 ∧ (opL m.ar).length = 1) with h3 | h3
      · obtain ⟨x, hx⟩ := List.length_eq_one_iff.mp h3.2
        rw [h3.1, hx, ofL_one] at h1 h2
        simp only at h1 h2
        rw [h2] at h1
        simp at h1
      · rw [ofL_bad h h3] at h2
        simp at h2
  obtain ⟨h3, h4⟩ := key
  have a1 : opL m.an = [] := List.length_eq_zero_iff.mp (by omega)
  have a2 : opL m.ns = [] := List.length_eq_zero_iff.mp (by omega)
  unfold stM
  rw [noL_id a1, noL_id a2, noL_id h4]
theorem mild_of {most M : Nat} {m : Ms} (h : bigMs most M m = false) (h1 : most ≤ 800000) (h2 : M ≤ 900000) : Mild m ∧ m.q.length + m.an.length + m.ns.length + m.ar.length ≤ 800000 := by
  obtain ⟨k1, k2, k3, k4, k5⟩ := bigMs_no h
  exact ⟨⟨by omega, fun x hx => by have := k2 x hx; omega, fun x hx => by have := k3 x hx; omega, fun x hx => by have := k4 x hx; omega, fun x hx => by have := k5 x hx; omega⟩, by omega⟩

set_option maxHeartbeats 8000000 in
theorem strips_any {w : World} {hi : Nat} {u : Value} {m : Ms} (h : Mg w hi u m) (h1 : hi ≤ w.heap.size) : Calls Try.prog 5 #[u] w (Tells w (.bool true)) := by
  have hm0 := h.wide h1
  obtain ⟨q, a, n, r, rfl, hq, h2, h3, h4⟩ := h
  obtain ⟨xa, xc, rfl⟩ := Lst.shape hq
  obtain ⟨aa, ac, rfl⟩ := Lst.shape h2
  obtain ⟨na, nc, rfl⟩ := Lst.shape h3
  obtain ⟨ra, rc, rfl⟩ := Lst.shape h4
  obtain ⟨i0, hi0⟩ : ∃ i, m.id = i := ⟨_, rfl⟩
  obtain ⟨f0, hf0⟩ : ∃ i, m.fl = i := ⟨_, rfl⟩
  obtain ⟨lq, hlq⟩ : ∃ i, m.q.length = i := ⟨_, rfl⟩
  obtain ⟨la, hla⟩ : ∃ i, m.an.length = i := ⟨_, rfl⟩
  obtain ⟨ln, hln⟩ : ∃ i, m.ns.length = i := ⟨_, rfl⟩
  obtain ⟨lr, hlr⟩ : ∃ i, m.ar.length = i := ⟨_, rfl⟩
  rw [hi0, hf0, hlq, hla, hln, hlr] at hm0 ⊢
  have hb1 : Below w.heap.size w (w.alloc (.cells #[.int .i64 i0, .int .i64 f0, .slice xa lq xc, .slice aa la ac, .slice na ln nc, .slice ra lr rc] 25)) := (Below.refl _ _).alloc (Nat.le_refl _) _
  have hx := cel_new6 w (.int .i64 i0) (.int .i64 f0) (.slice xa lq xc) (.slice aa la ac) (.slice na ln nc) (.slice ra lr rc) 25
  have HM := Lib.hid (hm0.later hb1)
  have HB := Lib.hid hb1
  obtain ⟨N, hN⟩ : ∃ N, w.heap.size = N := ⟨_, rfl⟩
  rw [hN] at hx
  have HX := Lib.hid hx
  have HAw := Lib.hid (fun wx => awake9_any wx)
  obtain ⟨R, hR⟩ : ∃ r, bigMs 100 1000 m = r := ⟨_, rfl⟩
  have HFL := Lib.hid hf0
  clear hq h2 h3 h4 h1 hm0 hb1 hx hi0 hf0 hlq hla hln hlr
  go_enter Try.func5, Try.ntmps5
  go_wp2_with fail
  refine (HAw.out _).mono ?_; rintro e w1 ⟨rfl, hb⟩
  replace HB := Lib.hid (bel_call HB.out hb)
  replace HX := Lib.hid (HX.out.below (by simp) hb)
  replace HM := Lib.hid (HM.out.later hb)
  clear hb
  obtain ⟨c0, c1, c2, c3, c4, c5⟩ := HX.out.six
  go_wp2_with fail
  refine (bigM_any 100 1000 (by decide) (by decide) HM.out (Nat.le_refl _)).mono ?_; rw [hR]; rintro e w2 ⟨rfl, hb⟩
  replace HB := Lib.hid (bel_call HB.out hb)
  replace HX := Lib.hid (HX.out.below (by simp) hb)
  replace HM := Lib.hid (HM.out.later hb)
  clear hb c0 c1 c2 c3 c4 c5
  cases R with
  | true =>
    go_wp2_with fail
    go_ret
    exact ⟨rfl, by first | exact HB.out | (rw [hN]; exact HB.out)⟩
  | false =>
    have HMI := Lib.hid (mild_of hR (by decide) (by decide)).1
    obtain ⟨c0, c1, c2, c3, c4, c5⟩ := HX.out.six
    go_wp2_with fail
    refine (strip_any HM.out (Nat.le_refl _) HMI.out).mono ?_; rintro e w3 ⟨v, rfl, ho, hb⟩
    obtain ⟨X, hXX⟩ : ∃ x, stM m = x := ⟨_, rfl⟩
    have HST := Lib.hid hXX
    have HMX := Lib.hid (by have h := HMI.out.st; rw [hXX] at h; exact h : Mild X)
    rw [hXX] at ho
    obtain ⟨b1, e1, b2, e2, b3, e3, b4, e4, rfl⟩ := own_shape4 ho
    have hmg := ho.mg HMX.out.1
    have hof := ofM_st m
    have hst2 := stM_st m
    have hro := roM_st m
    have hco := codM_st m
    rw [hXX] at hof hst2 hro hco
    rw [HFL.out] at hco
    have hxf : X.fl = f0 := by rw [← hXX]; exact HFL.out
    have hxi : X.id = m.id := by rw [← hXX]; rfl
    obtain ⟨xi, hxi2⟩ : ∃ y, X.id = y := ⟨_, rfl⟩
    obtain ⟨k1, hk1⟩ : ∃ y, X.q.length = y := ⟨_, rfl⟩
    obtain ⟨k2, hk2⟩ : ∃ y, X.an.length = y := ⟨_, rfl⟩
    obtain ⟨k3, hk3⟩ : ∃ y, X.ns.length = y := ⟨_, rfl⟩
    obtain ⟨k4, hk4⟩ : ∃ y, X.ar.length = y := ⟨_, rfl⟩
    rw [hxf, hxi2, hk1, hk2, hk3, hk4] at hmg ⊢
    have HOF := Lib.hid hof
    have HST2 := Lib.hid hst2
    have HRO := Lib.hid hro
    have HCO := Lib.hid hco
    replace HB := Lib.hid (bel_call HB.out hb)
    replace HX := Lib.hid (HX.out.below (by simp) hb)
    replace HM := Lib.hid (HM.out.later hb)
    clear hb ho hXX hof hst2 hro hco hxf hxi hxi2 hk1 hk2 hk3 hk4 c0 c1 c2 c3 c4 c5
    have hba : Below w3.heap.size w3 (w3.alloc (.cells #[.int .i64 xi, .int .i64 f0, .slice b1 k1 e1, .slice b2 k2 e2, .slice b3 k3 e3, .slice b4 k4 e4] 25)) := (Below.refl _ _).alloc (Nat.le_refl _) _
    have hbx := cel_new6 w3 (.int .i64 xi) (.int .i64 f0) (.slice b1 k1 e1) (.slice b2 k2 e2) (.slice b3 k3 e3) (.slice b4 k4 e4) 25
    obtain ⟨g, hg⟩ : ∃ g, w3.heap.size = g := ⟨_, rfl⟩
    rw [hg] at hbx
    have HY := Lib.hid hbx
    have HMY := Lib.hid (hmg.later hba)
    replace HB := Lib.hid (bel_call HB.out hba)
    replace HX := Lib.hid (HX.out.below (by simp) hba)
    replace HM := Lib.hid (HM.out.later hba)
    have HOFX := Lib.hid (of_any HMY.out (Nat.le_refl _) HMX.out)
    unfold OfPost at HOFX
    rw [HOF.out] at HOFX
    obtain ⟨y0, y1, y2, y3, y4, y5⟩ := HY.out.six
    clear hba hbx hmg
    go_wp2_with fail
    refine HOFX.out.mono ?_; rintro e w4 ⟨v, rfl, hv, hb⟩
    obtain ⟨o, hv1, hso⟩ := hv
    obtain ⟨oa, oc, ho1⟩ := row_shape hso
    have ho2 : o = .slice oa 0 oc := ho1
    subst ho2
    have hv2 : v = .agg #[.int .i64 0, .int .i64 0, .int .i64 0, .bool false, .slice oa 0 oc] := hv1
    subst hv2
    replace HB := Lib.hid (bel_call HB.out hb)
    replace HX := Lib.hid (HX.out.below (by simp) hb)
    replace HM := Lib.hid (HM.out.later hb)
    replace HY := Lib.hid (HY.out.below (by simp) hb)
    replace HMY := Lib.hid (HMY.out.later hb)
    clear hb hso y0 y1 y2 y3 y4 y5 HOFX
    obtain ⟨g2, hg2⟩ : ∃ g, w4.heap.size = g := ⟨_, rfl⟩
    have hb : Below w4.heap.size w4 (w4.alloc (.cells #[.int .i64 0, .int .i64 0, .int .i64 0, .bool false, .slice oa 0 oc] 30)) := (Below.refl _ _).alloc (Nat.le_refl _) _
    replace HB := Lib.hid (bel_call HB.out hb)
    replace HX := Lib.hid (HX.out.below (by simp) hb)
    replace HM := Lib.hid (HM.out.later hb)
    replace HY := Lib.hid (HY.out.below (by simp) hb)
    replace HMY := Lib.hid (HMY.out.later hb)
    clear hb
    have HOFM := Lib.hid (of_any HM.out (Nat.le_refl _) HMI.out)
    unfold OfPost at HOFM
    obtain ⟨E, hE⟩ : ∃ x, ofM m = x := ⟨_, rfl⟩
    obtain ⟨ee, is, er⟩ := E
    rw [hE] at HOFM
    have HNON := Lib.hid (fun (ha : is = false) (hb : er = 0) => (by have := stM_none (m := m) (by rw [hE]; exact ha) (by rw [hE]; exact hb); rw [HST.out] at this; exact this : X = m))
    simp only at HOFM
    clear hE
    obtain ⟨c0, c1, c2, c3, c4, c5⟩ := HX.out.six
    go_wp2_with fail
    refine HOFM.out.mono ?_; rintro e w5 ⟨v, rfl, hv, hb⟩
    obtain ⟨o, rfl, hso⟩ := hv
    obtain ⟨pa, pc, rfl⟩ := row_shape hso
    replace HB := Lib.hid (bel_call HB.out hb)
    replace HX := Lib.hid (HX.out.below (by simp) hb)
    replace HM := Lib.hid (HM.out.later hb)
    replace HY := Lib.hid (HY.out.below (by simp) hb)
    replace HMY := Lib.hid (HMY.out.later hb)
    clear hb hso c0 c1 c2 c3 c4 c5 HOFM
    obtain ⟨g3, hg3⟩ : ∃ g, w5.heap.size = g := ⟨_, rfl⟩
    have hb : Below w5.heap.size w5 (w5.alloc (.cells #[.int .i64 ee.s, .int .i64 ee.x, .int .i64 ee.v, .bool ee.b, .slice pa ee.o.length pc] 30)) := (Below.refl _ _).alloc (Nat.le_refl _) _
    replace HB := Lib.hid (bel_call HB.out hb)
    replace HX := Lib.hid (HX.out.below (by simp) hb)
    replace HM := Lib.hid (HM.out.later hb)
    replace HY := Lib.hid (HY.out.below (by simp) hb)
    replace HMY := Lib.hid (HMY.out.later hb)
    clear hb
    have hb : Below (w5.alloc (.cells #[.int .i64 ee.s, .int .i64 ee.x, .int .i64 ee.v, .bool ee.b, .slice pa ee.o.length pc] 30)).heap.size (w5.alloc (.cells #[.int .i64 ee.s, .int .i64 ee.x, .int .i64 ee.v, .bool ee.b, .slice pa ee.o.length pc] 30)) (w5.alloc (.cells #[.int .i64 ee.s, .int .i64 ee.x, .int .i64 ee.v, .bool ee.b, .slice pa ee.o.length pc] 30)).drew := (Below.refl _ _).drew
    replace HB := Lib.hid (bel_call HB.out hb)
    replace HX := Lib.hid (HX.out.below (by simp) hb)
    replace HM := Lib.hid (HM.out.later hb)
    replace HY := Lib.hid (HY.out.below (by simp) hb)
    replace HMY := Lib.hid (HMY.out.later hb)
    clear hb
    have HMC := Lib.hid (fun wx => mcode_any f0 wx)
    unfold cdF at HMC
    go_wp2_with fail
    refine wp_region_held_drew (S := (fun wx => (wx.cell? ⟨g, 0, none⟩ = some (.int .i64 xi) ∧ wx.cell? ⟨g, 1, none⟩ = some (.int .i64 f0) ∧ wx.cell? ⟨g, 2, none⟩ = some (.slice b1 k1 e1) ∧ wx.cell? ⟨g, 3, none⟩ = some (.slice b2 k2 e2) ∧ wx.cell? ⟨g, 4, none⟩ = some (.slice b3 k3 e3) ∧ wx.cell? ⟨g, 5, none⟩ = some (.slice b4 k4 e4)) ∧ wx.cell? ⟨N, 1, none⟩ = some (.int .i64 f0))) (by kernel_rfl) ⟨HY.out.six, HX.out.c 1 (by simp)⟩ (fun hHeld => ?_)
    refine wpAnyH_take (i := 0) (oi := { dst := some 29, op := Op.move (Operand.tmp 6), type := 4, pos := "outright.go:56", after := #[], guard := none }) (v := ?_) rfl (by kernel_rfl) (by kernel_rfl) (by kernel_rfl) (fun _ _ _ h => h) (Or.inl ⟨by rfl, ?_⟩) (by assumption) ?_
    rotate_left 1
    · intro w hSw; (try dsimp only at hSw); go_simp; try (with_reducible rfl)
    try simp only [Act.put, List.setIfInBounds_toArray, List.set_cons_zero, List.set_cons_succ]
    refine wpAnyH_take (i := 1) (oi := { dst := some 30, op := Op.move (Operand.tmp 29), type := 4, pos := "outright.go:56", after := #[{ on := 0, ground := Ground.data }], guard := none }) (v := ?_) rfl (by kernel_rfl) (by kernel_rfl) (by kernel_rfl) (fun _ _ _ h => h) (Or.inl ⟨by rfl, ?_⟩) (by assumption) ?_
    rotate_left 1
    · intro w hSw; (try dsimp only at hSw); go_simp; try (with_reducible rfl)
    try simp only [Act.put, List.setIfInBounds_toArray, List.set_cons_zero, List.set_cons_succ]
    refine wpAnyH_take (i := 2) (oi := { dst := some 31, op := Op.move (Operand.tmp 7), type := 31, pos := "outright.go:56", after := #[{ on := 1, ground := Ground.guard }], guard := some (1, false) }) (v := ?_) rfl (by kernel_rfl) (by kernel_rfl) (by kernel_rfl) (fun _ _ _ h => h) (Or.inl ⟨by rfl, ?_⟩) (by assumption) ?_
    rotate_left 1
    · intro w hSw; (try dsimp only at hSw); go_simp; try (with_reducible rfl)
    try simp only [Act.put, List.setIfInBounds_toArray, List.set_cons_zero, List.set_cons_succ]
    refine wpAnyH_take (i := 3) (oi := { dst := some 32, op := Op.binOp BinOp.neq 31 (Operand.tmp 31) (Operand.const (Value.int IntKind.i64 0)) 31, type := 4, pos := "outright.go:56", after := #[{ on := 2, ground := Ground.data }, { on := 1, ground := Ground.guard }], guard := some (1, false) }) (v := ?_) rfl (by kernel_rfl) (by kernel_rfl) (by kernel_rfl) (fun _ _ _ h => h) (Or.inl ⟨by rfl, ?_⟩) (by assumption) ?_
    rotate_left 1
    · intro w hSw; (try dsimp only at hSw); go_simp; try (with_reducible rfl)
    try simp only [Act.put, List.setIfInBounds_toArray, List.set_cons_zero, List.set_cons_succ]
    refine wpAnyH_take (i := 4) (oi := { dst := some 33, op := Op.pick (Operand.tmp 30) (Operand.const (Value.bool true)) (Operand.tmp 32), type := 4, pos := "outright.go:56", after := #[{ on := 1, ground := Ground.data }, { on := 3, ground := Ground.data }], guard := none }) (v := ?_) rfl (by kernel_rfl) (by kernel_rfl) (by kernel_rfl) (fun _ _ _ h => h) (Or.inl ⟨by rfl, ?_⟩) (by assumption) ?_
    rotate_left 1
    · intro w hSw; (try dsimp only at hSw); go_simp; try (with_reducible rfl)
    try simp only [Act.put, List.setIfInBounds_toArray, List.set_cons_zero, List.set_cons_succ]
    refine wpAnyH_take (i := 5) (oi := { dst := some 34, op := Op.move (Operand.tmp 33), type := 4, pos := "outright.go:56", after := #[{ on := 4, ground := Ground.data }, { on := 1, ground := Ground.chain }], guard := none }) (v := ?_) rfl (by kernel_rfl) (by kernel_rfl) (by kernel_rfl) (fun _ _ _ h => h) (Or.inl ⟨by rfl, ?_⟩) (by assumption) ?_
    rotate_left 1
    · intro w hSw; (try dsimp only at hSw); go_simp; try (with_reducible rfl)
    try simp only [Act.put, List.setIfInBounds_toArray, List.set_cons_zero, List.set_cons_succ]
    refine wpAnyH_take (i := 6) (oi := { dst := some 35, op := Op.load 25 (Operand.tmp 4), type := 25, pos := "outright.go:56", after := #[{ on := 5, ground := Ground.guard }], guard := some (5, false) }) (v := ?_) rfl (by kernel_rfl) (by kernel_rfl) (by kernel_rfl) (fun _ _ _ h => h) (Or.inl ⟨by rfl, ?_⟩) (by assumption) ?_
    rotate_left 1
    · intro w hSw; (try dsimp only at hSw); go_simp; try (with_reducible rfl)
    try simp only [Act.put, List.setIfInBounds_toArray, List.set_cons_zero, List.set_cons_succ]
    refine wpAnyH_take (i := 8) (oi := { dst := some 37, op := Op.load 25 (Operand.tmp 4), type := 25, pos := "outright.go:56", after := #[{ on := 5, ground := Ground.guard }], guard := some (5, false) }) (v := ?_) rfl (by kernel_rfl) (by kernel_rfl) (by kernel_rfl) (fun _ _ _ h => h) (Or.inl ⟨by rfl, ?_⟩) (by assumption) ?_
    rotate_left 1
    · intro w hSw; (try dsimp only at hSw); go_simp; try (with_reducible rfl)
    try simp only [Act.put, List.setIfInBounds_toArray, List.set_cons_zero, List.set_cons_succ]
    refine wpAnyH_ready (rs := [7]) (by kernel_rfl) (by simp) ?_
    refine AllReadyH.cons (o := { dst := some 36, op := Op.call { callee := Callee.value (Operand.func 11), args := #[Operand.tmp 35], argTypes := #[25] }, type := 25, pos := "outright.go:56", after := #[{ on := 6, ground := Ground.data }, { on := 5, ground := Ground.chain }, { on := 5, ground := Ground.guard }], guard := some (5, false) }) rfl (fun K hK => ?_) (AllReadyH.nil)
    go_simp
    refine (strip_any HMY.out (Nat.le_refl _) HMX.out).mono ?_; rintro e w7 ⟨v, rfl, ho, hb⟩
    rw [HST2.out] at ho
    obtain ⟨d1, s1, d2, s2, d3, s3, d4, s4, rfl⟩ := own_shape4 ho
    have HMS := Lib.hid (ho.mg HMX.out.1)
    replace HB := Lib.hid (bel_call HB.out hb)
    replace HX := Lib.hid (HX.out.below (by simp) hb)
    replace HM := Lib.hid (HM.out.later hb)
    replace HY := Lib.hid (HY.out.below (by simp) hb)
    replace HMY := Lib.hid (HMY.out.later hb)
    clear hb ho
    try go_wp2_with fail
    refine hK.out _ _ ⟨HY.out.six, HX.out.c 1 (by simp)⟩ (fun hHeld => ?_)
    clear hK K
    try simp only [Act.put, List.setIfInBounds_toArray, List.set_cons_zero, List.set_cons_succ]
    refine wpAnyH_ready (rs := [9]) (by kernel_rfl) (by simp) ?_
    refine AllReadyH.cons (o := { dst := some 38, op := Op.call { callee := Callee.value (Operand.func 14), args := #[Operand.tmp 36, Operand.tmp 37], argTypes := #[25, 25] }, type := 4, pos := "outright.go:56", after := #[{ on := 7, ground := Ground.data }, { on := 8, ground := Ground.data }, { on := 7, ground := Ground.chain }, { on := 5, ground := Ground.guard }], guard := some (5, false) }) rfl (fun K hK => ?_) (AllReadyH.nil)
    go_simp
    refine (sameM_yes HMS.out HMY.out (Nat.le_refl _) (Nat.le_refl _)).mono ?_; rintro e w8 ⟨rfl, hb⟩
    replace HB := Lib.hid (bel_call HB.out hb)
    replace HX := Lib.hid (HX.out.below (by simp) hb)
    replace HM := Lib.hid (HM.out.later hb)
    replace HY := Lib.hid (HY.out.below (by simp) hb)
    replace HMY := Lib.hid (HMY.out.later hb)
    clear hb
    try go_wp2_with fail
    refine hK.out _ _ ⟨HY.out.six, HX.out.c 1 (by simp)⟩ (fun hHeld => ?_)
    clear hK K
    try simp only [Act.put, List.setIfInBounds_toArray, List.set_cons_zero, List.set_cons_succ]
    refine wpAnyH_take (i := 10) (oi := { dst := some 39, op := Op.unOp UnOp.not 4 (Operand.tmp 38), type := 4, pos := "outright.go:56", after := #[{ on := 9, ground := Ground.data }, { on := 5, ground := Ground.guard }], guard := some (5, false) }) (v := ?_) rfl (by kernel_rfl) (by kernel_rfl) (by kernel_rfl) (fun _ _ _ h => h) (Or.inl ⟨by rfl, ?_⟩) (by assumption) ?_
    rotate_left 1
    · intro w hSw; (try dsimp only at hSw); go_simp; try (with_reducible rfl)
    try simp only [Act.put, List.setIfInBounds_toArray, List.set_cons_zero, List.set_cons_succ]
    refine wpAnyH_take (i := 11) (oi := { dst := some 40, op := Op.pick (Operand.tmp 34) (Operand.const (Value.bool true)) (Operand.tmp 39), type := 4, pos := "outright.go:56", after := #[{ on := 5, ground := Ground.data }, { on := 10, ground := Ground.data }], guard := none }) (v := ?_) rfl (by kernel_rfl) (by kernel_rfl) (by kernel_rfl) (fun _ _ _ h => h) (Or.inl ⟨by rfl, ?_⟩) (by assumption) ?_
    rotate_left 1
    · intro w hSw; (try dsimp only at hSw); go_simp; try (with_reducible rfl)
    try simp only [Act.put, List.setIfInBounds_toArray, List.set_cons_zero, List.set_cons_succ]
    refine wpAnyH_take (i := 12) (oi := { dst := some 41, op := Op.move (Operand.tmp 40), type := 4, pos := "outright.go:56", after := #[{ on := 11, ground := Ground.data }, { on := 9, ground := Ground.chain }], guard := none }) (v := ?_) rfl (by kernel_rfl) (by kernel_rfl) (by kernel_rfl) (fun _ _ _ h => h) (Or.inl ⟨by rfl, ?_⟩) (by assumption) ?_
    rotate_left 1
    · intro w hSw; (try dsimp only at hSw); go_simp; try (with_reducible rfl)
    try simp only [Act.put, List.setIfInBounds_toArray, List.set_cons_zero, List.set_cons_succ]
    refine wpAnyH_take (i := 13) (oi := { dst := some 42, op := Op.load 25 (Operand.tmp 4), type := 25, pos := "outright.go:56", after := #[{ on := 12, ground := Ground.guard }], guard := some (12, false) }) (v := ?_) rfl (by kernel_rfl) (by kernel_rfl) (by kernel_rfl) (fun _ _ _ h => h) (Or.inl ⟨by rfl, ?_⟩) (by assumption) ?_
    rotate_left 1
    · intro w hSw; (try dsimp only at hSw); go_simp; try (with_reducible rfl)
    try simp only [Act.put, List.setIfInBounds_toArray, List.set_cons_zero, List.set_cons_succ]
    refine wpAnyH_ready (rs := [14]) (by kernel_rfl) (by simp) ?_
    refine AllReadyH.cons (o := { dst := some 43, op := Op.call { callee := Callee.value (Operand.func 17), args := #[Operand.tmp 42], argTypes := #[25] }, type := 3, pos := "outright.go:56", after := #[{ on := 13, ground := Ground.data }, { on := 12, ground := Ground.chain }, { on := 12, ground := Ground.guard }], guard := some (12, false) }) rfl (fun K hK => ?_) (AllReadyH.nil)
    go_simp
    refine ((show Calls _ _ _ _ (Tells _ (.int .i64 512)) by have h := room_any HMY.out (Nat.le_refl _) HMX.out; rw [HRO.out] at h; exact h)).mono ?_; rintro e w9 ⟨rfl, hb⟩
    replace HB := Lib.hid (bel_call HB.out hb)
    replace HX := Lib.hid (HX.out.below (by simp) hb)
    replace HM := Lib.hid (HM.out.later hb)
    replace HY := Lib.hid (HY.out.below (by simp) hb)
    replace HMY := Lib.hid (HMY.out.later hb)
    clear hb
    try go_wp2_with fail
    refine hK.out _ _ ⟨HY.out.six, HX.out.c 1 (by simp)⟩ (fun hHeld => ?_)
    clear hK K
    try simp only [Act.put, List.setIfInBounds_toArray, List.set_cons_zero, List.set_cons_succ]
    refine wpAnyH_take (i := 15) (oi := { dst := some 44, op := Op.binOp BinOp.neq 3 (Operand.tmp 43) (Operand.const (Value.int IntKind.i64 512)) 3, type := 4, pos := "outright.go:56", after := #[{ on := 14, ground := Ground.data }, { on := 12, ground := Ground.guard }], guard := some (12, false) }) (v := ?_) rfl (by kernel_rfl) (by kernel_rfl) (by kernel_rfl) (fun _ _ _ h => h) (Or.inl ⟨by rfl, ?_⟩) (by assumption) ?_
    rotate_left 1
    · intro w hSw; (try dsimp only at hSw); go_simp; try (with_reducible rfl)
    try simp only [Act.put, List.setIfInBounds_toArray, List.set_cons_zero, List.set_cons_succ]
    refine wpAnyH_take (i := 16) (oi := { dst := some 45, op := Op.pick (Operand.tmp 41) (Operand.const (Value.bool true)) (Operand.tmp 44), type := 4, pos := "outright.go:56", after := #[{ on := 12, ground := Ground.data }, { on := 15, ground := Ground.data }], guard := none }) (v := ?_) rfl (by kernel_rfl) (by kernel_rfl) (by kernel_rfl) (fun _ _ _ h => h) (Or.inl ⟨by rfl, ?_⟩) (by assumption) ?_
    rotate_left 1
    · intro w hSw; (try dsimp only at hSw); go_simp; try (with_reducible rfl)
    try simp only [Act.put, List.setIfInBounds_toArray, List.set_cons_zero, List.set_cons_succ]
    refine wpAnyH_take (i := 17) (oi := { dst := some 46, op := Op.move (Operand.tmp 45), type := 4, pos := "outright.go:56", after := #[{ on := 16, ground := Ground.data }, { on := 14, ground := Ground.chain }], guard := none }) (v := ?_) rfl (by kernel_rfl) (by kernel_rfl) (by kernel_rfl) (fun _ _ _ h => h) (Or.inl ⟨by rfl, ?_⟩) (by assumption) ?_
    rotate_left 1
    · intro w hSw; (try dsimp only at hSw); go_simp; try (with_reducible rfl)
    try simp only [Act.put, List.setIfInBounds_toArray, List.set_cons_zero, List.set_cons_succ]
    refine wpAnyH_take (i := 18) (oi := { dst := some 47, op := Op.load 25 (Operand.tmp 4), type := 25, pos := "outright.go:56", after := #[{ on := 17, ground := Ground.guard }], guard := some (17, false) }) (v := ?_) rfl (by kernel_rfl) (by kernel_rfl) (by kernel_rfl) (fun _ _ _ h => h) (Or.inl ⟨by rfl, ?_⟩) (by assumption) ?_
    rotate_left 1
    · intro w hSw; (try dsimp only at hSw); go_simp; try (with_reducible rfl)
    try simp only [Act.put, List.setIfInBounds_toArray, List.set_cons_zero, List.set_cons_succ]
    refine wpAnyH_take (i := 20) (oi := { dst := some 49, op := Op.fieldAddr 25 (Operand.tmp 1) 1, type := 0, pos := "outright.go:56", after := #[{ on := 17, ground := Ground.guard }], guard := some (17, false) }) (v := ?_) rfl (by kernel_rfl) (by kernel_rfl) (by kernel_rfl) (fun _ _ _ h => h) (Or.inl ⟨by rfl, ?_⟩) (by assumption) ?_
    rotate_left 1
    · intro w hSw; (try dsimp only at hSw); go_simp; try (with_reducible rfl)
    try simp only [Act.put, List.setIfInBounds_toArray, List.set_cons_zero, List.set_cons_succ]
    refine wpAnyH_take (i := 21) (oi := { dst := some 50, op := Op.load 3 (Operand.tmp 49), type := 3, pos := "outright.go:56", after := #[{ on := 20, ground := Ground.data }, { on := 17, ground := Ground.guard }], guard := some (17, false) }) (v := ?_) rfl (by kernel_rfl) (by kernel_rfl) (by kernel_rfl) (fun _ _ _ h => h) (Or.inl ⟨by rfl, ?_⟩) (by assumption) ?_
    rotate_left 1
    · intro w hSw; (try dsimp only at hSw); go_simp; try (with_reducible rfl)
    try simp only [Act.put, List.setIfInBounds_toArray, List.set_cons_zero, List.set_cons_succ]
    refine wpAnyH_ready (rs := [19]) (by kernel_rfl) (by simp) ?_
    refine AllReadyH.cons (o := { dst := some 48, op := Op.call { callee := Callee.value (Operand.func 15), args := #[Operand.tmp 47], argTypes := #[25] }, type := 3, pos := "outright.go:56", after := #[{ on := 18, ground := Ground.data }, { on := 17, ground := Ground.chain }, { on := 17, ground := Ground.guard }], guard := some (17, false) }) rfl (fun K hK => ?_) (AllReadyH.nil)
    go_simp
    refine ((show Calls _ _ _ _ (Tells _ (.int .i64 (f0 % 16))) by have h := code_any HMY.out (Nat.le_refl _) HMX.out; rw [HCO.out] at h; exact h)).mono ?_; rintro e w10 ⟨rfl, hb⟩
    replace HB := Lib.hid (bel_call HB.out hb)
    replace HX := Lib.hid (HX.out.below (by simp) hb)
    replace HM := Lib.hid (HM.out.later hb)
    replace HY := Lib.hid (HY.out.below (by simp) hb)
    replace HMY := Lib.hid (HMY.out.later hb)
    clear hb
    try go_wp2_with fail
    refine hK.out _ _ ⟨HY.out.six, HX.out.c 1 (by simp)⟩ (fun hHeld => ?_)
    clear hK K
    try simp only [Act.put, List.setIfInBounds_toArray, List.set_cons_zero, List.set_cons_succ]
    refine wpAnyH_ready (rs := [22]) (by kernel_rfl) (by simp) ?_
    refine AllReadyH.cons (o := { dst := some 51, op := Op.call { callee := Callee.value (Operand.func 28), args := #[Operand.tmp 50], argTypes := #[3] }, type := 3, pos := "outright.go:56", after := #[{ on := 21, ground := Ground.data }, { on := 19, ground := Ground.chain }, { on := 17, ground := Ground.guard }], guard := some (17, false) }) rfl (fun K hK => ?_) (AllReadyH.nil)
    go_simp
    refine (HMC.out _).mono ?_; rintro e w11 ⟨rfl, rfl⟩
    try go_wp2_with fail
    refine hK.out _ _ ⟨HY.out.six, HX.out.c 1 (by simp)⟩ (fun hHeld => ?_)
    clear hK K
    try simp only [Act.put, List.setIfInBounds_toArray, List.set_cons_zero, List.set_cons_succ]
    refine wpAnyH_take (i := 23) (oi := { dst := some 52, op := Op.binOp BinOp.neq 3 (Operand.tmp 48) (Operand.tmp 51) 3, type := 4, pos := "outright.go:56", after := #[{ on := 19, ground := Ground.data }, { on := 22, ground := Ground.data }, { on := 17, ground := Ground.guard }], guard := some (17, false) }) (v := ?_) rfl (by kernel_rfl) (by kernel_rfl) (by kernel_rfl) (fun _ _ _ h => h) (Or.inl ⟨by rfl, ?_⟩) (by assumption) ?_
    rotate_left 1
    · intro w hSw; (try dsimp only at hSw); go_simp; try (with_reducible rfl)
    try simp only [Act.put, List.setIfInBounds_toArray, List.set_cons_zero, List.set_cons_succ]
    refine wpAnyH_take (i := 24) (oi := { dst := some 53, op := Op.pick (Operand.tmp 46) (Operand.const (Value.bool true)) (Operand.tmp 52), type := 4, pos := "outright.go:56", after := #[{ on := 17, ground := Ground.data }, { on := 23, ground := Ground.data }], guard := none }) (v := ?_) rfl (by kernel_rfl) (by kernel_rfl) (by kernel_rfl) (fun _ _ _ h => h) (Or.inl ⟨by rfl, ?_⟩) (by assumption) ?_
    rotate_left 1
    · intro w hSw; (try dsimp only at hSw); go_simp; try (with_reducible rfl)
    try simp only [Act.put, List.setIfInBounds_toArray, List.set_cons_zero, List.set_cons_succ]
    refine wpAnyH_done (by kernel_rfl) ?_ _
    clear hHeld
    obtain ⟨y0, y1, y2, y3, y4, y5⟩ := HY.out.six
    obtain ⟨c0, c1, c2, c3, c4, c5⟩ := HX.out.six
    cases is with
    | true =>
      go_wp2_with fail
      go_ret
      exact ⟨rfl, by first | exact HB.out | (rw [hN]; exact HB.out)⟩
    | false =>
      by_cases her : er = 0
      · subst her
        have hXm := HNON.out rfl rfl
        subst hXm
        have HSM := Lib.hid (sameM_yes HMY.out HM.out (Nat.le_refl _) (Nat.le_refl _))
        go_wp2_with fail
        refine HSM.out.mono ?_; rintro e w6 ⟨rfl, hb⟩
        replace HB := Lib.hid (bel_call HB.out hb)
        clear hb
        go_wp2_with fail
        go_ret
        exact ⟨rfl, by first | exact HB.out | (rw [hN]; exact HB.out)⟩
      · have t1 : (er != 0) = true := by simpa using her
        go_wp2_with fail
        go_ret
        exact ⟨rfl, by first | exact HB.out | (rw [hN]; exact HB.out)⟩
end Go.Proofs.Ytcjgbholgbjejaa

/-
  Messages that came in.
-/
namespace Go.Proofs.Ytcjgbholgbjejaa
open Go.RowKit Go.Shelf
set_option linter.unusedVariables false
set_option linter.unusedSimpArgs false
set_option maxRecDepth 100000

theorem flat_of {α : Type} {f : α → List Value} {k : Nat} (hf : ∀ x, (f x).length = k) : ∀ (l : List α) (i : Nat) (u : Value), (l.flatMap f)[i]? = some u → ∃ j r, ∃ h : j < l.length, i = j * k + r ∧ (f l[j])[r]? = some u
  | [], i, u, h => by simp at h
  | x :: l, i, u, h => by
    rw [List.flatMap_cons] at h
    by_cases hi : i < k
    · rw [List.getElem?_append_left (by rw [hf]; exact hi)] at h
      exact ⟨0, i, by simp, by omega, h⟩
    · rw [List.getElem?_append_right (by rw [hf]; omega), hf] at h
      obtain ⟨j, r, h1, h2, h3⟩ := flat_of hf l _ u h
      exact ⟨j + 1, r, by simpa using h1, by rw [Nat.add_mul]; omega, h3⟩

/-- What is known of a slice of questions, of records that came in. -/
def IsQs (w : World) (a : Option Addr) (len cap : Nat) : Prop :=
  (a = none ∧ len = 0 ∧ cap = 0) ∨ ∃ x, a = some x ∧ ∀ i, i < len → ∃ (s : ByteArray) (t c : Int), w.cell? (x.add (i * 3)) = some (.string s) ∧ w.cell? (x.add (i * 3 + 1)) = some (.int .i64 t) ∧ w.cell? (x.add (i * 3 + 2)) = some (.int .i64 c)
def IsRs (w : World) (a : Option Addr) (len cap : Nat) : Prop :=
  (a = none ∧ len = 0 ∧ cap = 0) ∨ ∃ x, a = some x ∧ ∀ i, i < len → ∃ (s : ByteArray) (t c l : Int) (d : ByteArray), w.cell? (x.add (i * 5)) = some (.string s) ∧ w.cell? (x.add (i * 5 + 1)) = some (.int .i64 t) ∧ w.cell? (x.add (i * 5 + 2)) = some (.int .i64 c) ∧ w.cell? (x.add (i * 5 + 3)) = some (.int .i64 l) ∧ w.cell? (x.add (i * 5 + 4)) = some (.string d)

theorem cells_qn : Try.prog.cellsOf 50 = 3 := by kernel_rfl
theorem cells_msg : Try.prog.cellsOf 25 = 6 := by kernel_rfl
theorem cells_sqn : Try.prog.cellsOf 22 = 1 := by kernel_rfl
theorem cells_src : Try.prog.cellsOf 23 = 1 := by kernel_rfl
theorem bytes_qn : Try.prog.bytesOf 50 = 32 := by kernel_rfl
theorem bytes_rc : Try.prog.bytesOf 48 = 56 := by kernel_rfl

theorem open_qn {H : Type} {enc : TypeId × Value → H} {w : World} {base fuel : Nat} {spare : Nat → Bool} {held : Bool} {cs : List Value} {x : DataW H × List MemPlace}
    (h : DataW.trod enc Try.prog w base spare held fuel 50 cs = some x) (hl : cs.length = 3) : ∃ (s : ByteArray) (t c : Int), cs = [.string s, .int .i64 t, .int .i64 c] := by
  cases fuel with
  | zero => simp [DataW.trod] at h
  | succ fuel =>
    obtain ⟨xs, k, _, _, _, h9, h10⟩ := DataW.trod_struct Try.underlying50 h
    match cs, hl with
    | [v0, v1, v2], _ =>
      have g0 := h10 0 _ rfl
      have g1 := h10 1 _ rfl
      have g2 := h10 2 _ rfl
      match xs, h9 with
      | [y0, y1, y2], _ =>
        simp [cellsC_str, cellsC_int] at g0 g1 g2
        obtain ⟨s, k0, _, _⟩ := DataW.trod_string Try.underlying9 g0
        obtain ⟨t, k1, _, _⟩ := DataW.trod_int Try.underlying3 g1
        obtain ⟨c, k2, _, _⟩ := DataW.trod_int Try.underlying3 g2
        injection k0 with k0 _
        injection k1 with k1 _
        injection k2 with k2 _
        subst k0; subst k1; subst k2
        exact ⟨s, t, c, rfl⟩

theorem open_qs {H : Type} {enc : TypeId × Value → H} {w : World} {base fuel : Nat} {spare : Nat → Bool} {held : Bool} {cs : List Value} {x : DataW H × List MemPlace}
    (h : DataW.trod enc Try.prog w base spare held fuel 22 cs = some x) (hw : ∀ n ∈ x.1.weights Try.prog 22, n ≤ reachBytes) :
    ∃ a len cap, cs = [.slice a len cap] ∧ IsQs w a len cap ∧ len ≤ 140737488351232 := by
  rcases Deep.open_slice Try.underlying22 h with ⟨h1, _⟩ | ⟨b, l, c, m, n, D, Pl, h1, _, h2, _, h3, h5, h4⟩
  · exact ⟨none, 0, 0, h1, .inl ⟨rfl, rfl, rfl⟩, by omega⟩
  · have hm : l ≤ m := by rw [h3]; split <;> omega
    refine ⟨some b, l, c, h1, .inr ⟨b, rfl, fun i hi => ?_⟩, ?_⟩
    · obtain ⟨cs', h6, h7⟩ := h4 i (by omega)
      rw [cells_qn] at h6
      obtain ⟨_, h8, h9⟩ := World.cells?_some h6
      obtain ⟨s, t, c, rfl⟩ := open_qn h7 h8
      have c0 := h9 0 (by omega)
      have c1 := h9 1 (by omega)
      have c2 := h9 2 (by omega)
      rw [Deep.add_add] at c0 c1 c2
      exact ⟨s, t, c, by simpa using c0, by simpa using c1, by simpa using c2⟩
    · have := hw ((l + (m - l)) * 32) (by rw [h5]; simp [DataW.weights, Try.underlying22, bytes_qn])
      unfold reachBytes at this
      omega
theorem open_rs {H : Type} {enc : TypeId × Value → H} {w : World} {base fuel : Nat} {spare : Nat → Bool} {held : Bool} {cs : List Value} {x : DataW H × List MemPlace}
    (h : DataW.trod enc Try.prog w base spare held fuel 23 cs = some x) (hw : ∀ n ∈ x.1.weights Try.prog 23, n ≤ reachBytes) :
    ∃ a len cap, cs = [.slice a len cap] ∧ IsRs w a len cap ∧ len ≤ 140737488351232 := by
  rcases Deep.open_slice Try.underlying23 h with ⟨h1, _⟩ | ⟨b, l, c, m, n, D, Pl, h1, _, h2, _, h3, h5, h4⟩
  · exact ⟨none, 0, 0, h1, .inl ⟨rfl, rfl, rfl⟩, by omega⟩
  · have hm : l ≤ m := by rw [h3]; split <;> omega
    refine ⟨some b, l, c, h1, .inr ⟨b, rfl, fun i hi => ?_⟩, ?_⟩
    · obtain ⟨cs', h6, h7⟩ := h4 i (by omega)
      rw [cells_rec] at h6
      obtain ⟨_, h8, h9⟩ := World.cells?_some h6
      obtain ⟨s, t, c, tl, d, rfl⟩ := open_rec h7 h8
      have c0 := h9 0 (by omega)
      have c1 := h9 1 (by omega)
      have c2 := h9 2 (by omega)
      have c3 := h9 3 (by omega)
      have c4 := h9 4 (by omega)
      rw [Deep.add_add] at c0 c1 c2 c3 c4
      exact ⟨s, t, c, tl, d, by simpa using c0, by simpa using c1, by simpa using c2, by simpa using c3, by simpa using c4⟩
    · have := hw ((l + (m - l)) * 56) (by rw [h5]; simp [DataW.weights, Try.underlying23, bytes_rc])
      unfold reachBytes at this
      omega

/-- Such slices as questions, as records. -/
theorem qs_of {w : World} {a : Option Addr} {len cap : Nat} (h : IsQs w a len cap) (hl : len ≤ 140737488351232) : ∃ l : List Qn, SQ w w.heap.size (.slice a len cap) l := by
  rcases h with ⟨rfl, rfl, rfl⟩ | ⟨x, rfl, hx⟩
  · exact ⟨[], Lst.nil _ _⟩
  · have hch : ∀ n, n ≤ len → ∃ l : List Qn, l.length = n ∧ ∀ i (h : i < l.length), w.cell? (x.add (i * 3)) = some (.string (bs l[i].n)) ∧ w.cell? (x.add (i * 3 + 1)) = some (.int .i64 l[i].t) ∧ w.cell? (x.add (i * 3 + 2)) = some (.int .i64 l[i].c) := by
      intro n
      induction n with
      | zero => intro _; exact ⟨[], rfl, fun i h => by simp at h⟩
      | succ n ih =>
        intro hn
        obtain ⟨l, h1, h2⟩ := ih (by omega)
        obtain ⟨s, t, c, c0, c1, c2⟩ := hx n (by omega)
        refine ⟨l ++ [⟨s.data.toList, t, c⟩], by simp [h1], fun i hi => ?_⟩
        rw [List.length_append, List.length_singleton] at hi
        by_cases e : i < l.length
        · rw [List.getElem_append_left e]; exact h2 i e
        · have : i = l.length := by omega
          subst this
          rw [List.getElem_append_right (Nat.le_refl _)]
          simp only [Nat.sub_self, List.getElem_cons_zero]
          rw [h1, ← bs_eta]
          exact ⟨c0, c1, c2⟩
    obtain ⟨l, h1, h2⟩ := hch len (Nat.le_refl _)
    refine ⟨l, some x, cap, by rw [h1], by omega, fun h => by simp at h, fun h0 => ?_⟩
    obtain ⟨b, off, spot⟩ := x
    have c0 := (h2 0 h0).1
    have hspot : spot = none := by simpa [Addr.add] using World.cell?_spot c0
    subst hspot
    have hlt : b < w.heap.size := by
      rw [WideShapes.add_plain] at c0
      exact World.block_lt_of_cell? w _ c0
    refine ⟨b, off, rfl, hlt, fun i u hu => ?_⟩
    obtain ⟨j, r, hj, rfl, hr⟩ := flat_of (f := cq) (k := 3) (fun _ => rfl) l i u hu
    obtain ⟨c0, c1, c2⟩ := h2 j hj
    rw [WideShapes.add_plain] at c0 c1 c2
    match r, hr with
    | 0, hr => simp [cq] at hr; subst hr; exact c0
    | 1, hr => simp [cq] at hr; subst hr; exact c1
    | 2, hr => simp [cq] at hr; subst hr; exact c2
    | r + 3, hr => simp [cq] at hr
theorem rs_of {w : World} {a : Option Addr} {len cap : Nat} (h : IsRs w a len cap) (hl : len ≤ 140737488351232) : ∃ l : List Rc, SR w w.heap.size (.slice a len cap) l := by
  rcases h with ⟨rfl, rfl, rfl⟩ | ⟨x, rfl, hx⟩
  · exact ⟨[], Lst.nil _ _⟩
  · have hch : ∀ n, n ≤ len → ∃ l : List Rc, l.length = n ∧ ∀ i (h : i < l.length), w.cell? (x.add (i * 5)) = some (.string (bs l[i].n)) ∧ w.cell? (x.add (i * 5 + 1)) = some (.int .i64 l[i].t) ∧ w.cell? (x.add (i * 5 + 2)) = some (.int .i64 l[i].c) ∧ w.cell? (x.add (i * 5 + 3)) = some (.int .i64 l[i].l) ∧ w.cell? (x.add (i * 5 + 4)) = some (.string (bs l[i].d)) := by
      intro n
      induction n with
      | zero => intro _; exact ⟨[], rfl, fun i h => by simp at h⟩
      | succ n ih =>
        intro hn
        obtain ⟨l, h1, h2⟩ := ih (by omega)
        obtain ⟨s, t, c, tl, d, c0, c1, c2, c3, c4⟩ := hx n (by omega)
        refine ⟨l ++ [⟨s.data.toList, t, c, tl, d.data.toList⟩], by simp [h1], fun i hi => ?_⟩
        rw [List.length_append, List.length_singleton] at hi
        by_cases e : i < l.length
        · rw [List.getElem_append_left e]; exact h2 i e
        · have : i = l.length := by omega
          subst this
          rw [List.getElem_append_right (Nat.le_refl _)]
          simp only [Nat.sub_self, List.getElem_cons_zero]
          rw [h1, ← bs_eta, ← bs_eta]
          exact ⟨c0, c1, c2, c3, c4⟩
    obtain ⟨l, h1, h2⟩ := hch len (Nat.le_refl _)
    refine ⟨l, some x, cap, by rw [h1], by omega, fun h => by simp at h, fun h0 => ?_⟩
    obtain ⟨b, off, spot⟩ := x
    have c0 := (h2 0 h0).1
    have hspot : spot = none := by simpa [Addr.add] using World.cell?_spot c0
    subst hspot
    have hlt : b < w.heap.size := by
      rw [WideShapes.add_plain] at c0
      exact World.block_lt_of_cell? w _ c0
    refine ⟨b, off, rfl, hlt, fun i u hu => ?_⟩
    obtain ⟨j, r, hj, rfl, hr⟩ := flat_of (f := cr) (k := 5) (fun _ => rfl) l i u hu
    obtain ⟨c0, c1, c2, c3, c4⟩ := h2 j hj
    rw [WideShapes.add_plain] at c0 c1 c2 c3 c4
    match r, hr with
    | 0, hr => simp [cr] at hr; subst hr; exact c0
    | 1, hr => simp [cr] at hr; subst hr; exact c1
    | 2, hr => simp [cr] at hr; subst hr; exact c2
    | 3, hr => simp [cr] at hr; subst hr; exact c3
    | 4, hr => simp [cr] at hr; subst hr; exact c4
    | r + 5, hr => simp [cr] at hr

/-- A message that came in reads as one. -/
theorem open_msg {H : Type} {enc : TypeId × Value → H} {w : World} {base fuel : Nat} {spare : Nat → Bool} {held : Bool} {cs : Array Value} {x : DataW H × List MemPlace}
    (h : DataW.trod enc Try.prog w base spare held fuel 25 cs.toList = some x) (hl : cs.size = 6) (hw : ∀ n ∈ x.1.weights Try.prog 25, n ≤ reachBytes) : ∃ m : Ms, Mg w w.heap.size (.agg cs) m := by
  obtain ⟨cs⟩ := cs
  simp only [List.size_toArray] at hl
  cases fuel with
  | zero => simp [DataW.trod] at h
  | succ fuel =>
    obtain ⟨xs, k, _, h8, _, h9, h10⟩ := DataW.trod_struct Try.underlying25 h
    match cs, hl with
    | [v0, v1, v2, v3, v4, v5], _ =>
      have g0 := h10 0 _ rfl
      have g1 := h10 1 _ rfl
      have g2 := h10 2 _ rfl
      have g3 := h10 3 _ rfl
      have g4 := h10 4 _ rfl
      have g5 := h10 5 _ rfl
      match xs, h9 with
      | [y0, y1, y2, y3, y4, y5], _ =>
        simp [cellsC_int, cells_sqn, cells_src] at g0 g1 g2 g3 g4 g5
        have hw2 : ∀ n, (n ∈ y2.1.weights Try.prog 22 ∨ n ∈ y3.1.weights Try.prog 23 ∨ n ∈ y4.1.weights Try.prog 23 ∨ n ∈ y5.1.weights Try.prog 23) → n ≤ reachBytes := fun n hn => hw n (by
          rw [h8]
          simp only [List.map_cons, List.map_nil, DataW.weights, Try.underlying25, List.toList_toArray, DataW.weightsEach, List.mem_append, List.not_mem_nil, or_false]
          rcases hn with h | h | h | h <;> simp [h])
        obtain ⟨i, k0, _, _⟩ := DataW.trod_int Try.underlying3 g0
        obtain ⟨f, k1, _, _⟩ := DataW.trod_int Try.underlying3 g1
        obtain ⟨qa, ql, qc, k2, q1, q2⟩ := open_qs g2 (fun n hn => hw2 n (.inl hn))
        obtain ⟨aa, al, ac, k3, a1, a2⟩ := open_rs g3 (fun n hn => hw2 n (.inr (.inl hn)))
        obtain ⟨na, nl, nc, k4, n1, n2⟩ := open_rs g4 (fun n hn => hw2 n (.inr (.inr (.inl hn))))
        obtain ⟨ra, rl, rc, k5, r1, r2⟩ := open_rs g5 (fun n hn => hw2 n (.inr (.inr (.inr hn))))
        injection k0 with k0 _
        injection k1 with k1 _
        injection k2 with k2 _
        injection k3 with k3 _
        injection k4 with k4 _
        injection k5 with k5 _
        subst k0; subst k1; subst k2; subst k3; subst k4; subst k5
        obtain ⟨lq, h1⟩ := qs_of q1 q2
        obtain ⟨la, h2⟩ := rs_of a1 a2
        obtain ⟨ln, h3⟩ := rs_of n1 n2
        obtain ⟨lr, h4⟩ := rs_of r1 r2
        exact ⟨⟨i, f, lq, la, ln, lr⟩, _, _, _, _, rfl, h1, h2, h3, h4⟩
end Go.Proofs.Ytcjgbholgbjejaa
