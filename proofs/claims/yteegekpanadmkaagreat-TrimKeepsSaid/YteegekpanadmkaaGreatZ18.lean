/-
  What is told has at most as many bytes as it may, and says what it leaves out: TrimKeeps.
-/
import Derived.Test.YteegekpanadmkaaGreatZ17
import Derived.Test.YteegekpanadmkaaGreatZ13
import Derived.Deep.CutRange
namespace Go.Proofs.YteegekpanadmkaaGreat
open Go.RowKit Go.Shelf
set_option linter.unusedVariables false
set_option linter.unusedSimpArgs false
set_option maxRecDepth 100000

/-- How many are left of each kind. -/
theorem left_parts {A D lq la ln lr F kq ka kn kk ko : Nat} (n1 : D - (F - (A + ln + la)) = ko) (n3 : kq = lq - (F - (A + ln + la + D))) (n4 : ka = la - (F - (A + ln))) (n5 : kn = ln - (F - A)) (n7 : F ≤ lq + la + ln + lr) (n8 : A - F = kk) (n9 : A + D = lr) :
    (F ≤ A ∧ kk + F = A ∧ kn = ln ∧ ka = la ∧ ko = D ∧ kq = lq) ∨ (A < F ∧ F ≤ A + ln ∧ kk = 0 ∧ kn + F = A + ln ∧ ka = la ∧ ko = D ∧ kq = lq) ∨
    (A + ln < F ∧ F ≤ A + ln + la ∧ kk = 0 ∧ kn = 0 ∧ ka + F = A + ln + la ∧ ko = D ∧ kq = lq) ∨ (A + ln + la < F ∧ F ≤ A + ln + la + D ∧ kk = 0 ∧ kn = 0 ∧ ka = 0 ∧ ko + F = A + ln + la + D ∧ kq = lq) ∨
    (A + ln + la + D < F ∧ kk = 0 ∧ kn = 0 ∧ ka = 0 ∧ ko = 0 ∧ kq + F = A + ln + la + D + lq) := by
  subst n1 n3 n4 n5 n8 n9
  rcases Nat.lt_or_ge A F with h | h
  · rcases Nat.lt_or_ge (A + ln) F with h2 | h2
    · rcases Nat.lt_or_ge (A + ln + la) F with h3 | h3
      · rcases Nat.lt_or_ge (A + ln + la + D) F with h4 | h4
        · exact .inr (.inr (.inr (.inr ⟨h4, by omega, by omega, by omega, by omega, by omega⟩)))
        · exact .inr (.inr (.inr (.inl ⟨h3, h4, by omega, by omega, by omega, by omega, by omega⟩)))
      · exact .inr (.inr (.inl ⟨h2, h3, by omega, by omega, by omega, by omega, by omega⟩))
    · exact .inr (.inl ⟨h, h2, by omega, by omega, by omega, by omega, by omega⟩)
  · exact .inl ⟨h, by omega, by omega, by omega, by omega, by omega⟩

set_option maxHeartbeats 16000000 in
theorem keeps10_any {w : World} {u : Value} {m : Ms} (p0 : Int) (h : Mg w w.heap.size u m) (hcap : CapM u) : Calls Tryz.prog 4 #[u, .int .i64 p0] w (Tells w (.bool true)) := by
  have HAw := Lib.hid (fun wx => awake10_any wx)
  obtain ⟨q, a, n, r, rfl, hq, ha, hn, hr⟩ := h
  obtain ⟨qa, qc, rfl⟩ := Lst.shape hq
  obtain ⟨aa, ac, rfl⟩ := Lst.shape ha
  obtain ⟨na, nc, rfl⟩ := Lst.shape hn
  obtain ⟨ra, rc, rfl⟩ := Lst.shape hr
  have hcc : m.q.length ≤ qc ∧ m.an.length ≤ ac ∧ m.ns.length ≤ nc ∧ m.ar.length ≤ rc := by
    obtain ⟨_, _, _, _, _, _, _, _, _, _, _, _, _, _, he, h1, h2, h3, h4⟩ := hcap
    injection he with he
    simp only [Array.mk.injEq, List.cons.injEq, and_true] at he
    obtain ⟨_, _, e3, e4, e5, e6⟩ := he
    injection e3 with _ e31 e32
    injection e4 with _ e41 e42
    injection e5 with _ e51 e52
    injection e6 with _ e61 e62
    omega
  have hm : Mg w w.heap.size (.agg #[.int .i64 m.id, .int .i64 m.fl, .slice qa m.q.length qc, .slice aa m.an.length ac, .slice na m.ns.length nc, .slice ra m.ar.length rc]) m := ⟨_, _, _, _, rfl, hq, ha, hn, hr⟩
  obtain ⟨i0, hi0⟩ : ∃ i, m.id = i := ⟨_, rfl⟩
  obtain ⟨f0, hf0⟩ : ∃ i, m.fl = i := ⟨_, rfl⟩
  obtain ⟨lq, hlq⟩ : ∃ i, m.q.length = i := ⟨_, rfl⟩
  obtain ⟨la, hla⟩ : ∃ i, m.an.length = i := ⟨_, rfl⟩
  obtain ⟨ln, hln⟩ : ∃ i, m.ns.length = i := ⟨_, rfl⟩
  obtain ⟨lr, hlr⟩ : ∃ i, m.ar.length = i := ⟨_, rfl⟩
  obtain ⟨R, hR⟩ : ∃ r, bigMs 60 3000 m = r := ⟨_, rfl⟩
  obtain ⟨E, hEE⟩ : ∃ E, chkM m = E := ⟨_, rfl⟩
  rw [hi0, hf0, hlq, hla, hln, hlr] at hm ⊢
  rw [hlq, hla, hln, hlr] at hcc
  obtain ⟨N, hN⟩ : ∃ N, w.heap.size = N := ⟨_, rfl⟩
  obtain ⟨W1, hW1⟩ : ∃ X, w.alloc (.cells #[.int .i64 i0, .int .i64 f0, .slice qa lq qc, .slice aa la ac, .slice na ln nc, .slice ra lr rc] 25) = X := ⟨_, rfl⟩
  have hb1 : Below w.heap.size w W1 := by rw [← hW1]; exact (Below.refl _ _).alloc (Nat.le_refl _) _
  have hx := cel_new6 w (.int .i64 i0) (.int .i64 f0) (.slice qa lq qc) (.slice aa la ac) (.slice na ln nc) (.slice ra lr rc) 25
  rw [hN, hW1] at hx
  have HM := Lib.hid (And.intro (hm.later hb1) (And.intro hx hb1))
  have HV := Lib.hid (And.intro hi0 (And.intro hf0 (And.intro hlq (And.intro hla (And.intro hln (And.intro hlr (And.intro hcc hN)))))))
  have HRE := Lib.hid (And.intro hR hEE)
  clear hm hq ha hn hr hi0 hf0 hlq hla hln hlr hb1 hx hcap hcc hR hEE
  go_enter Tryz.func4, Tryz.ntmps4
  go_wp2_with fail
  clear hW1 hN
  refine (HAw.out W1).mono ?_; rintro e w2 ⟨rfl, hb⟩
  have hx2 := HM.out.2.1.below (by simp) hb
  have HB2 := Lib.hid (And.intro (HM.out.1.later hb) (And.intro hx2 (HM.out.2.2.trans (hb.mono HM.out.2.2.size))))
  obtain ⟨x0, x1, x2, x3, x4, x5⟩ := hx2.six
  have HBG := Lib.hid (big10_any HB2.out.1)
  rw [HRE.out.1] at HBG
  clear hb hx2 HM
  go_wp2_with fail
  refine HBG.out.mono ?_; rintro e w3 ⟨rfl, hb⟩
  have hx2 := HB2.out.2.1.below (by simp) hb
  have HB3 := Lib.hid (And.intro (HB2.out.1.later hb) (And.intro hx2 (HB2.out.2.2.trans (hb.mono HB2.out.2.2.size))))
  clear x0 x1 x2 x3 x4 x5
  obtain ⟨x0, x1, x2, x3, x4, x5⟩ := hx2.six
  clear hb hx2 HB2
  rcases R with _ | _
  · have HCK := Lib.hid (checkM_any HB3.out.1 (Nat.le_refl _) (big_fine (by decide) HRE.out.1))
    rw [HRE.out.2] at HCK
    go_wp2_with fail
    refine HCK.out.mono ?_; rintro e w4 ⟨rfl, hb⟩
    have hx2 := HB3.out.2.1.below (by simp) hb
    have HB4 := Lib.hid (And.intro (HB3.out.1.later hb) (And.intro hx2 (HB3.out.2.2.trans (hb.mono HB3.out.2.2.size))))
    clear x0 x1 x2 x3 x4 x5
    obtain ⟨x0, x1, x2, x3, x4, x5⟩ := hx2.six
    clear hb hx2 HB3 HCK HBG
    by_cases hE : E = 0
    · subst hE
      have HPK := Lib.hid (pick_any p0 65524 w4 (by decide) (by decide))
      go_wp2_with fail
      refine HPK.out.mono ?_; rintro e w5 ⟨k, hk, rfl, rfl⟩
      obtain ⟨S, hS⟩ : ∃ S, 12 + k = S := ⟨_, rfl⟩
      have hSw : IntKind.i64.wrap (12 + (k : Int)) = (S : Int) := by rw [IntWalk.i64_in _ (by omega)]; omega
      have hSp : 12 + (k : Int) = (S : Int) := by omega
      have hS2 : S ≤ 65535 := by omega
      have hS1 : 12 ≤ S := by omega
      have HFT := Lib.hid (fit_any HB4.out.1 (Nat.le_refl _) (big_fine (by decide) HRE.out.1) (by have := (bigMs_no HRE.out.1).1; unfold totM; omega) (S : Int))
      clear hS hk HPK
      obtain ⟨hF1, hF2, _⟩ := fitN_facts (m := m) HRE.out.2 (size := (S : Int)) (by omega)
      have hfa : fitA m (S : Int) = ((wrM (mcut m (fitN m S))).1, fitN m S, 0) := by unfold fitA; rw [HRE.out.2, if_neg (by simp), if_neg (by omega)]
      obtain ⟨F, hF⟩ : ∃ F, fitN m S = F := ⟨_, rfl⟩
      rw [hF] at hF1 hF2 hfa
      obtain ⟨z, hz, hzl⟩ := fitW_len hF1
      rw [hz] at hfa
      rw [hfa] at HFT
      obtain ⟨cm, hcm⟩ : ∃ cm, mcut m F = cm := ⟨_, rfl⟩
      rw [hcm] at hz
      have hRD := wrM_back hz
      have hFt : F ≤ 60 := by have := (bigMs_no HRE.out.1).1; unfold totM at hF2; omega
      have HCM := Lib.hid (And.intro hcm (And.intro hz hF2))
      clear hcm hz hF1 hF2 hfa hF
      go_wp2_with fail
      refine HFT.out.mono ?_; rintro e w6 ⟨v6, rfl, ho6, hb⟩
      obtain ⟨a6, c6, rfl⟩ := OwnB.shape ho6
      have hx2 := HB4.out.2.1.below (by simp) hb
      have HB6 := Lib.hid (And.intro (HB4.out.1.later hb) (And.intro hx2 (HB4.out.2.2.trans (hb.mono HB4.out.2.2.size))))
      clear x0 x1 x2 x3 x4 x5
      have HRDD := Lib.hid (readM_any (OwnB.sl ho6) (Nat.le_refl _) (by simp only [Option.getD_some]; omega))
      simp only [Option.getD_some] at HRDD
      rw [hRD] at HRDD
      have hsl : (iz z).length = z.length := iz_len z
      simp only [Option.getD_some]
      obtain ⟨L, hL⟩ : ∃ L, z.length = L := ⟨_, rfl⟩
      rw [hL] at hzl HRDD ⊢
      clear hb hx2 HB4 HFT ho6 hRD hsl hL
      go_wp2_with fail
      refine HRDD.out.mono ?_; rintro e w7 ⟨v7, rfl, hm7, hb⟩
      have hx2 := HB6.out.2.1.below (by simp) hb
      have hB7 := HB6.out.2.2.trans (hb.mono HB6.out.2.2.size)
      have hm70 := HB6.out.1.later hb
      obtain ⟨q, a, n, r, rfl, hq, ha, hn, hr⟩ := hm7
      obtain ⟨ya, yc, rfl⟩ := Lst.shape hq
      obtain ⟨ba, bc, rfl⟩ := Lst.shape ha
      obtain ⟨oa, oc, rfl⟩ := Lst.shape hn
      obtain ⟨ta, tc, rfl⟩ := Lst.shape hr
      have hm71 : Mg w7 w7.heap.size (.agg #[.int .i64 cm.id, .int .i64 cm.fl, .slice ya cm.q.length yc, .slice ba cm.an.length bc, .slice oa cm.ns.length oc, .slice ta cm.ar.length tc]) cm := ⟨_, _, _, _, rfl, hq, ha, hn, hr⟩
      have hid : cm.id = i0 := by rw [← HCM.out.1]; exact HV.out.1
      obtain ⟨f1, hf1⟩ : ∃ i, cm.fl = i := ⟨_, rfl⟩
      obtain ⟨kq, hkq⟩ : ∃ i, cm.q.length = i := ⟨_, rfl⟩
      obtain ⟨ka, hka⟩ : ∃ i, cm.an.length = i := ⟨_, rfl⟩
      obtain ⟨kn, hkn⟩ : ∃ i, cm.ns.length = i := ⟨_, rfl⟩
      obtain ⟨kr, hkr⟩ : ∃ i, cm.ar.length = i := ⟨_, rfl⟩
      rw [hid, hf1, hkq, hka, hkn, hkr] at hm71 ⊢
      obtain ⟨G, hG⟩ : ∃ G, w7.heap.size = G := ⟨_, rfl⟩
      obtain ⟨W8, hW8⟩ : ∃ X, (w7.alloc (.cells #[.int .i64 i0, .int .i64 f1, .slice ya kq yc, .slice ba ka bc, .slice oa kn oc, .slice ta kr tc] 25)).alloc (.cells #[.int .i64 0, .int .i64 0] 42) = X := ⟨_, rfl⟩
      have hb8 : Below w7.heap.size w7 W8 := by rw [← hW8]; exact ((Below.refl _ _).alloc (Nat.le_refl _) _).alloc (by simp) _
      have hy8 : Cel W8 G [.int .i64 i0, .int .i64 f1, .slice ya kq yc, .slice ba ka bc, .slice oa kn oc, .slice ta kr tc] := by
        rw [← hW8, ← hG]
        exact (cel_new6 w7 _ _ _ _ _ _ 25).below (by simp) ((Below.refl _ _).alloc (Nat.le_refl _) _)
      have hz8 : Cel W8 (G + 1) [.int .i64 0, .int .i64 0] := by
        have := cel_new2 (w7.alloc (.cells #[.int .i64 i0, .int .i64 f1, .slice ya kq yc, .slice ba ka bc, .slice oa kn oc, .slice ta kr tc] 25)) (.int .i64 0) (.int .i64 0) 42
        rwa [World.size_alloc, hG, hW8] at this
      have hx8 := hx2.below (by simp) hb8
      obtain ⟨x0, x1, x2, x3, x4, x5⟩ := hx8.six
      obtain ⟨y0, y1, y2, y3, y4, y5⟩ := hy8.six
      have z0 : W8.cell? ⟨G + 1, 0, none⟩ = some (.int .i64 0) := hz8.c 0 (by simp)
      have HB8 := Lib.hid (And.intro (hm70.later hb8) (And.intro hx8 (And.intro (hB7.trans (hb8.mono hB7.size)) (And.intro (hm71.later hb8) hy8))))
      have HK := Lib.hid (And.intro hf1 (And.intro hkq (And.intro hka (And.intro hkn hkr))))
      have tL : decide ((S : Int) < (L : Int)) = false := by simp; omega
      clear hq ha hn hr hb hx2 hB7 hm70 hm71 hb8 hy8 hz8 hx8 hf1 hkq hka hkn hkr hid HB6
      subst hW8
      go_wp2_with fail
      obtain ⟨W8, hW8⟩ : ∃ X, (w7.alloc (.cells #[.int .i64 i0, .int .i64 f1, .slice ya kq yc, .slice ba ka bc, .slice oa kn oc, .slice ta kr tc] 25)).alloc (.cells #[.int .i64 0, .int .i64 0] 42) = X := ⟨_, rfl⟩
      rw [hW8] at HB8 ⊢
      clear x0 x1 x2 x3 x4 x5 y0 y1 y2 y3 y4 y5 z0 tL hW8 hG HRDD
      have HOT := Lib.hid (fun (wx : World) (hb : Below W8.heap.size W8 wx) => (show ∃ hi, SR wx hi (.slice ra lr rc) m.ar ∧ hi ≤ wx.heap.size from by
        obtain ⟨q, a, n, r, he, _, _, _, hr⟩ := HB8.out.1.later hb
        injection he with he
        simp only [Array.mk.injEq, List.cons.injEq, and_true] at he
        obtain ⟨_, _, _, _, _, rfl⟩ := he
        exact ⟨_, hr, Nat.le_refl _⟩))
      have HO := Lib.hid (fun (wx : World) (hb : Below W8.heap.size W8 wx) => (show Calls Tryz.prog 21 #[.slice ra lr rc] wx _ from by
        obtain ⟨hi, h1, h2⟩ := HOT.out wx hb
        exact others10_any h1 h2 (by have := (bigMs_no HRE.out.1).1; omega)))
      obtain ⟨hk1, hk2, hk3⟩ := cut_kept m F
      have hAD := nA_nD m
      rw [HV.out.2.2.2.2.2.1] at hAD
      have hb0 : Below W8.heap.size W8 W8.drew := (Below.refl _ _).drew
      have HO1 := Lib.hid (HO.out _ hb0)
      have hxd := HB8.out.2.1.below (by simp) hb0
      have HX8 := Lib.hid (hxd.c 5 (by simp))
      obtain ⟨A, hA⟩ : ∃ A, nA m = A := ⟨_, rfl⟩
      obtain ⟨D, hD⟩ : ∃ D, nD m = D := ⟨_, rfl⟩
      rw [hA, hD] at hAD hk2
      rw [hA] at hk1 hk3
      have hD0 : (lr : Int) - (A : Int) = (D : Int) := by omega
      have hDw : IntKind.i64.wrap ((lr : Int) - (A : Int)) = (D : Int) := by have := (bigMs_no HRE.out.1).1; have := HV.out; rw [IntWalk.i64_in _ (by omega)]; exact hD0
      have hDk : IntKind.i64.wrap (D : Int) = (D : Int) := by have := (bigMs_no HRE.out.1).1; have := HV.out; exact IntWalk.i64_in _ (by omega)
      have HKK := Lib.hid (And.intro hk1 (And.intro hk2 (And.intro hk3 (And.intro hA hD))))
      have HAD := Lib.hid hAD
      have HBD := Lib.hid hb0
      have hlr60 : lr ≤ 60 := by have := (bigMs_no HRE.out.1).1; have := HV.out; omega
      have hA60 : A ≤ 60 := by omega
      clear hb0 hk1 hk2 hk3 hA hD hAD hxd
      go_region_held3 (fun wx => wx.cell? ⟨N, 5, none⟩ = some (.slice ra lr rc)) (first | exact HX8.out | exact HX9.out | exact HX10.out) (first | (go_at_call 21; refine HO1.out.mono ?_; rintro e0 w9 ⟨v9, rfl, ho9, hb9⟩; obtain ⟨a9, c9, rfl⟩ := row_shape ho9; rw [HKK.out.2.2.1]; have HR9 := Lib.hid ho9; have HB9 := Lib.hid (HBD.out.trans (hb9.mono HBD.out.size)); have HX9 := Lib.hid ((HB8.out.2.1.below (by simp) HB9.out).c 5 (by simp)); have HO2 := Lib.hid (HO.out _ HB9.out); clear ho9 hb9) | (go_at_call 21; refine HO2.out.mono ?_; rintro e0 w10 ⟨v10, rfl, ho10, hb10⟩; obtain ⟨a10, c10, rfl⟩ := row_shape ho10; rw [HKK.out.2.2.1]; have HR10 := Lib.hid ho10; have HR9b := Lib.hid (row_below HR9.out hb10); have HB10 := Lib.hid (HB9.out.trans (hb10.mono HB9.out.size)); have HX10 := Lib.hid ((HB8.out.2.1.below (by simp) HB10.out).c 5 (by simp)); clear ho10 hb10))
      clear HX8 HX9 HX10 HO2 HO1 HOT HB9 HR9 HBD HR10 hD0 hDw
      obtain ⟨kk, hkk⟩ : ∃ kk, A - F = kk := ⟨_, rfl⟩
      have hfl : (cm.ar.filter nO).length = kk := by rw [← HCM.out.1, HKK.out.1, List.length_take, HKK.out.2.2.1]; omega
      have HO3 := Lib.hid (show Calls Tryz.prog 21 #[.slice ta kr tc] w10 _ from by
        obtain ⟨q, a, n, r, he, _, _, _, hr⟩ := HB8.out.2.2.2.1.later HB10.out
        injection he with he
        simp only [Array.mk.injEq, List.cons.injEq, and_true] at he
        obtain ⟨_, _, _, _, _, rfl⟩ := he
        exact others10_any hr (Nat.le_refl _) (by rw [HK.out.2.2.2.2]; have := HKK.out.2.1; have := HAD.out; rw [HCM.out.1, HK.out.2.2.2.2] at *; omega))
      have y5 := (HB8.out.2.2.2.2.below (by simp) HB10.out).c 5 (by simp)
      go_wp2_with fail
      refine HO3.out.mono ?_; rintro e0 w11 ⟨v11, rfl, ho11, hb11⟩
      obtain ⟨a11, c11, rfl⟩ := row_shape ho11
      rw [hfl]
      have HR11 := Lib.hid ho11
      have HR9c := Lib.hid (row_below HR9b.out hb11)
      have HB11 := Lib.hid (HB10.out.trans (hb11.mono HB10.out.size))
      clear y5 HO3 HR9b HB10 ho11 hb11
      have HS := Lib.hid (fun (wx : World) (hb : Below w11.heap.size w11 wx) => (show wx.cell? ⟨N, 2, none⟩ = some (.slice qa lq qc) ∧ wx.cell? ⟨N, 3, none⟩ = some (.slice aa la ac) ∧ wx.cell? ⟨N, 4, none⟩ = some (.slice na ln nc) ∧ wx.cell? ⟨G, 2, none⟩ = some (.slice ya kq yc) ∧ wx.cell? ⟨G, 3, none⟩ = some (.slice ba ka bc) ∧ wx.cell? ⟨G, 4, none⟩ = some (.slice oa kn oc) ∧ wx.cell? ⟨G, 5, none⟩ = some (.slice ta kr tc) from by
        have hbb := HB11.out.trans (hb.mono HB11.out.size)
        have hx := HB8.out.2.1.below (by simp) hbb
        have hy := HB8.out.2.2.2.2.below (by simp) hbb
        exact ⟨hx.c 2 (by simp), hx.c 3 (by simp), hx.c 4 (by simp), hy.c 2 (by simp), hy.c 3 (by simp), hy.c 4 (by simp), hy.c 5 (by simp)⟩))
      have HMX := Lib.hid (fun (wx : World) (hb : Below w11.heap.size w11 wx) => (show (SQ wx wx.heap.size (.slice qa lq qc) m.q ∧ SR wx wx.heap.size (.slice aa la ac) m.an ∧ SR wx wx.heap.size (.slice na ln nc) m.ns) ∧ (SQ wx wx.heap.size (.slice ya kq yc) cm.q ∧ SR wx wx.heap.size (.slice ba ka bc) cm.an ∧ SR wx wx.heap.size (.slice oa kn oc) cm.ns) from by
        have hbb := HB11.out.trans (hb.mono HB11.out.size)
        obtain ⟨q, a, n, r, he, hq, ha, hn, hr⟩ := HB8.out.1.later hbb
        injection he with he
        simp only [Array.mk.injEq, List.cons.injEq, and_true] at he
        obtain ⟨_, _, rfl, rfl, rfl, _⟩ := he
        obtain ⟨q, a, n, r, he, hq2, ha2, hn2, hr2⟩ := HB8.out.2.2.2.1.later hbb
        injection he with he
        simp only [Array.mk.injEq, List.cons.injEq, and_true] at he
        obtain ⟨_, _, rfl, rfl, rfl, _⟩ := he
        exact ⟨⟨hq, ha, hn⟩, hq2, ha2, hn2⟩))
      have eQ : kq ≤ lq ∧ cm.q = m.q.take kq := by
        have h1 : cm.q = m.q.take (m.q.length - (F - (nA m + m.ns.length + m.an.length + nD m))) := by rw [← HCM.out.1]; rfl
        have h2 := HK.out.2.1
        rw [h1, List.length_take] at h2
        have := HV.out.2.2.1
        exact ⟨by omega, by rw [h1]; congr 1; omega⟩
      have eA : ka ≤ la ∧ cm.an = m.an.take ka := by
        have h1 : cm.an = m.an.take (m.an.length - (F - (nA m + m.ns.length))) := by rw [← HCM.out.1]; rfl
        have h2 := HK.out.2.2.1
        rw [h1, List.length_take] at h2
        have := HV.out.2.2.2.1
        exact ⟨by omega, by rw [h1]; congr 1; omega⟩
      have eN : kn ≤ ln ∧ cm.ns = m.ns.take kn := by
        have h1 : cm.ns = m.ns.take (m.ns.length - (F - nA m)) := by rw [← HCM.out.1]; rfl
        have h2 := HK.out.2.2.2.1
        rw [h1, List.length_take] at h2
        have := HV.out.2.2.2.2.1
        exact ⟨by omega, by rw [h1]; congr 1; omega⟩
      have HG1 := Lib.hid (fun (wx : World) (hb : Below w11.heap.size w11 wx) => begins_any (u := .slice ba ka bc) (k := ka) (by rw [← eA.2]; exact (HMX.out wx hb).2.2.1) (by have := HV.out.2.2.2.1; omega) HV.out.2.2.2.1 (HMX.out wx hb).1.2.1 HV.out.2.2.2.2.2.2.1.2.1 (Nat.le_refl _) (Nat.le_refl _))
      have HG2 := Lib.hid (fun (wx : World) (hb : Below w11.heap.size w11 wx) => begins_any (u := .slice oa kn oc) (k := kn) (by rw [← eN.2]; exact (HMX.out wx hb).2.2.2) (by have := HV.out.2.2.2.2.1; omega) HV.out.2.2.2.2.1 (HMX.out wx hb).1.2.2 HV.out.2.2.2.2.2.2.1.2.2.1 (Nat.le_refl _) (Nat.le_refl _))
      have hfe : cm.ar.filter nO = (m.ar.filter nO).take kk := by rw [← HCM.out.1, HKK.out.1, hkk]
      have HG3 := Lib.hid (fun (wx : World) (hb : Below w11.heap.size w11 wx) => begins_any (w := wx) (u := .slice a11 kk c11) (a := a9) (c := c9) (n := A) (l := m.ar.filter nO) (k := kk) (hi := wx.heap.size) (hi' := wx.heap.size)
        (by have h1 := Lst.own (row_below HR11.out hb) (by rw [hfl]; omega); rw [hfe] at h1; have e : ((m.ar.filter nO).take kk).length = kk := by rw [← hfe, hfl]
            rw [e] at h1; unfold SR; rw [e]; exact h1) (by rw [HKK.out.2.2.1]; omega) HKK.out.2.2.1
        (by have h1 := Lst.own (row_below HR9c.out hb) (by rw [HKK.out.2.2.1]; omega); rw [HKK.out.2.2.1] at h1; unfold SR; rw [HKK.out.2.2.1]; exact h1) (by have := row_cap HR9c.out; rw [HKK.out.2.2.1] at this; exact this) (Nat.le_refl _) (Nat.le_refl _))
      have HG4 := Lib.hid (fun (wx : World) (hb : Below w11.heap.size w11 wx) => sameQ_yes (u := .slice ya kq yc) (v := .slice qa kq qc) (HMX.out wx hb).2.1 (by rw [eQ.2]; have h1 := (HMX.out wx hb).1.1; rw [← HV.out.2.2.1] at h1; exact sq_take h1 kq (by have := HV.out.2.2.1; omega)) (Nat.le_refl _) (Nat.le_refl _))
      have hD60 : D ≤ 60 := by have := HAD.out; omega
      obtain ⟨ko, hko⟩ : ∃ ko, D - (F - (A + ln + la)) = ko := ⟨_, rfl⟩
      have hkr : kr = kk + ko := by have := HKK.out.2.1; rw [HCM.out.1, HK.out.2.2.2.2, HV.out.2.2.2.2.1, HV.out.2.2.2.1] at this; omega
      have hq0 : kq = lq - (F - (A + ln + la + D)) := by
        have h1 : cm.q = m.q.take (m.q.length - (F - (nA m + m.ns.length + m.an.length + nD m))) := by rw [← HCM.out.1]; rfl
        have h2 := HK.out.2.1
        rw [h1, List.length_take, HV.out.2.2.1, HV.out.2.2.2.1, HV.out.2.2.2.2.1, HKK.out.2.2.2.1, HKK.out.2.2.2.2] at h2
        omega
      have ha0 : ka = la - (F - (A + ln)) := by
        have h1 : cm.an = m.an.take (m.an.length - (F - (nA m + m.ns.length))) := by rw [← HCM.out.1]; rfl
        have h2 := HK.out.2.2.1
        rw [h1, List.length_take, HV.out.2.2.2.1, HV.out.2.2.2.2.1, HKK.out.2.2.2.1] at h2
        omega
      have hn0 : kn = ln - (F - A) := by
        have h1 : cm.ns = m.ns.take (m.ns.length - (F - nA m)) := by rw [← HCM.out.1]; rfl
        have h2 := HK.out.2.2.2.1
        rw [h1, List.length_take, HV.out.2.2.2.2.1, HKK.out.2.2.2.1] at h2
        omega
      have hsum : lq + la + ln + lr ≤ 60 := by have := (bigMs_no HRE.out.1).1; rw [HV.out.2.2.1, HV.out.2.2.2.1, HV.out.2.2.2.2.1, HV.out.2.2.2.2.2.1] at this; exact this
      have hF0 : F ≤ lq + la + ln + lr := by have := HCM.out.2.2; unfold totM at this; rw [HV.out.2.2.1, HV.out.2.2.2.1, HV.out.2.2.2.2.1, HV.out.2.2.2.2.2.1] at this; exact this
      have HNU := Lib.hid (And.intro hko (And.intro hkr (And.intro hq0 (And.intro ha0 (And.intro hn0 (And.intro hsum (And.intro hF0 hkk)))))))
      have hcut := cut_qn qa lq kq qc (by have := HV.out.2.2.2.2.2.2.1.1; omega)
      have t1 : decide ((lq : Int) < (kq : Int)) = false := by simp; omega
      have t1p : kq ≤ lq := by omega
      have t2p : ko ≤ D := by omega
      have t2 : decide ((D : Int) < (ko : Int)) = false := by simp; omega
      have w1 : IntKind.i64.wrap ((kr : Int) - (kk : Int)) = (ko : Int) := by rw [IntWalk.i64_in _ (by omega)]; omega
      have w2 : (kr : Int) - (kk : Int) = (ko : Int) := by omega
      have w3 : IntKind.i64.wrap (ko : Int) = (ko : Int) := IntWalk.i64_in _ (by omega)
      have HS11 := Lib.hid (HS.out _ (Below.refl _ _).drew)
      have HG1d := Lib.hid (HG1.out _ (Below.refl _ _).drew)
      have HBd12 := Lib.hid (show Below w11.heap.size w11 w11.drew from (Below.refl _ _).drew)
      have hkq9 : kq ≤ 60 := by omega
      have hlq9 : lq ≤ 60 := by omega
      have hkr9 : kr ≤ 60 := by have := HAD.out; omega
      clear hkr hq0 ha0 hn0 hsum hF0 hkk hko hfe eQ eA eN hFt hfl
      go_wp2_with fail
      refine wp_region_held_drew (S := (fun wx => wx.cell? ⟨N, 2, none⟩ = some (.slice qa lq qc) ∧ wx.cell? ⟨N, 3, none⟩ = some (.slice aa la ac) ∧ wx.cell? ⟨N, 4, none⟩ = some (.slice na ln nc) ∧ wx.cell? ⟨G, 2, none⟩ = some (.slice ya kq yc) ∧ wx.cell? ⟨G, 3, none⟩ = some (.slice ba ka bc) ∧ wx.cell? ⟨G, 4, none⟩ = some (.slice oa kn oc) ∧ wx.cell? ⟨G, 5, none⟩ = some (.slice ta kr tc))) (by kernel_rfl) HS11.out (fun hHeld => ?_)
      refine wpAnyH_take (i := 0) (oi := { dst := some 76, op := Op.fieldAddr 25 (Operand.tmp 9) 3, type := 0, pos := "outright.go:61", after := #[], guard := none }) (v := ?_) rfl (by kernel_rfl) (by kernel_rfl) (by kernel_rfl) (fun _ _ _ h => h) (Or.inl ⟨by rfl, ?_⟩) (by assumption) ?_
      rotate_left 1
      · intro w hSw; (try dsimp only at hSw); go_simp; try (with_reducible rfl)
      try simp only [Act.put, List.setIfInBounds_toArray, List.set_cons_zero, List.set_cons_succ]
      refine wpAnyH_take (i := 1) (oi := { dst := some 77, op := Op.load 23 (Operand.tmp 76), type := 23, pos := "outright.go:61", after := #[{ on := 0, ground := Ground.data }], guard := none }) (v := ?_) rfl (by kernel_rfl) (by kernel_rfl) (by kernel_rfl) (fun _ _ _ h => h) (Or.inl ⟨by rfl, ?_⟩) (by assumption) ?_
      rotate_left 1
      · intro w hSw; (try dsimp only at hSw); go_simp; try (with_reducible rfl)
      try simp only [Act.put, List.setIfInBounds_toArray, List.set_cons_zero, List.set_cons_succ]
      refine wpAnyH_take (i := 2) (oi := { dst := some 78, op := Op.fieldAddr 25 (Operand.tmp 2) 3, type := 0, pos := "outright.go:61", after := #[], guard := none }) (v := ?_) rfl (by kernel_rfl) (by kernel_rfl) (by kernel_rfl) (fun _ _ _ h => h) (Or.inl ⟨by rfl, ?_⟩) (by assumption) ?_
      rotate_left 1
      · intro w hSw; (try dsimp only at hSw); go_simp; try (with_reducible rfl)
      try simp only [Act.put, List.setIfInBounds_toArray, List.set_cons_zero, List.set_cons_succ]
      refine wpAnyH_take (i := 3) (oi := { dst := some 79, op := Op.load 23 (Operand.tmp 78), type := 23, pos := "outright.go:61", after := #[{ on := 2, ground := Ground.data }], guard := none }) (v := ?_) rfl (by kernel_rfl) (by kernel_rfl) (by kernel_rfl) (fun _ _ _ h => h) (Or.inl ⟨by rfl, ?_⟩) (by assumption) ?_
      rotate_left 1
      · intro w hSw; (try dsimp only at hSw); go_simp; try (with_reducible rfl)
      try simp only [Act.put, List.setIfInBounds_toArray, List.set_cons_zero, List.set_cons_succ]
      refine wpAnyH_ready (rs := [4]) (by kernel_rfl) (by simp) ?_
      refine AllReadyH.cons (o := { dst := some 80, op := Op.call { callee := Callee.value (Operand.func 22), args := #[Operand.tmp 77, Operand.tmp 79], argTypes := #[23, 23] }, type := 4, pos := "outright.go:61", after := #[{ on := 1, ground := Ground.data }, { on := 3, ground := Ground.data }], guard := none }) rfl (fun K hK => ?_) (AllReadyH.nil)
      go_simp
      refine HG1d.out.mono ?_; rintro e0 w12 ⟨rfl, hb⟩
      have HB12 := Lib.hid (HBd12.out.trans (hb.mono HBd12.out.size))
      have HS12 := Lib.hid (HS.out _ HB12.out)
      have HG2d := Lib.hid (HG2.out _ HB12.out)
      have HBd13 := HB12
      clear hb
      refine hK.out _ _ HS12.out (fun hHeld => ?_)
      clear hK K
      try simp only [Act.put, List.setIfInBounds_toArray, List.set_cons_zero, List.set_cons_succ]
      refine wpAnyH_take (i := 5) (oi := { dst := some 81, op := Op.unOp UnOp.not 4 (Operand.tmp 80), type := 4, pos := "outright.go:61", after := #[{ on := 4, ground := Ground.data }], guard := none }) (v := ?_) rfl (by kernel_rfl) (by kernel_rfl) (by kernel_rfl) (fun _ _ _ h => h) (Or.inl ⟨by rfl, ?_⟩) (by assumption) ?_
      rotate_left 1
      · intro w hSw; (try dsimp only at hSw); go_simp; try (with_reducible rfl)
      try simp only [Act.put, List.setIfInBounds_toArray, List.set_cons_zero, List.set_cons_succ]
      refine wpAnyH_take (i := 6) (oi := { dst := some 82, op := Op.move (Operand.tmp 81), type := 4, pos := "outright.go:61", after := #[{ on := 5, ground := Ground.data }, { on := 4, ground := Ground.chain }], guard := none }) (v := ?_) rfl (by kernel_rfl) (by kernel_rfl) (by kernel_rfl) (fun _ _ _ h => h) (Or.inl ⟨by rfl, ?_⟩) (by assumption) ?_
      rotate_left 1
      · intro w hSw; (try dsimp only at hSw); go_simp; try (with_reducible rfl)
      try simp only [Act.put, List.setIfInBounds_toArray, List.set_cons_zero, List.set_cons_succ]
      refine wpAnyH_take (i := 7) (oi := { dst := some 83, op := Op.fieldAddr 25 (Operand.tmp 9) 4, type := 0, pos := "outright.go:61", after := #[{ on := 6, ground := Ground.guard }], guard := some (6, false) }) (v := ?_) rfl (by kernel_rfl) (by kernel_rfl) (by kernel_rfl) (fun _ _ _ h => h) (Or.inl ⟨by rfl, ?_⟩) (by assumption) ?_
      rotate_left 1
      · intro w hSw; (try dsimp only at hSw); go_simp; try (with_reducible rfl)
      try simp only [Act.put, List.setIfInBounds_toArray, List.set_cons_zero, List.set_cons_succ]
      refine wpAnyH_take (i := 8) (oi := { dst := some 84, op := Op.load 23 (Operand.tmp 83), type := 23, pos := "outright.go:61", after := #[{ on := 7, ground := Ground.data }, { on := 6, ground := Ground.guard }], guard := some (6, false) }) (v := ?_) rfl (by kernel_rfl) (by kernel_rfl) (by kernel_rfl) (fun _ _ _ h => h) (Or.inl ⟨by rfl, ?_⟩) (by assumption) ?_
      rotate_left 1
      · intro w hSw; (try dsimp only at hSw); go_simp; try (with_reducible rfl)
      try simp only [Act.put, List.setIfInBounds_toArray, List.set_cons_zero, List.set_cons_succ]
      refine wpAnyH_take (i := 9) (oi := { dst := some 85, op := Op.fieldAddr 25 (Operand.tmp 2) 4, type := 0, pos := "outright.go:61", after := #[{ on := 6, ground := Ground.guard }], guard := some (6, false) }) (v := ?_) rfl (by kernel_rfl) (by kernel_rfl) (by kernel_rfl) (fun _ _ _ h => h) (Or.inl ⟨by rfl, ?_⟩) (by assumption) ?_
      rotate_left 1
      · intro w hSw; (try dsimp only at hSw); go_simp; try (with_reducible rfl)
      try simp only [Act.put, List.setIfInBounds_toArray, List.set_cons_zero, List.set_cons_succ]
      refine wpAnyH_take (i := 10) (oi := { dst := some 86, op := Op.load 23 (Operand.tmp 85), type := 23, pos := "outright.go:61", after := #[{ on := 9, ground := Ground.data }, { on := 6, ground := Ground.guard }], guard := some (6, false) }) (v := ?_) rfl (by kernel_rfl) (by kernel_rfl) (by kernel_rfl) (fun _ _ _ h => h) (Or.inl ⟨by rfl, ?_⟩) (by assumption) ?_
      rotate_left 1
      · intro w hSw; (try dsimp only at hSw); go_simp; try (with_reducible rfl)
      try simp only [Act.put, List.setIfInBounds_toArray, List.set_cons_zero, List.set_cons_succ]
      refine wpAnyH_ready (rs := [11]) (by kernel_rfl) (by simp) ?_
      refine AllReadyH.cons (o := { dst := some 87, op := Op.call { callee := Callee.value (Operand.func 22), args := #[Operand.tmp 84, Operand.tmp 86], argTypes := #[23, 23] }, type := 4, pos := "outright.go:61", after := #[{ on := 8, ground := Ground.data }, { on := 10, ground := Ground.data }, { on := 6, ground := Ground.chain }, { on := 6, ground := Ground.guard }], guard := some (6, false) }) rfl (fun K hK => ?_) (AllReadyH.nil)
      go_simp
      refine HG2d.out.mono ?_; rintro e0 w13 ⟨rfl, hb⟩
      have HB13 := Lib.hid (HBd13.out.trans (hb.mono HBd13.out.size))
      have HS13 := Lib.hid (HS.out _ HB13.out)
      have HG3d := Lib.hid (HG3.out _ HB13.out)
      have HBd14 := HB13
      clear hb
      refine hK.out _ _ HS13.out (fun hHeld => ?_)
      clear hK K
      try simp only [Act.put, List.setIfInBounds_toArray, List.set_cons_zero, List.set_cons_succ]
      refine wpAnyH_take (i := 12) (oi := { dst := some 88, op := Op.unOp UnOp.not 4 (Operand.tmp 87), type := 4, pos := "outright.go:61", after := #[{ on := 11, ground := Ground.data }, { on := 6, ground := Ground.guard }], guard := some (6, false) }) (v := ?_) rfl (by kernel_rfl) (by kernel_rfl) (by kernel_rfl) (fun _ _ _ h => h) (Or.inl ⟨by rfl, ?_⟩) (by assumption) ?_
      rotate_left 1
      · intro w hSw; (try dsimp only at hSw); go_simp; try (with_reducible rfl)
      try simp only [Act.put, List.setIfInBounds_toArray, List.set_cons_zero, List.set_cons_succ]
      refine wpAnyH_take (i := 13) (oi := { dst := some 89, op := Op.pick (Operand.tmp 82) (Operand.const (Value.bool true)) (Operand.tmp 88), type := 4, pos := "outright.go:61", after := #[{ on := 6, ground := Ground.data }, { on := 12, ground := Ground.data }], guard := none }) (v := ?_) rfl (by kernel_rfl) (by kernel_rfl) (by kernel_rfl) (fun _ _ _ h => h) (Or.inl ⟨by rfl, ?_⟩) (by assumption) ?_
      rotate_left 1
      · intro w hSw; (try dsimp only at hSw); go_simp; try (with_reducible rfl)
      try simp only [Act.put, List.setIfInBounds_toArray, List.set_cons_zero, List.set_cons_succ]
      refine wpAnyH_take (i := 14) (oi := { dst := some 90, op := Op.move (Operand.tmp 89), type := 4, pos := "outright.go:61", after := #[{ on := 13, ground := Ground.data }, { on := 11, ground := Ground.chain }], guard := none }) (v := ?_) rfl (by kernel_rfl) (by kernel_rfl) (by kernel_rfl) (fun _ _ _ h => h) (Or.inl ⟨by rfl, ?_⟩) (by assumption) ?_
      rotate_left 1
      · intro w hSw; (try dsimp only at hSw); go_simp; try (with_reducible rfl)
      try simp only [Act.put, List.setIfInBounds_toArray, List.set_cons_zero, List.set_cons_succ]
      refine wpAnyH_take (i := 15) (oi := { dst := some 91, op := Op.move (Operand.tmp 13), type := 23, pos := "outright.go:61", after := #[{ on := 14, ground := Ground.guard }], guard := some (14, false) }) (v := ?_) rfl (by kernel_rfl) (by kernel_rfl) (by kernel_rfl) (fun _ _ _ h => h) (Or.inl ⟨by rfl, ?_⟩) (by assumption) ?_
      rotate_left 1
      · intro w hSw; (try dsimp only at hSw); go_simp; try (with_reducible rfl)
      try simp only [Act.put, List.setIfInBounds_toArray, List.set_cons_zero, List.set_cons_succ]
      refine wpAnyH_take (i := 16) (oi := { dst := some 92, op := Op.move (Operand.tmp 11), type := 23, pos := "outright.go:61", after := #[{ on := 14, ground := Ground.guard }], guard := some (14, false) }) (v := ?_) rfl (by kernel_rfl) (by kernel_rfl) (by kernel_rfl) (fun _ _ _ h => h) (Or.inl ⟨by rfl, ?_⟩) (by assumption) ?_
      rotate_left 1
      · intro w hSw; (try dsimp only at hSw); go_simp; try (with_reducible rfl)
      try simp only [Act.put, List.setIfInBounds_toArray, List.set_cons_zero, List.set_cons_succ]
      refine wpAnyH_ready (rs := [17]) (by kernel_rfl) (by simp) ?_
      refine AllReadyH.cons (o := { dst := some 93, op := Op.call { callee := Callee.value (Operand.func 22), args := #[Operand.tmp 91, Operand.tmp 92], argTypes := #[23, 23] }, type := 4, pos := "outright.go:61", after := #[{ on := 15, ground := Ground.data }, { on := 16, ground := Ground.data }, { on := 14, ground := Ground.chain }, { on := 14, ground := Ground.guard }], guard := some (14, false) }) rfl (fun K hK => ?_) (AllReadyH.nil)
      go_simp
      refine HG3d.out.mono ?_; rintro e0 w14 ⟨rfl, hb⟩
      have HB14 := Lib.hid (HBd14.out.trans (hb.mono HBd14.out.size))
      have HS14 := Lib.hid (HS.out _ HB14.out)
      have HG4d := Lib.hid (HG4.out _ HB14.out)
      have HBd15 := HB14
      clear hb
      refine hK.out _ _ HS14.out (fun hHeld => ?_)
      clear hK K
      try simp only [Act.put, List.setIfInBounds_toArray, List.set_cons_zero, List.set_cons_succ]
      refine wpAnyH_take (i := 18) (oi := { dst := some 94, op := Op.unOp UnOp.not 4 (Operand.tmp 93), type := 4, pos := "outright.go:61", after := #[{ on := 17, ground := Ground.data }, { on := 14, ground := Ground.guard }], guard := some (14, false) }) (v := ?_) rfl (by kernel_rfl) (by kernel_rfl) (by kernel_rfl) (fun _ _ _ h => h) (Or.inl ⟨by rfl, ?_⟩) (by assumption) ?_
      rotate_left 1
      · intro w hSw; (try dsimp only at hSw); go_simp; try (with_reducible rfl)
      try simp only [Act.put, List.setIfInBounds_toArray, List.set_cons_zero, List.set_cons_succ]
      refine wpAnyH_take (i := 19) (oi := { dst := some 95, op := Op.pick (Operand.tmp 90) (Operand.const (Value.bool true)) (Operand.tmp 94), type := 4, pos := "outright.go:61", after := #[{ on := 14, ground := Ground.data }, { on := 18, ground := Ground.data }], guard := none }) (v := ?_) rfl (by kernel_rfl) (by kernel_rfl) (by kernel_rfl) (fun _ _ _ h => h) (Or.inl ⟨by rfl, ?_⟩) (by assumption) ?_
      rotate_left 1
      · intro w hSw; (try dsimp only at hSw); go_simp; try (with_reducible rfl)
      try simp only [Act.put, List.setIfInBounds_toArray, List.set_cons_zero, List.set_cons_succ]
      refine wpAnyH_take (i := 20) (oi := { dst := some 96, op := Op.move (Operand.tmp 95), type := 4, pos := "outright.go:61", after := #[{ on := 19, ground := Ground.data }, { on := 17, ground := Ground.chain }], guard := none }) (v := ?_) rfl (by kernel_rfl) (by kernel_rfl) (by kernel_rfl) (fun _ _ _ h => h) (Or.inl ⟨by rfl, ?_⟩) (by assumption) ?_
      rotate_left 1
      · intro w hSw; (try dsimp only at hSw); go_simp; try (with_reducible rfl)
      try simp only [Act.put, List.setIfInBounds_toArray, List.set_cons_zero, List.set_cons_succ]
      refine wpAnyH_take (i := 21) (oi := { dst := some 97, op := Op.fieldAddr 25 (Operand.tmp 9) 2, type := 0, pos := "outright.go:61", after := #[{ on := 20, ground := Ground.guard }], guard := some (20, false) }) (v := ?_) rfl (by kernel_rfl) (by kernel_rfl) (by kernel_rfl) (fun _ _ _ h => h) (Or.inl ⟨by rfl, ?_⟩) (by assumption) ?_
      rotate_left 1
      · intro w hSw; (try dsimp only at hSw); go_simp; try (with_reducible rfl)
      try simp only [Act.put, List.setIfInBounds_toArray, List.set_cons_zero, List.set_cons_succ]
      refine wpAnyH_take (i := 22) (oi := { dst := some 98, op := Op.load 22 (Operand.tmp 97), type := 22, pos := "outright.go:61", after := #[{ on := 21, ground := Ground.data }, { on := 20, ground := Ground.guard }], guard := some (20, false) }) (v := ?_) rfl (by kernel_rfl) (by kernel_rfl) (by kernel_rfl) (fun _ _ _ h => h) (Or.inl ⟨by rfl, ?_⟩) (by assumption) ?_
      rotate_left 1
      · intro w hSw; (try dsimp only at hSw); go_simp; try (with_reducible rfl)
      try simp only [Act.put, List.setIfInBounds_toArray, List.set_cons_zero, List.set_cons_succ]
      refine wpAnyH_take (i := 23) (oi := { dst := some 99, op := Op.call { callee := Callee.builtin Builtin.len, args := #[Operand.tmp 98], argTypes := #[22] }, type := 3, pos := "outright.go:61", after := #[{ on := 22, ground := Ground.data }, { on := 20, ground := Ground.guard }], guard := some (20, false) }) (v := ?_) rfl (by kernel_rfl) (by kernel_rfl) (by kernel_rfl) (fun _ _ _ h => h) (Or.inl ⟨by rfl, ?_⟩) (by assumption) ?_
      rotate_left 1
      · intro w hSw; (try dsimp only at hSw); go_simp; try (with_reducible rfl)
      try simp only [Act.put, List.setIfInBounds_toArray, List.set_cons_zero, List.set_cons_succ]
      refine wpAnyH_take (i := 24) (oi := { dst := some 100, op := Op.fieldAddr 25 (Operand.tmp 2) 2, type := 0, pos := "outright.go:61", after := #[{ on := 20, ground := Ground.guard }], guard := some (20, false) }) (v := ?_) rfl (by kernel_rfl) (by kernel_rfl) (by kernel_rfl) (fun _ _ _ h => h) (Or.inl ⟨by rfl, ?_⟩) (by assumption) ?_
      rotate_left 1
      · intro w hSw; (try dsimp only at hSw); go_simp; try (with_reducible rfl)
      try simp only [Act.put, List.setIfInBounds_toArray, List.set_cons_zero, List.set_cons_succ]
      refine wpAnyH_take (i := 25) (oi := { dst := some 101, op := Op.load 22 (Operand.tmp 100), type := 22, pos := "outright.go:61", after := #[{ on := 24, ground := Ground.data }, { on := 20, ground := Ground.guard }], guard := some (20, false) }) (v := ?_) rfl (by kernel_rfl) (by kernel_rfl) (by kernel_rfl) (fun _ _ _ h => h) (Or.inl ⟨by rfl, ?_⟩) (by assumption) ?_
      rotate_left 1
      · intro w hSw; (try dsimp only at hSw); go_simp; try (with_reducible rfl)
      try simp only [Act.put, List.setIfInBounds_toArray, List.set_cons_zero, List.set_cons_succ]
      refine wpAnyH_take (i := 26) (oi := { dst := some 102, op := Op.call { callee := Callee.builtin Builtin.len, args := #[Operand.tmp 101], argTypes := #[22] }, type := 3, pos := "outright.go:61", after := #[{ on := 25, ground := Ground.data }, { on := 20, ground := Ground.guard }], guard := some (20, false) }) (v := ?_) rfl (by kernel_rfl) (by kernel_rfl) (by kernel_rfl) (fun _ _ _ h => h) (Or.inl ⟨by rfl, ?_⟩) (by assumption) ?_
      rotate_left 1
      · intro w hSw; (try dsimp only at hSw); go_simp; try (with_reducible rfl)
      try simp only [Act.put, List.setIfInBounds_toArray, List.set_cons_zero, List.set_cons_succ]
      refine wpAnyH_take (i := 27) (oi := { dst := some 103, op := Op.binOp BinOp.gtr 3 (Operand.tmp 99) (Operand.tmp 102) 3, type := 4, pos := "outright.go:61", after := #[{ on := 23, ground := Ground.data }, { on := 26, ground := Ground.data }, { on := 20, ground := Ground.guard }], guard := some (20, false) }) (v := (.bool false)) rfl (by kernel_rfl) (by kernel_rfl) (by kernel_rfl) (fun _ _ _ h => h) (Or.inl ⟨by rfl, ?_⟩) (by assumption) ?_
      · intro w hSw; (try dsimp only at hSw); go_simp; first | done | rfl | omega | (simp; omega) | simp [t1] | simp [t2] | simp [t1p, t2p] | trace_state
      try simp only [Act.put, List.setIfInBounds_toArray, List.set_cons_zero, List.set_cons_succ]
      refine wpAnyH_take (i := 28) (oi := { dst := some 104, op := Op.pick (Operand.tmp 96) (Operand.const (Value.bool true)) (Operand.tmp 103), type := 4, pos := "outright.go:61", after := #[{ on := 20, ground := Ground.data }, { on := 27, ground := Ground.data }], guard := none }) (v := ?_) rfl (by kernel_rfl) (by kernel_rfl) (by kernel_rfl) (fun _ _ _ h => h) (Or.inl ⟨by rfl, ?_⟩) (by assumption) ?_
      rotate_left 1
      · intro w hSw; (try dsimp only at hSw); go_simp; try (with_reducible rfl)
      try simp only [Act.put, List.setIfInBounds_toArray, List.set_cons_zero, List.set_cons_succ]
      refine wpAnyH_take (i := 29) (oi := { dst := some 105, op := Op.move (Operand.tmp 104), type := 4, pos := "outright.go:61", after := #[{ on := 28, ground := Ground.data }, { on := 20, ground := Ground.chain }], guard := none }) (v := ?_) rfl (by kernel_rfl) (by kernel_rfl) (by kernel_rfl) (fun _ _ _ h => h) (Or.inl ⟨by rfl, ?_⟩) (by assumption) ?_
      rotate_left 1
      · intro w hSw; (try dsimp only at hSw); go_simp; try (with_reducible rfl)
      try simp only [Act.put, List.setIfInBounds_toArray, List.set_cons_zero, List.set_cons_succ]
      refine wpAnyH_take (i := 30) (oi := { dst := some 106, op := Op.fieldAddr 25 (Operand.tmp 9) 2, type := 0, pos := "outright.go:61", after := #[{ on := 29, ground := Ground.guard }], guard := some (29, false) }) (v := ?_) rfl (by kernel_rfl) (by kernel_rfl) (by kernel_rfl) (fun _ _ _ h => h) (Or.inl ⟨by rfl, ?_⟩) (by assumption) ?_
      rotate_left 1
      · intro w hSw; (try dsimp only at hSw); go_simp; try (with_reducible rfl)
      try simp only [Act.put, List.setIfInBounds_toArray, List.set_cons_zero, List.set_cons_succ]
      refine wpAnyH_take (i := 31) (oi := { dst := some 107, op := Op.load 22 (Operand.tmp 106), type := 22, pos := "outright.go:61", after := #[{ on := 30, ground := Ground.data }, { on := 29, ground := Ground.guard }], guard := some (29, false) }) (v := ?_) rfl (by kernel_rfl) (by kernel_rfl) (by kernel_rfl) (fun _ _ _ h => h) (Or.inl ⟨by rfl, ?_⟩) (by assumption) ?_
      rotate_left 1
      · intro w hSw; (try dsimp only at hSw); go_simp; try (with_reducible rfl)
      try simp only [Act.put, List.setIfInBounds_toArray, List.set_cons_zero, List.set_cons_succ]
      refine wpAnyH_take (i := 32) (oi := { dst := some 108, op := Op.fieldAddr 25 (Operand.tmp 2) 2, type := 0, pos := "outright.go:61", after := #[{ on := 29, ground := Ground.guard }], guard := some (29, false) }) (v := ?_) rfl (by kernel_rfl) (by kernel_rfl) (by kernel_rfl) (fun _ _ _ h => h) (Or.inl ⟨by rfl, ?_⟩) (by assumption) ?_
      rotate_left 1
      · intro w hSw; (try dsimp only at hSw); go_simp; try (with_reducible rfl)
      try simp only [Act.put, List.setIfInBounds_toArray, List.set_cons_zero, List.set_cons_succ]
      refine wpAnyH_take (i := 33) (oi := { dst := some 109, op := Op.load 22 (Operand.tmp 108), type := 22, pos := "outright.go:61", after := #[{ on := 32, ground := Ground.data }, { on := 29, ground := Ground.guard }], guard := some (29, false) }) (v := ?_) rfl (by kernel_rfl) (by kernel_rfl) (by kernel_rfl) (fun _ _ _ h => h) (Or.inl ⟨by rfl, ?_⟩) (by assumption) ?_
      rotate_left 1
      · intro w hSw; (try dsimp only at hSw); go_simp; try (with_reducible rfl)
      try simp only [Act.put, List.setIfInBounds_toArray, List.set_cons_zero, List.set_cons_succ]
      refine wpAnyH_take (i := 34) (oi := { dst := some 110, op := Op.fieldAddr 25 (Operand.tmp 9) 2, type := 0, pos := "outright.go:61", after := #[{ on := 29, ground := Ground.guard }], guard := some (29, false) }) (v := ?_) rfl (by kernel_rfl) (by kernel_rfl) (by kernel_rfl) (fun _ _ _ h => h) (Or.inl ⟨by rfl, ?_⟩) (by assumption) ?_
      rotate_left 1
      · intro w hSw; (try dsimp only at hSw); go_simp; try (with_reducible rfl)
      try simp only [Act.put, List.setIfInBounds_toArray, List.set_cons_zero, List.set_cons_succ]
      refine wpAnyH_take (i := 35) (oi := { dst := some 111, op := Op.load 22 (Operand.tmp 110), type := 22, pos := "outright.go:61", after := #[{ on := 34, ground := Ground.data }, { on := 29, ground := Ground.guard }], guard := some (29, false) }) (v := ?_) rfl (by kernel_rfl) (by kernel_rfl) (by kernel_rfl) (fun _ _ _ h => h) (Or.inl ⟨by rfl, ?_⟩) (by assumption) ?_
      rotate_left 1
      · intro w hSw; (try dsimp only at hSw); go_simp; try (with_reducible rfl)
      try simp only [Act.put, List.setIfInBounds_toArray, List.set_cons_zero, List.set_cons_succ]
      refine wpAnyH_take (i := 36) (oi := { dst := some 112, op := Op.call { callee := Callee.builtin Builtin.len, args := #[Operand.tmp 111], argTypes := #[22] }, type := 3, pos := "outright.go:61", after := #[{ on := 35, ground := Ground.data }, { on := 29, ground := Ground.guard }], guard := some (29, false) }) (v := ?_) rfl (by kernel_rfl) (by kernel_rfl) (by kernel_rfl) (fun _ _ _ h => h) (Or.inl ⟨by rfl, ?_⟩) (by assumption) ?_
      rotate_left 1
      · intro w hSw; (try dsimp only at hSw); go_simp; try (with_reducible rfl)
      try simp only [Act.put, List.setIfInBounds_toArray, List.set_cons_zero, List.set_cons_succ]
      refine wpAnyH_take (i := 37) (oi := { dst := some 113, op := Op.slice 22 (Operand.tmp 109) none (some (Operand.tmp 112)) none, type := 22, pos := "outright.go:61", after := #[{ on := 33, ground := Ground.data }, { on := 36, ground := Ground.data }, { on := 29, ground := Ground.guard }], guard := some (29, false) }) (v := ?_) rfl (by kernel_rfl) (by kernel_rfl) (by kernel_rfl) (fun _ _ _ h => h) (Or.inl ⟨by rfl, ?_⟩) (by assumption) ?_
      rotate_left 1
      · intro w hSw; (try dsimp only at hSw); go_simp; try (with_reducible rfl)
      try simp only [Act.put, List.setIfInBounds_toArray, List.set_cons_zero, List.set_cons_succ]
      refine wpAnyH_ready (rs := [38]) (by kernel_rfl) (by simp) ?_
      refine AllReadyH.cons (o := { dst := some 114, op := Op.call { callee := Callee.value (Operand.func 23), args := #[Operand.tmp 107, Operand.tmp 113], argTypes := #[22, 22] }, type := 4, pos := "outright.go:61", after := #[{ on := 31, ground := Ground.data }, { on := 37, ground := Ground.data }, { on := 29, ground := Ground.chain }, { on := 29, ground := Ground.guard }], guard := some (29, false) }) rfl (fun K hK => ?_) (AllReadyH.nil)
      go_simp
      refine HG4d.out.mono ?_; rintro e0 w15 ⟨rfl, hb⟩
      have HB15 := Lib.hid (HBd15.out.trans (hb.mono HBd15.out.size))
      have HS15 := Lib.hid (HS.out _ HB15.out)
      clear hb
      refine hK.out _ _ HS15.out (fun hHeld => ?_)
      clear hK K
      try simp only [Act.put, List.setIfInBounds_toArray, List.set_cons_zero, List.set_cons_succ]
      refine wpAnyH_take (i := 39) (oi := { dst := some 115, op := Op.unOp UnOp.not 4 (Operand.tmp 114), type := 4, pos := "outright.go:61", after := #[{ on := 38, ground := Ground.data }, { on := 29, ground := Ground.guard }], guard := some (29, false) }) (v := ?_) rfl (by kernel_rfl) (by kernel_rfl) (by kernel_rfl) (fun _ _ _ h => h) (Or.inl ⟨by rfl, ?_⟩) (by assumption) ?_
      rotate_left 1
      · intro w hSw; (try dsimp only at hSw); go_simp; try (with_reducible rfl)
      try simp only [Act.put, List.setIfInBounds_toArray, List.set_cons_zero, List.set_cons_succ]
      refine wpAnyH_take (i := 40) (oi := { dst := some 116, op := Op.pick (Operand.tmp 105) (Operand.const (Value.bool true)) (Operand.tmp 115), type := 4, pos := "outright.go:61", after := #[{ on := 29, ground := Ground.data }, { on := 39, ground := Ground.data }], guard := none }) (v := ?_) rfl (by kernel_rfl) (by kernel_rfl) (by kernel_rfl) (fun _ _ _ h => h) (Or.inl ⟨by rfl, ?_⟩) (by assumption) ?_
      rotate_left 1
      · intro w hSw; (try dsimp only at hSw); go_simp; try (with_reducible rfl)
      try simp only [Act.put, List.setIfInBounds_toArray, List.set_cons_zero, List.set_cons_succ]
      refine wpAnyH_take (i := 41) (oi := { dst := some 117, op := Op.move (Operand.tmp 116), type := 4, pos := "outright.go:61", after := #[{ on := 40, ground := Ground.data }, { on := 38, ground := Ground.chain }], guard := none }) (v := ?_) rfl (by kernel_rfl) (by kernel_rfl) (by kernel_rfl) (fun _ _ _ h => h) (Or.inl ⟨by rfl, ?_⟩) (by assumption) ?_
      rotate_left 1
      · intro w hSw; (try dsimp only at hSw); go_simp; try (with_reducible rfl)
      try simp only [Act.put, List.setIfInBounds_toArray, List.set_cons_zero, List.set_cons_succ]
      refine wpAnyH_take (i := 42) (oi := { dst := some 118, op := Op.fieldAddr 25 (Operand.tmp 9) 5, type := 0, pos := "outright.go:61", after := #[{ on := 41, ground := Ground.guard }], guard := some (41, false) }) (v := ?_) rfl (by kernel_rfl) (by kernel_rfl) (by kernel_rfl) (fun _ _ _ h => h) (Or.inl ⟨by rfl, ?_⟩) (by assumption) ?_
      rotate_left 1
      · intro w hSw; (try dsimp only at hSw); go_simp; try (with_reducible rfl)
      try simp only [Act.put, List.setIfInBounds_toArray, List.set_cons_zero, List.set_cons_succ]
      refine wpAnyH_take (i := 43) (oi := { dst := some 119, op := Op.load 23 (Operand.tmp 118), type := 23, pos := "outright.go:61", after := #[{ on := 42, ground := Ground.data }, { on := 41, ground := Ground.guard }], guard := some (41, false) }) (v := ?_) rfl (by kernel_rfl) (by kernel_rfl) (by kernel_rfl) (fun _ _ _ h => h) (Or.inl ⟨by rfl, ?_⟩) (by assumption) ?_
      rotate_left 1
      · intro w hSw; (try dsimp only at hSw); go_simp; try (with_reducible rfl)
      try simp only [Act.put, List.setIfInBounds_toArray, List.set_cons_zero, List.set_cons_succ]
      refine wpAnyH_take (i := 44) (oi := { dst := some 120, op := Op.call { callee := Callee.builtin Builtin.len, args := #[Operand.tmp 119], argTypes := #[23] }, type := 3, pos := "outright.go:61", after := #[{ on := 43, ground := Ground.data }, { on := 41, ground := Ground.guard }], guard := some (41, false) }) (v := ?_) rfl (by kernel_rfl) (by kernel_rfl) (by kernel_rfl) (fun _ _ _ h => h) (Or.inl ⟨by rfl, ?_⟩) (by assumption) ?_
      rotate_left 1
      · intro w hSw; (try dsimp only at hSw); go_simp; try (with_reducible rfl)
      try simp only [Act.put, List.setIfInBounds_toArray, List.set_cons_zero, List.set_cons_succ]
      refine wpAnyH_take (i := 45) (oi := { dst := some 121, op := Op.move (Operand.tmp 13), type := 23, pos := "outright.go:61", after := #[{ on := 41, ground := Ground.guard }], guard := some (41, false) }) (v := ?_) rfl (by kernel_rfl) (by kernel_rfl) (by kernel_rfl) (fun _ _ _ h => h) (Or.inl ⟨by rfl, ?_⟩) (by assumption) ?_
      rotate_left 1
      · intro w hSw; (try dsimp only at hSw); go_simp; try (with_reducible rfl)
      try simp only [Act.put, List.setIfInBounds_toArray, List.set_cons_zero, List.set_cons_succ]
      refine wpAnyH_take (i := 46) (oi := { dst := some 122, op := Op.call { callee := Callee.builtin Builtin.len, args := #[Operand.tmp 121], argTypes := #[23] }, type := 3, pos := "outright.go:61", after := #[{ on := 45, ground := Ground.data }, { on := 41, ground := Ground.guard }], guard := some (41, false) }) (v := ?_) rfl (by kernel_rfl) (by kernel_rfl) (by kernel_rfl) (fun _ _ _ h => h) (Or.inl ⟨by rfl, ?_⟩) (by assumption) ?_
      rotate_left 1
      · intro w hSw; (try dsimp only at hSw); go_simp; try (with_reducible rfl)
      try simp only [Act.put, List.setIfInBounds_toArray, List.set_cons_zero, List.set_cons_succ]
      refine wpAnyH_take (i := 47) (oi := { dst := some 123, op := Op.binOp BinOp.sub 3 (Operand.tmp 120) (Operand.tmp 122) 3, type := 3, pos := "outright.go:61", after := #[{ on := 44, ground := Ground.data }, { on := 46, ground := Ground.data }, { on := 41, ground := Ground.guard }], guard := some (41, false) }) (v := ?_) rfl (by kernel_rfl) (by kernel_rfl) (by kernel_rfl) (fun _ _ _ h => h) (Or.inl ⟨by rfl, ?_⟩) (by assumption) ?_
      rotate_left 1
      · intro w hSw; (try dsimp only at hSw); go_simp; try (with_reducible rfl)
      try simp only [Act.put, List.setIfInBounds_toArray, List.set_cons_zero, List.set_cons_succ]
      refine wpAnyH_take (i := 48) (oi := { dst := some 124, op := Op.move (Operand.tmp 12), type := 3, pos := "outright.go:61", after := #[{ on := 41, ground := Ground.guard }], guard := some (41, false) }) (v := ?_) rfl (by kernel_rfl) (by kernel_rfl) (by kernel_rfl) (fun _ _ _ h => h) (Or.inl ⟨by rfl, ?_⟩) (by assumption) ?_
      rotate_left 1
      · intro w hSw; (try dsimp only at hSw); go_simp; try (with_reducible rfl)
      try simp only [Act.put, List.setIfInBounds_toArray, List.set_cons_zero, List.set_cons_succ]
      refine wpAnyH_take (i := 49) (oi := { dst := some 125, op := Op.binOp BinOp.gtr 3 (Operand.tmp 123) (Operand.tmp 124) 3, type := 4, pos := "outright.go:61", after := #[{ on := 47, ground := Ground.data }, { on := 48, ground := Ground.data }, { on := 41, ground := Ground.guard }], guard := some (41, false) }) (v := (.bool false)) rfl (by kernel_rfl) (by kernel_rfl) (by kernel_rfl) (fun _ _ _ h => h) (Or.inl ⟨by rfl, ?_⟩) (by assumption) ?_
      · intro w hSw; (try dsimp only at hSw); go_simp; first | done | rfl | omega | (simp; omega) | simp [t1] | simp [t2] | simp [t1p, t2p] | trace_state
      try simp only [Act.put, List.setIfInBounds_toArray, List.set_cons_zero, List.set_cons_succ]
      refine wpAnyH_take (i := 50) (oi := { dst := some 126, op := Op.pick (Operand.tmp 117) (Operand.const (Value.bool true)) (Operand.tmp 125), type := 4, pos := "outright.go:61", after := #[{ on := 41, ground := Ground.data }, { on := 49, ground := Ground.data }], guard := none }) (v := ?_) rfl (by kernel_rfl) (by kernel_rfl) (by kernel_rfl) (fun _ _ _ h => h) (Or.inl ⟨by rfl, ?_⟩) (by assumption) ?_
      rotate_left 1
      · intro w hSw; (try dsimp only at hSw); go_simp; try (with_reducible rfl)
      try simp only [Act.put, List.setIfInBounds_toArray, List.set_cons_zero, List.set_cons_succ]
      refine wpAnyH_done (by kernel_rfl) ?_ _
      clear hHeld
      clear HS11 HS12 HS13 HS14 HG1 HG1d HG2 HG2d HG3 HG3d HG4 HG4d HB12 HB13 HB14 HMX HR9c HR11 t1 t2 hcut w1 w2 w3 hDk
      have HBE := Lib.hid (HB8.out.2.2.1.trans ((HB11.out.trans (HB15.out.mono HB11.out.size)).mono HB8.out.2.2.1.size))
      have hxe := HB8.out.2.1.below (by simp) (HB11.out.trans (HB15.out.mono HB11.out.size))
      have hye := HB8.out.2.2.2.2.below (by simp) (HB11.out.trans (HB15.out.mono HB11.out.size))
      obtain ⟨x0, x1, x2, x3, x4, x5⟩ := hxe.six
      obtain ⟨y0, y1, y2, y3, y4, y5⟩ := hye.six
      obtain ⟨n1, n2, n3, n4, n5, n6, n7, n8⟩ := HNU.out
      have n9 := HAD.out
      have hfl : f1 = if (A < F ∧ 0 < ln) ∨ (A + ln < F ∧ 0 < la) ∨ (A + ln + la + D < F ∧ 0 < lq) then bits .or .i64 f0 512 else f0 := by
        have h1 : cm.fl = if (nA m < F ∧ 0 < m.ns.length) ∨ (nA m + m.ns.length < F ∧ 0 < m.an.length) ∨ (nA m + m.ns.length + m.an.length + nD m < F ∧ 0 < m.q.length) then tcG m.fl else m.fl := by rw [← HCM.out.1]; rfl
        rw [HK.out.1, HV.out.2.1, HV.out.2.2.1, HV.out.2.2.2.1, HV.out.2.2.2.2.1, HKK.out.2.2.2.1, HKK.out.2.2.2.2] at h1
        exact h1
      have hp := left_parts n1 n3 n4 n5 n7 n8 n9
      have hle : kq ≤ lq ∧ ka ≤ la ∧ kn ≤ ln ∧ kr ≤ lr := by clear n1 n3 n4 n5 n8; rcases hp with h | h | h | h | h <;> omega
      have hsm : (lq - kq) + (la - ka) + (ln - kn) + (lr - kr) = F := by clear n1 n3 n4 n5 n8; rcases hp with h | h | h | h | h <;> omega
      obtain ⟨g1, g2, g3, g4⟩ := hle
      clear n1 n3 n4 n5 n8
      have HP := Lib.hid hp
      have HE := Lib.hid (And.intro n2 (And.intro n6 (And.intro n7 (And.intro n9 hfl))))
      clear hp n2 n7 n9 hfl
      obtain ⟨s1, e1⟩ : ∃ s, lq - kq = s := ⟨_, rfl⟩
      obtain ⟨s2, e2⟩ : ∃ s, s1 + la = s := ⟨_, rfl⟩
      obtain ⟨s3, e3⟩ : ∃ s, s2 - ka = s := ⟨_, rfl⟩
      obtain ⟨s4, e4⟩ : ∃ s, s3 + ln = s := ⟨_, rfl⟩
      obtain ⟨s5, e5⟩ : ∃ s, s4 - kn = s := ⟨_, rfl⟩
      obtain ⟨s6, e6⟩ : ∃ s, s5 + lr = s := ⟨_, rfl⟩
      have e7 : s6 - kr = F := by omega
      have u1 : IntKind.i64.wrap ((lq : Int) - (kq : Int)) = (s1 : Int) := by rw [IntWalk.i64_in _ (by omega)]; omega
      have u2 : IntKind.i64.wrap ((s1 : Int) + (la : Int)) = (s2 : Int) := by rw [IntWalk.i64_in _ (by omega)]; omega
      have u3 : IntKind.i64.wrap ((s2 : Int) - (ka : Int)) = (s3 : Int) := by rw [IntWalk.i64_in _ (by omega)]; omega
      have u4 : IntKind.i64.wrap ((s3 : Int) + (ln : Int)) = (s4 : Int) := by rw [IntWalk.i64_in _ (by omega)]; omega
      have u5 : IntKind.i64.wrap ((s4 : Int) - (kn : Int)) = (s5 : Int) := by rw [IntWalk.i64_in _ (by omega)]; omega
      have u6 : IntKind.i64.wrap ((s5 : Int) + (lr : Int)) = (s6 : Int) := by rw [IntWalk.i64_in _ (by omega)]; omega
      have u7 : IntKind.i64.wrap ((s6 : Int) - (kr : Int)) = (F : Int) := by rw [IntWalk.i64_in _ (by omega)]; omega
      have u8 : IntKind.i64.wrap ((kr : Int) - (kk : Int)) = (ko : Int) := by have := HE.out.1; rw [IntWalk.i64_in _ (by omega)]; omega
      have HX15 := Lib.hid (And.intro hxe hye)
      clear n6 hsm e1 e2 e3 e4 e5 e6 e7 hxe hye g1 g2 g3 g4
      go_upto_region 13 with fail
      go_cut [14] from 18 to 157 (fun s14 wx => s14 = .int .i64 F ∧ wx = w15)
      case first =>
        go_wp2_with fail
        go_meet
        exact ⟨rfl, rfl⟩
      case rest =>
        obtain ⟨rfl, rfl⟩ := hcut
        clear u1 u2 u3 u4 u5 u6 u7
        go_upto_region 15 with fail
        go_cut [15, 219] from 158 to 219 (fun s15 s219 wx => s15 = .bool (decide (kq < lq)) ∧ s219 = .bool false ∧ wc = wx)
        case first =>
          have hn2 := And.intro HE.out.1 HE.out.2.2.1
          rcases HP.out with hp | hp | hp | hp | hp
          · have c1 : decide (kq < lq) = false := by simp; omega
            have c1p : ¬ kq < lq := by omega
            have c3 : decide (ko < D) = false := by simp; omega
            have c3p : ¬ ko < D := by omega
            have c5 : decide (ka < la) = false := by simp; omega
            have c5p : ¬ ka < la := by omega
            have c7 : decide (kn < ln) = false := by simp; omega
            have c7p : ¬ kn < ln := by omega
            clear hp hn2
            as_aux_lemma =>
              go_wp2_with fail
              go_meet
              exact ⟨by rw [c1], rfl, rfl⟩
          · have c1 : decide (kq < lq) = false := by simp; omega
            have c1p : ¬ kq < lq := by omega
            have c3 : decide (ko < D) = false := by simp; omega
            have c3p : ¬ ko < D := by omega
            have c5 : decide (ka < la) = false := by simp; omega
            have c5p : ¬ ka < la := by omega
            have c7 : decide (kn < ln) = true := by simp; omega
            have c7p : kn < ln := by omega
            have c8 : decide (0 < kk) = false := by simp; omega
            have c8p : ¬ 0 < kk := by omega
            clear hp hn2
            as_aux_lemma =>
              go_wp2_with fail
              go_meet
              exact ⟨by rw [c1], rfl, rfl⟩
          · by_cases h7 : 0 < ln
            · have c1 : decide (kq < lq) = false := by simp; omega
              have c1p : ¬ kq < lq := by omega
              have c3 : decide (ko < D) = false := by simp; omega
              have c3p : ¬ ko < D := by omega
              have c5 : decide (ka < la) = true := by simp; omega
              have c5p : ka < la := by omega
              have c6 : decide (0 < kn) = false := by simp; omega
              have c6p : ¬ 0 < kn := by omega
              have c7 : decide (kn < ln) = true := by simp; omega
              have c7p : kn < ln := by omega
              have c8 : decide (0 < kk) = false := by simp; omega
              have c8p : ¬ 0 < kk := by omega
              clear hp hn2
              as_aux_lemma =>
                go_wp2_with fail
                go_meet
                exact ⟨by rw [c1], rfl, rfl⟩
            · have c1 : decide (kq < lq) = false := by simp; omega
              have c1p : ¬ kq < lq := by omega
              have c3 : decide (ko < D) = false := by simp; omega
              have c3p : ¬ ko < D := by omega
              have c5 : decide (ka < la) = true := by simp; omega
              have c5p : ka < la := by omega
              have c6 : decide (0 < kn) = false := by simp; omega
              have c6p : ¬ 0 < kn := by omega
              have c7 : decide (kn < ln) = false := by simp; omega
              have c7p : ¬ kn < ln := by omega
              clear hp hn2
              as_aux_lemma =>
                go_wp2_with fail
                go_meet
                exact ⟨by rw [c1], rfl, rfl⟩
          · by_cases h5 : 0 < la
            · by_cases h7 : 0 < ln
              · have c1 : decide (kq < lq) = false := by simp; omega
                have c1p : ¬ kq < lq := by omega
                have c3 : decide (ko < D) = true := by simp; omega
                have c3p : ko < D := by omega
                have c4 : decide (0 < ka) = false := by simp; omega
                have c4p : ¬ 0 < ka := by omega
                have c5 : decide (ka < la) = true := by simp; omega
                have c5p : ka < la := by omega
                have c6 : decide (0 < kn) = false := by simp; omega
                have c6p : ¬ 0 < kn := by omega
                have c7 : decide (kn < ln) = true := by simp; omega
                have c7p : kn < ln := by omega
                have c8 : decide (0 < kk) = false := by simp; omega
                have c8p : ¬ 0 < kk := by omega
                clear hp hn2
                as_aux_lemma =>
                  go_wp2_with fail
                  go_meet
                  exact ⟨by rw [c1], rfl, rfl⟩
              · have c1 : decide (kq < lq) = false := by simp; omega
                have c1p : ¬ kq < lq := by omega
                have c3 : decide (ko < D) = true := by simp; omega
                have c3p : ko < D := by omega
                have c4 : decide (0 < ka) = false := by simp; omega
                have c4p : ¬ 0 < ka := by omega
                have c5 : decide (ka < la) = true := by simp; omega
                have c5p : ka < la := by omega
                have c6 : decide (0 < kn) = false := by simp; omega
                have c6p : ¬ 0 < kn := by omega
                have c7 : decide (kn < ln) = false := by simp; omega
                have c7p : ¬ kn < ln := by omega
                clear hp hn2
                as_aux_lemma =>
                  go_wp2_with fail
                  go_meet
                  exact ⟨by rw [c1], rfl, rfl⟩
            · by_cases h7 : 0 < ln
              · have c1 : decide (kq < lq) = false := by simp; omega
                have c1p : ¬ kq < lq := by omega
                have c3 : decide (ko < D) = true := by simp; omega
                have c3p : ko < D := by omega
                have c4 : decide (0 < ka) = false := by simp; omega
                have c4p : ¬ 0 < ka := by omega
                have c5 : decide (ka < la) = false := by simp; omega
                have c5p : ¬ ka < la := by omega
                have c7 : decide (kn < ln) = true := by simp; omega
                have c7p : kn < ln := by omega
                have c8 : decide (0 < kk) = false := by simp; omega
                have c8p : ¬ 0 < kk := by omega
                clear hp hn2
                as_aux_lemma =>
                  go_wp2_with fail
                  go_meet
                  exact ⟨by rw [c1], rfl, rfl⟩
              · have c1 : decide (kq < lq) = false := by simp; omega
                have c1p : ¬ kq < lq := by omega
                have c3 : decide (ko < D) = true := by simp; omega
                have c3p : ko < D := by omega
                have c4 : decide (0 < ka) = false := by simp; omega
                have c4p : ¬ 0 < ka := by omega
                have c5 : decide (ka < la) = false := by simp; omega
                have c5p : ¬ ka < la := by omega
                have c7 : decide (kn < ln) = false := by simp; omega
                have c7p : ¬ kn < ln := by omega
                clear hp hn2
                as_aux_lemma =>
                  go_wp2_with fail
                  go_meet
                  exact ⟨by rw [c1], rfl, rfl⟩
          · by_cases h5 : 0 < la
            · by_cases h7 : 0 < ln
              · have c1 : decide (kq < lq) = true := by simp; omega
                have c1p : kq < lq := by omega
                have c2 : decide (0 < kr) = false := by simp; omega
                have c2p : ¬ 0 < kr := by omega
                have c4 : decide (0 < ka) = false := by simp; omega
                have c4p : ¬ 0 < ka := by omega
                have c5 : decide (ka < la) = true := by simp; omega
                have c5p : ka < la := by omega
                have c6 : decide (0 < kn) = false := by simp; omega
                have c6p : ¬ 0 < kn := by omega
                have c7 : decide (kn < ln) = true := by simp; omega
                have c7p : kn < ln := by omega
                have c8 : decide (0 < kk) = false := by simp; omega
                have c8p : ¬ 0 < kk := by omega
                clear hp hn2
                as_aux_lemma =>
                  go_wp2_with fail
                  go_meet
                  exact ⟨by rw [c1], rfl, rfl⟩
              · have c1 : decide (kq < lq) = true := by simp; omega
                have c1p : kq < lq := by omega
                have c2 : decide (0 < kr) = false := by simp; omega
                have c2p : ¬ 0 < kr := by omega
                have c4 : decide (0 < ka) = false := by simp; omega
                have c4p : ¬ 0 < ka := by omega
                have c5 : decide (ka < la) = true := by simp; omega
                have c5p : ka < la := by omega
                have c6 : decide (0 < kn) = false := by simp; omega
                have c6p : ¬ 0 < kn := by omega
                have c7 : decide (kn < ln) = false := by simp; omega
                have c7p : ¬ kn < ln := by omega
                clear hp hn2
                as_aux_lemma =>
                  go_wp2_with fail
                  go_meet
                  exact ⟨by rw [c1], rfl, rfl⟩
            · by_cases h7 : 0 < ln
              · have c1 : decide (kq < lq) = true := by simp; omega
                have c1p : kq < lq := by omega
                have c2 : decide (0 < kr) = false := by simp; omega
                have c2p : ¬ 0 < kr := by omega
                have c4 : decide (0 < ka) = false := by simp; omega
                have c4p : ¬ 0 < ka := by omega
                have c5 : decide (ka < la) = false := by simp; omega
                have c5p : ¬ ka < la := by omega
                have c7 : decide (kn < ln) = true := by simp; omega
                have c7p : kn < ln := by omega
                have c8 : decide (0 < kk) = false := by simp; omega
                have c8p : ¬ 0 < kk := by omega
                clear hp hn2
                as_aux_lemma =>
                  go_wp2_with fail
                  go_meet
                  exact ⟨by rw [c1], rfl, rfl⟩
              · have c1 : decide (kq < lq) = true := by simp; omega
                have c1p : kq < lq := by omega
                have c2 : decide (0 < kr) = false := by simp; omega
                have c2p : ¬ 0 < kr := by omega
                have c4 : decide (0 < ka) = false := by simp; omega
                have c4p : ¬ 0 < ka := by omega
                have c5 : decide (ka < la) = false := by simp; omega
                have c5p : ¬ ka < la := by omega
                have c7 : decide (kn < ln) = false := by simp; omega
                have c7p : ¬ kn < ln := by omega
                clear hp hn2
                as_aux_lemma =>
                  go_wp2_with fail
                  go_meet
                  exact ⟨by rw [c1], rfl, rfl⟩
        case rest =>
          obtain ⟨rfl, rfl, rfl⟩ := hcut
          have hn2 := And.intro HE.out.1 HE.out.2.2.1
          rcases HP.out with hp | hp | hp | hp | hp
          · have c1 : decide (kq < lq) = false := by simp; omega
            have c1p : ¬ kq < lq := by omega
            have c5 : decide (ka < la) = false := by simp; omega
            have c5p : ¬ ka < la := by omega
            have c7 : decide (kn < ln) = false := by simp; omega
            have c7p : ¬ kn < ln := by omega
            have hf : f1 = f0 := by have h := HE.out.2.2.2.2; rw [h, if_neg (by have := HE.out; omega)]
            clear hp hn2
            subst hf
            as_aux_lemma =>
              go_wp2_with fail
              refine bodyPost_ret (v := .bool true) ?_ ?_ ?_
              · simp [results, Tryz.results4, go_sem]
              · rfl
              · exact ⟨rfl, HBE.out⟩
          · have c1 : decide (kq < lq) = false := by simp; omega
            have c1p : ¬ kq < lq := by omega
            have c5 : decide (ka < la) = false := by simp; omega
            have c5p : ¬ ka < la := by omega
            have c7 : decide (kn < ln) = true := by simp; omega
            have c7p : kn < ln := by omega
            have hf : f1 = bits .or .i64 f0 512 := by have h := HE.out.2.2.2.2; rw [h, if_pos (by have := HE.out; omega)]
            clear hp hn2
            subst hf
            as_aux_lemma =>
              go_wp2_with fail
              refine bodyPost_ret (v := .bool true) ?_ ?_ ?_
              · simp [results, Tryz.results4, go_sem]
              · rfl
              · exact ⟨rfl, HBE.out⟩
          · have c1 : decide (kq < lq) = false := by simp; omega
            have c1p : ¬ kq < lq := by omega
            have c5 : decide (ka < la) = true := by simp; omega
            have c5p : ka < la := by omega
            have hf : f1 = bits .or .i64 f0 512 := by have h := HE.out.2.2.2.2; rw [h, if_pos (by have := HE.out; omega)]
            clear hp hn2
            subst hf
            as_aux_lemma =>
              go_wp2_with fail
              refine bodyPost_ret (v := .bool true) ?_ ?_ ?_
              · simp [results, Tryz.results4, go_sem]
              · rfl
              · exact ⟨rfl, HBE.out⟩
          · by_cases h5 : 0 < la
            · by_cases h7 : 0 < ln
              · have c1 : decide (kq < lq) = false := by simp; omega
                have c1p : ¬ kq < lq := by omega
                have c5 : decide (ka < la) = true := by simp; omega
                have c5p : ka < la := by omega
                have c7 : decide (kn < ln) = true := by simp; omega
                have c7p : kn < ln := by omega
                have hf : f1 = bits .or .i64 f0 512 := by have h := HE.out.2.2.2.2; rw [h, if_pos (by have := HE.out; omega)]
                clear hp hn2
                subst hf
                as_aux_lemma =>
                  go_wp2_with fail
                  refine bodyPost_ret (v := .bool true) ?_ ?_ ?_
                  · simp [results, Tryz.results4, go_sem]
                  · rfl
                  · exact ⟨rfl, HBE.out⟩
              · have c1 : decide (kq < lq) = false := by simp; omega
                have c1p : ¬ kq < lq := by omega
                have c5 : decide (ka < la) = true := by simp; omega
                have c5p : ka < la := by omega
                have c7 : decide (kn < ln) = false := by simp; omega
                have c7p : ¬ kn < ln := by omega
                have hf : f1 = bits .or .i64 f0 512 := by have h := HE.out.2.2.2.2; rw [h, if_pos (by have := HE.out; omega)]
                clear hp hn2
                subst hf
                as_aux_lemma =>
                  go_wp2_with fail
                  refine bodyPost_ret (v := .bool true) ?_ ?_ ?_
                  · simp [results, Tryz.results4, go_sem]
                  · rfl
                  · exact ⟨rfl, HBE.out⟩
            · by_cases h7 : 0 < ln
              · have c1 : decide (kq < lq) = false := by simp; omega
                have c1p : ¬ kq < lq := by omega
                have c5 : decide (ka < la) = false := by simp; omega
                have c5p : ¬ ka < la := by omega
                have c7 : decide (kn < ln) = true := by simp; omega
                have c7p : kn < ln := by omega
                have hf : f1 = bits .or .i64 f0 512 := by have h := HE.out.2.2.2.2; rw [h, if_pos (by have := HE.out; omega)]
                clear hp hn2
                subst hf
                as_aux_lemma =>
                  go_wp2_with fail
                  refine bodyPost_ret (v := .bool true) ?_ ?_ ?_
                  · simp [results, Tryz.results4, go_sem]
                  · rfl
                  · exact ⟨rfl, HBE.out⟩
              · have c1 : decide (kq < lq) = false := by simp; omega
                have c1p : ¬ kq < lq := by omega
                have c5 : decide (ka < la) = false := by simp; omega
                have c5p : ¬ ka < la := by omega
                have c7 : decide (kn < ln) = false := by simp; omega
                have c7p : ¬ kn < ln := by omega
                have hf : f1 = f0 := by have h := HE.out.2.2.2.2; rw [h, if_neg (by have := HE.out; omega)]
                clear hp hn2
                subst hf
                as_aux_lemma =>
                  go_wp2_with fail
                  refine bodyPost_ret (v := .bool true) ?_ ?_ ?_
                  · simp [results, Tryz.results4, go_sem]
                  · rfl
                  · exact ⟨rfl, HBE.out⟩
          · have c1 : decide (kq < lq) = true := by simp; omega
            have c1p : kq < lq := by omega
            have hf : f1 = bits .or .i64 f0 512 := by have h := HE.out.2.2.2.2; rw [h, if_pos (by have := HE.out; omega)]
            clear hp hn2
            subst hf
            as_aux_lemma =>
              go_wp2_with fail
              refine bodyPost_ret (v := .bool true) ?_ ?_ ?_
              · simp [results, Tryz.results4, go_sem]
              · rfl
              · exact ⟨rfl, HBE.out⟩
    · have tE : (E != 0) = true := by simpa using hE
      go_wp2_with fail
      go_ret
      exact ⟨rfl, HB4.out.2.2⟩
  · go_wp2_with fail
    go_ret
    exact ⟨rfl, HB3.out.2.2⟩
end Go.Proofs.YteegekpanadmkaaGreat
