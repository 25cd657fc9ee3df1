/-
  With more bytes no more is left out: TrimMore.
-/
import Derived.Test.YteegekpanadmkaaGreatZ17
import Derived.Test.YteegekpanadmkaaGreatZ13
namespace Go.Proofs.YteegekpanadmkaaGreat
open Go.RowKit Go.Shelf
set_option linter.unusedVariables false
set_option linter.unusedSimpArgs false
set_option maxRecDepth 100000

theorem fitW_mono {m : Ms} {a b : Int} (h : fitW m a = true) (hab : a ≤ b) : fitW m b = true := by
  obtain ⟨z, hz, hl⟩ := fitW_len h
  unfold fitW
  rw [hz]
  simp
  omega

/-- What the statement wants of the three answers. -/
theorem more_facts {m : Ms} (h : chkM m = 0) {S T : Int} (hS : 12 ≤ S) (hT : S ≤ T) (hT2 : T ≤ 65535) : ∃ (F1 F2 : Nat) (z1 z2 : List UInt8),
    fitA m S = (some z1, F1, 0) ∧ fitA m T = (some z2, F2, 0) ∧ F2 ≤ F1 ∧ (F2 = F1 → z2 = z1) ∧ F1 ≤ totM m ∧ (z1.length : Int) ≤ S ∧ rdM z1 = .ok (mcut m F1) ∧ fitA (mcut m F1) S = (some z1, 0, 0) ∧
    ((F1 = 0 ∧ wrM m = (some z1, 0)) ∨ (F1 ≠ 0 ∧ ((∃ z, wrM m = (some z, 0) ∧ S < (z.length : Int)) ∨ ∃ e, wrM m = (none, e) ∧ e ≠ 0))) := by
  obtain ⟨a1, a2, a3⟩ := fitN_facts h (size := S) hS
  obtain ⟨b1, b2, b3⟩ := fitN_facts h (size := T) (by omega)
  have e1 : fitA m S = ((wrM (mcut m (fitN m S))).1, fitN m S, 0) := by unfold fitA; rw [h, if_neg (by simp), if_neg (by omega)]
  have e2 : fitA m T = ((wrM (mcut m (fitN m T))).1, fitN m T, 0) := by unfold fitA; rw [h, if_neg (by simp), if_neg (by omega)]
  obtain ⟨F1, h1⟩ : ∃ F, fitN m S = F := ⟨_, rfl⟩
  obtain ⟨F2, h2⟩ : ∃ F, fitN m T = F := ⟨_, rfl⟩
  rw [h1] at a1 a2 a3 e1
  rw [h2] at b1 b2 b3 e2
  obtain ⟨z1, y1, l1⟩ := fitW_len a1
  obtain ⟨z2, y2, l2⟩ := fitW_len b1
  rw [y1] at e1
  rw [y2] at e2
  have hle : F2 ≤ F1 := by
    rcases Nat.lt_or_ge F1 F2 with hlt | hge
    · have := b3 F1 hlt
      rw [fitW_mono a1 hT] at this
      cases this
    · exact hge
  have hc := cut_chk h F1
  obtain ⟨c1, c2, c3⟩ := fitN_facts hc (size := S) hS
  have hz : fitN (mcut m F1) S = 0 := by
    rcases Nat.eq_zero_or_pos (fitN (mcut m F1) S) with h0 | h0
    · exact h0
    · have := c3 0 h0
      rw [cut_zero, a1] at this
      cases this
  refine ⟨F1, F2, z1, z2, e1, e2, hle, ?_, a2, l1, wrM_back y1, ?_, ?_⟩
  · intro he
    subst he
    rw [y1] at y2
    simp only [Prod.mk.injEq, Option.some.injEq, and_true] at y2
    exact y2.symm
  · unfold fitA
    rw [hc, if_neg (by simp), if_neg (by omega), hz, cut_zero, y1]
  · by_cases h0 : F1 = 0
    · subst h0
      rw [cut_zero] at y1
      exact .inl ⟨rfl, y1⟩
    · refine .inr ⟨h0, ?_⟩
      have h3 := a3 0 (by omega)
      rw [cut_zero] at h3
      rcases wrM_how m with ⟨z, hw⟩ | ⟨e, hw, he⟩
      · refine .inl ⟨z, hw, ?_⟩
        unfold fitW at h3
        rw [hw] at h3
        simpa using h3
      · exact .inr ⟨e, hw, he⟩

set_option maxHeartbeats 16000000 in
theorem more10_any {w : World} {u : Value} {m : Ms} (p0 p1 : Int) (h : Mg w w.heap.size u m) : Calls Tryz.prog 5 #[u, .int .i64 p0, .int .i64 p1] w (Tells w (.bool true)) := by
  have HAw := Lib.hid (fun wx => awake10_any wx)
  obtain ⟨q, a, n, r, rfl, hq, ha, hn, hr⟩ := h
  obtain ⟨qa, qc, rfl⟩ := Lst.shape hq
  obtain ⟨aa, ac, rfl⟩ := Lst.shape ha
  obtain ⟨na, nc, rfl⟩ := Lst.shape hn
  obtain ⟨ra, rc, rfl⟩ := Lst.shape hr
  have hm : Mg w w.heap.size (.agg #[.int .i64 m.id, .int .i64 m.fl, .slice qa m.q.length qc, .slice aa m.an.length ac, .slice na m.ns.length nc, .slice ra m.ar.length rc]) m := ⟨_, _, _, _, rfl, hq, ha, hn, hr⟩
  obtain ⟨i0, hi0⟩ : ∃ i, m.id = i := ⟨_, rfl⟩
  obtain ⟨f0, hf0⟩ : ∃ i, m.fl = i := ⟨_, rfl⟩
  obtain ⟨lq, hlq⟩ : ∃ i, m.q.length = i := ⟨_, rfl⟩
  obtain ⟨la, hla⟩ : ∃ i, m.an.length = i := ⟨_, rfl⟩
  obtain ⟨ln, hln⟩ : ∃ i, m.ns.length = i := ⟨_, rfl⟩
  obtain ⟨lr, hlr⟩ : ∃ i, m.ar.length = i := ⟨_, rfl⟩
  obtain ⟨R, hR⟩ : ∃ r, bigMs 60 3000 m = r := ⟨_, rfl⟩
  obtain ⟨E, hEE⟩ : ∃ E, chkM m = E := ⟨_, rfl⟩
  rw [hi0, hf0, hlq, hla, hln, hlr] at hm ⊢
  obtain ⟨N, hN⟩ : ∃ N, w.heap.size = N := ⟨_, rfl⟩
  obtain ⟨W1, hW1⟩ : ∃ X, w.alloc (.cells #[.int .i64 i0, .int .i64 f0, .slice qa lq qc, .slice aa la ac, .slice na ln nc, .slice ra lr rc] 25) = X := ⟨_, rfl⟩
  have hb1 : Below w.heap.size w W1 := by rw [← hW1]; exact (Below.refl _ _).alloc (Nat.le_refl _) _
  have hx := cel_new6 w (.int .i64 i0) (.int .i64 f0) (.slice qa lq qc) (.slice aa la ac) (.slice na ln nc) (.slice ra lr rc) 25
  rw [hN, hW1] at hx
  have HM := Lib.hid (And.intro (hm.later hb1) (And.intro hx hb1))
  have HRE := Lib.hid (And.intro hR hEE)
  clear hm hq ha hn hr hi0 hf0 hlq hla hln hlr hb1 hx hR hEE
  go_enter Tryz.func5, Tryz.ntmps5
  go_wp2_with fail
  clear hW1 hN
  refine (HAw.out W1).mono ?_; rintro e w2 ⟨rfl, hb⟩
  have hx2 := HM.out.2.1.below (by simp) hb
  have HB2 := Lib.hid (And.intro (HM.out.1.later hb) (And.intro hx2 (HM.out.2.2.trans (hb.mono HM.out.2.2.size))))
  obtain ⟨x0, x1, x2, x3, x4, x5⟩ := hx2.six
  have HBG := Lib.hid (big10_any HB2.out.1)
  rw [HRE.out.1] at HBG
  clear hb hx2 HM
  go_wp2_with fail
  refine HBG.out.mono ?_; rintro e w3 ⟨rfl, hb⟩
  have hx2 := HB2.out.2.1.below (by simp) hb
  have HB3 := Lib.hid (And.intro (HB2.out.1.later hb) (And.intro hx2 (HB2.out.2.2.trans (hb.mono HB2.out.2.2.size))))
  clear x0 x1 x2 x3 x4 x5
  obtain ⟨x0, x1, x2, x3, x4, x5⟩ := hx2.six
  clear hb hx2 HB2
  rcases R with _ | _
  · have HCK := Lib.hid (checkM_any HB3.out.1 (Nat.le_refl _) (big_fine (by decide) HRE.out.1))
    rw [HRE.out.2] at HCK
    go_wp2_with fail
    refine HCK.out.mono ?_; rintro e w4 ⟨rfl, hb⟩
    have hx2 := HB3.out.2.1.below (by simp) hb
    have HB4 := Lib.hid (And.intro (HB3.out.1.later hb) (And.intro hx2 (HB3.out.2.2.trans (hb.mono HB3.out.2.2.size))))
    clear x0 x1 x2 x3 x4 x5
    obtain ⟨x0, x1, x2, x3, x4, x5⟩ := hx2.six
    clear hb hx2 HB3 HCK HBG
    by_cases hE : E = 0
    · subst hE
      have HPK := Lib.hid (pick_any p0 2000 w4 (by decide) (by decide))
      have HPK2 := Lib.hid (pick_any p1 3000 w4 (by decide) (by decide))
      go_wp2_with fail
      refine HPK.out.mono ?_; rintro e w5 ⟨k, hk, rfl, rfl⟩
      obtain ⟨S, hS⟩ : ∃ S, 12 + k = S := ⟨_, rfl⟩
      have hSw : IntKind.i64.wrap (12 + (k : Int)) = (S : Int) := by rw [IntWalk.i64_in _ (by omega)]; omega
      have hSp : 12 + (k : Int) = (S : Int) := by omega
      have hS2 : S ≤ 2012 := by omega
      have hS1 : 12 ≤ S := by omega
      clear hS hk HPK
      go_wp2_with fail
      refine HPK2.out.mono ?_; rintro e w5 ⟨k2, hk2, rfl, rfl⟩
      obtain ⟨T, hT⟩ : ∃ T, S + k2 = T := ⟨_, rfl⟩
      have hTw : IntKind.i64.wrap ((S : Int) + (k2 : Int)) = (T : Int) := by rw [IntWalk.i64_in _ (by omega)]; omega
      have hTp : (S : Int) + (k2 : Int) = (T : Int) := by omega
      have hT2 : T ≤ 5012 := by omega
      have hT1 : S ≤ T := by omega
      clear hT hk2 HPK2
      obtain ⟨F1, F2, z1, z2, hfa, hfb, hle, hzz, hFt, hzl, hrd, hfc, hco⟩ := more_facts HRE.out.2 (S := (S : Int)) (T := (T : Int)) (by omega) (by omega) (by omega)
      have hFm : F1 ≤ 60 := by have := (bigMs_no HRE.out.1).1; unfold totM at hFt; omega
      have hfin := big_fine (by decide) HRE.out.1
      have htot : totM m ≤ 1100 := by have := (bigMs_no HRE.out.1).1; unfold totM; omega
      have HFT := Lib.hid (fit_any HB4.out.1 (Nat.le_refl _) hfin htot (S : Int))
      rw [hfa] at HFT
      have HFT2 := Lib.hid (fun wx (hb : Below w4.heap.size w4 wx) => fit_any (HB4.out.1.later hb) (Nat.le_refl _) hfin htot (T : Int))
      rw [hfb] at HFT2
      have HFC := Lib.hid (And.intro hrd (And.intro hfc (And.intro (cut_fine hfin F1) (Nat.le_trans (cut_tot m F1) htot))))
      have HWR := Lib.hid (fun wx (hb : Below w4.heap.size w4 wx) => writeM_any (HB4.out.1.later hb) (Nat.le_refl _) hfin htot)
      clear hfa hfb hrd hfc hFt hfin htot hSw hSp
      go_wp2_with fail
      clear hTw hTp
      refine HFT.out.mono ?_; rintro e w6 ⟨v6, rfl, ho6, hb⟩
      obtain ⟨a6, c6, rfl⟩ := OwnB.shape ho6
      have hx2 := HB4.out.2.1.below (by simp) hb
      have HB6 := Lib.hid (And.intro hb (HB4.out.2.2.trans (hb.mono HB4.out.2.2.size)))
      clear x0 x1 x2 x3 x4 x5
      obtain ⟨x0, x1, x2, x3, x4, x5⟩ := hx2.six
      have HO6 := Lib.hid ho6
      have HFT2 := Lib.hid (HFT2.out _ hb)
      simp only [Option.getD_some] at HO6 ⊢
      obtain ⟨L1, hL1⟩ : ∃ L, z1.length = L := ⟨_, rfl⟩
      rw [hL1] at hzl HO6 ⊢
      clear hb hx2 HFT ho6
      go_wp2_with fail
      refine HFT2.out.mono ?_; rintro e w7 ⟨v7, rfl, ho7, hb⟩
      obtain ⟨a7, c7, rfl⟩ := OwnB.shape ho7
      have hb7 := HB6.out.1.trans (hb.mono HB6.out.1.size)
      have hx2 := HB4.out.2.1.below (by simp) hb7
      have HB7 := Lib.hid (And.intro hb7 (HB4.out.2.2.trans (hb7.mono HB4.out.2.2.size)))
      clear x0 x1 x2 x3 x4 x5
      obtain ⟨x0, x1, x2, x3, x4, x5⟩ := hx2.six
      have HO7 := Lib.hid ho7
      have HO67 := Lib.hid (HO6.out.below hb)
      have HWR := Lib.hid (HWR.out _ hb7)
      simp only [Option.getD_some] at HO7 ⊢
      obtain ⟨L2, hL2⟩ : ∃ L, z2.length = L := ⟨_, rfl⟩
      rw [hL2] at HO7 ⊢
      have HRD := Lib.hid (fun (wx : World) (hb : Below w7.heap.size w7 wx) => readM_any (OwnB.sl (HO67.out.below hb)) (Nat.le_refl _) (by rw [hL1]; omega))
      rw [HFC.out.1] at HRD
      clear hb hb7 hx2 HFT2 ho7 HB6 HB4 HAw HO6
      have q0 : ∀ t : Nat, ¬ t = 0 → ((t : Int) == 0) = false := fun t ht => by simp; omega
      have HLL := Lib.hid (And.intro hL1 hL2)
      clear hL1 hL2
      rcases hco with ⟨rfl, hw⟩ | ⟨h0, hw⟩
      · rw [hw] at HWR
        obtain rfl : F2 = 0 := by omega
        clear hle
        have hzz2 := hzz rfl
        subst hzz2
        have hLe : L2 = L1 := HLL.out.2.symm.trans HLL.out.1
        subst hLe
        have HS12 := Lib.hid (same_any HO67.out.sl HO7.out.sl)
        go_wp2_with fail
        refine HS12.out.mono ?_; rintro e0 w8 ⟨rfl, rfl⟩
        go_wp2_with fail
        refine HWR.out.mono ?_; rintro e w8 ⟨v8, rfl, ho8, hb⟩
        obtain ⟨a8, c8, rfl⟩ := OwnB.shape ho8
        have HO8 := Lib.hid ho8
        have HB8 := Lib.hid (And.intro hb hb)
        have HO68 := Lib.hid (HO67.out.below hb)
        have HRR := Lib.hid (HRD.out _ hb)
        clear hb ho8 HWR HRD x0 x1 x2 x3 x4 x5
        simp only [Option.getD_some] at HO8 ⊢
        rw [HLL.out.1] at HO8 ⊢
        have tl : decide ((L2 : Int) ≤ (S : Int)) = true := by simp; omega
        have HS8 := Lib.hid (same_any HO68.out.sl HO8.out.sl)
        go_wp2_with fail
        refine HS8.out.mono ?_; rintro e0 w8x ⟨rfl, rfl⟩
        go_wp2_with fail
        refine HRR.out.mono ?_; rintro e w9 ⟨v9, rfl, hm9, hb⟩
        have hb9 := HB8.out.1.trans (hb.mono HB8.out.1.size)
        have HO69 := Lib.hid (HO67.out.below hb9)
        have hB9 := HB7.out.2.trans (hb9.mono HB7.out.2.size)
        obtain ⟨q, a, n, r, rfl, hq, ha, hn, hr⟩ := hm9
        obtain ⟨ya, yc, rfl⟩ := Lst.shape hq
        obtain ⟨ba, bc, rfl⟩ := Lst.shape ha
        obtain ⟨oa, oc, rfl⟩ := Lst.shape hn
        obtain ⟨ta, tc, rfl⟩ := Lst.shape hr
        obtain ⟨cm, hcm⟩ : ∃ cm, mcut m 0 = cm := ⟨_, rfl⟩
        rw [hcm] at HFC hq ha hn hr ⊢
        have hm71 : Mg w9 w9.heap.size (.agg #[.int .i64 cm.id, .int .i64 cm.fl, .slice ya cm.q.length yc, .slice ba cm.an.length bc, .slice oa cm.ns.length oc, .slice ta cm.ar.length tc]) cm := ⟨_, _, _, _, rfl, hq, ha, hn, hr⟩
        obtain ⟨i1, hi1⟩ : ∃ i, cm.id = i := ⟨_, rfl⟩
        obtain ⟨f1, hf1⟩ : ∃ i, cm.fl = i := ⟨_, rfl⟩
        obtain ⟨kq, hkq⟩ : ∃ i, cm.q.length = i := ⟨_, rfl⟩
        obtain ⟨ka, hka⟩ : ∃ i, cm.an.length = i := ⟨_, rfl⟩
        obtain ⟨kn, hkn⟩ : ∃ i, cm.ns.length = i := ⟨_, rfl⟩
        obtain ⟨kr, hkr⟩ : ∃ i, cm.ar.length = i := ⟨_, rfl⟩
        rw [hi1, hf1, hkq, hka, hkn, hkr] at hm71 ⊢
        obtain ⟨G, hG⟩ : ∃ G, w9.heap.size = G := ⟨_, rfl⟩
        obtain ⟨W8, hW8⟩ : ∃ X, (w9.alloc (.cells #[.int .i64 i1, .int .i64 f1, .slice ya kq yc, .slice ba ka bc, .slice oa kn oc, .slice ta kr tc] 25)).alloc (.cells #[.int .i64 0, .int .i64 0] 42) = X := ⟨_, rfl⟩
        have hbA : Below w9.heap.size w9 W8 := by rw [← hW8]; exact ((Below.refl _ _).alloc (Nat.le_refl _) _).alloc (by simp) _
        have hy8 : Cel W8 G [.int .i64 i1, .int .i64 f1, .slice ya kq yc, .slice ba ka bc, .slice oa kn oc, .slice ta kr tc] := by
          rw [← hW8, ← hG]
          exact (cel_new6 w9 _ _ _ _ _ _ 25).below (by simp) ((Below.refl _ _).alloc (Nat.le_refl _) _)
        have hz8 : Cel W8 (G + 1) [.int .i64 0, .int .i64 0] := by
          have := cel_new2 (w9.alloc (.cells #[.int .i64 i1, .int .i64 f1, .slice ya kq yc, .slice ba ka bc, .slice oa kn oc, .slice ta kr tc] 25)) (.int .i64 0) (.int .i64 0) 42
          rwa [World.size_alloc, hG, hW8] at this
        have HOW := Lib.hid (HO69.out.below hbA)
        have HBW := Lib.hid (hB9.trans (hbA.mono hB9.size))
        have HFD := Lib.hid (fit_any (hm71.later hbA) (Nat.le_refl _) HFC.out.2.2.1 HFC.out.2.2.2 (S : Int))
        rw [HFC.out.2.1] at HFD
        obtain ⟨y0, y1, y2, y3, y4, y5⟩ := hy8.six
        have HZ := Lib.hid hz8
        clear hq ha hn hr hb hb9 hB9 hm71 hbA hy8 hz8 hi1 hf1 hkq hka hkn hkr hcm HO69 HRR HB8
        subst hW8
        go_wp2_with fail
        obtain ⟨W8, hW8⟩ : ∃ X, (w9.alloc (.cells #[.int .i64 i1, .int .i64 f1, .slice ya kq yc, .slice ba ka bc, .slice oa kn oc, .slice ta kr tc] 25)).alloc (.cells #[.int .i64 0, .int .i64 0] 42) = X := ⟨_, rfl⟩
        rw [hW8] at HOW HBW HFD HZ ⊢
        clear y0 y1 y2 y3 y4 y5
        refine HFD.out.mono ?_; rintro e wa ⟨va, rfl, hoa, hb⟩
        obtain ⟨aa', ca', rfl⟩ := OwnB.shape hoa
        have z0 := (HZ.out.below (by simp) hb).c 0 (by simp)
        have HSM := Lib.hid (same_any hoa.sl (HOW.out.below hb).sl)
        simp only [Option.getD_some] at HSM ⊢
        rw [HLL.out.1] at HSM ⊢
        have HBZ := Lib.hid (HBW.out.trans (hb.mono HBW.out.size))
        clear hoa hb HFD HOW HBW HZ hG hW8
        go_wp2_with fail
        refine HSM.out.mono ?_; rintro e0 wb ⟨rfl, rfl⟩
        go_wp2_with fail
        go_ret
        exact ⟨rfl, HBZ.out⟩
      · by_cases h12 : F2 = F1
        · subst h12
          have gt1 : decide ((F2 : Int) < (F2 : Int)) = false := by simp
          rcases hw with ⟨zw, hw, hzw⟩ | ⟨ew, hw, hew⟩
          · rw [hw] at HWR
            have hzz2 := hzz rfl
            subst hzz2
            have hLe : L2 = L1 := HLL.out.2.symm.trans HLL.out.1
            subst hLe
            have HS12 := Lib.hid (same_any HO67.out.sl HO7.out.sl)
            go_wp2_with fail
            refine HS12.out.mono ?_; rintro e0 w8 ⟨rfl, rfl⟩
            go_wp2_with fail
            refine HWR.out.mono ?_; rintro e w8 ⟨v8, rfl, ho8, hb⟩
            obtain ⟨a8, c8, rfl⟩ := OwnB.shape ho8
            have HO8 := Lib.hid ho8
            have HB8 := Lib.hid (And.intro hb hb)
            have HO68 := Lib.hid (HO67.out.below hb)
            have HRR := Lib.hid (HRD.out _ hb)
            clear hb ho8 HWR HRD x0 x1 x2 x3 x4 x5
            simp only [Option.getD_some] at HO8 ⊢
            obtain ⟨LW, hLW⟩ : ∃ L, zw.length = L := ⟨_, rfl⟩
            rw [hLW] at hzw HO8 ⊢
            have tl : decide ((LW : Int) ≤ (S : Int)) = false := by simp; omega
            have tq := q0 F2 h0
            go_wp2_with fail
            refine HRR.out.mono ?_; rintro e w9 ⟨v9, rfl, hm9, hb⟩
            have hb9 := HB8.out.1.trans (hb.mono HB8.out.1.size)
            have HO69 := Lib.hid (HO67.out.below hb9)
            have hB9 := HB7.out.2.trans (hb9.mono HB7.out.2.size)
            obtain ⟨q, a, n, r, rfl, hq, ha, hn, hr⟩ := hm9
            obtain ⟨ya, yc, rfl⟩ := Lst.shape hq
            obtain ⟨ba, bc, rfl⟩ := Lst.shape ha
            obtain ⟨oa, oc, rfl⟩ := Lst.shape hn
            obtain ⟨ta, tc, rfl⟩ := Lst.shape hr
            obtain ⟨cm, hcm⟩ : ∃ cm, mcut m F2 = cm := ⟨_, rfl⟩
            rw [hcm] at HFC hq ha hn hr ⊢
            have hm71 : Mg w9 w9.heap.size (.agg #[.int .i64 cm.id, .int .i64 cm.fl, .slice ya cm.q.length yc, .slice ba cm.an.length bc, .slice oa cm.ns.length oc, .slice ta cm.ar.length tc]) cm := ⟨_, _, _, _, rfl, hq, ha, hn, hr⟩
            obtain ⟨i1, hi1⟩ : ∃ i, cm.id = i := ⟨_, rfl⟩
            obtain ⟨f1, hf1⟩ : ∃ i, cm.fl = i := ⟨_, rfl⟩
            obtain ⟨kq, hkq⟩ : ∃ i, cm.q.length = i := ⟨_, rfl⟩
            obtain ⟨ka, hka⟩ : ∃ i, cm.an.length = i := ⟨_, rfl⟩
            obtain ⟨kn, hkn⟩ : ∃ i, cm.ns.length = i := ⟨_, rfl⟩
            obtain ⟨kr, hkr⟩ : ∃ i, cm.ar.length = i := ⟨_, rfl⟩
            rw [hi1, hf1, hkq, hka, hkn, hkr] at hm71 ⊢
            obtain ⟨G, hG⟩ : ∃ G, w9.heap.size = G := ⟨_, rfl⟩
            obtain ⟨W8, hW8⟩ : ∃ X, (w9.alloc (.cells #[.int .i64 i1, .int .i64 f1, .slice ya kq yc, .slice ba ka bc, .slice oa kn oc, .slice ta kr tc] 25)).alloc (.cells #[.int .i64 0, .int .i64 0] 42) = X := ⟨_, rfl⟩
            have hbA : Below w9.heap.size w9 W8 := by rw [← hW8]; exact ((Below.refl _ _).alloc (Nat.le_refl _) _).alloc (by simp) _
            have hy8 : Cel W8 G [.int .i64 i1, .int .i64 f1, .slice ya kq yc, .slice ba ka bc, .slice oa kn oc, .slice ta kr tc] := by
              rw [← hW8, ← hG]
              exact (cel_new6 w9 _ _ _ _ _ _ 25).below (by simp) ((Below.refl _ _).alloc (Nat.le_refl _) _)
            have hz8 : Cel W8 (G + 1) [.int .i64 0, .int .i64 0] := by
              have := cel_new2 (w9.alloc (.cells #[.int .i64 i1, .int .i64 f1, .slice ya kq yc, .slice ba ka bc, .slice oa kn oc, .slice ta kr tc] 25)) (.int .i64 0) (.int .i64 0) 42
              rwa [World.size_alloc, hG, hW8] at this
            have HOW := Lib.hid (HO69.out.below hbA)
            have HBW := Lib.hid (hB9.trans (hbA.mono hB9.size))
            have HFD := Lib.hid (fit_any (hm71.later hbA) (Nat.le_refl _) HFC.out.2.2.1 HFC.out.2.2.2 (S : Int))
            rw [HFC.out.2.1] at HFD
            obtain ⟨y0, y1, y2, y3, y4, y5⟩ := hy8.six
            have HZ := Lib.hid hz8
            clear hq ha hn hr hb hb9 hB9 hm71 hbA hy8 hz8 hi1 hf1 hkq hka hkn hkr hcm HO69 HRR HB8
            subst hW8
            go_wp2_with fail
            obtain ⟨W8, hW8⟩ : ∃ X, (w9.alloc (.cells #[.int .i64 i1, .int .i64 f1, .slice ya kq yc, .slice ba ka bc, .slice oa kn oc, .slice ta kr tc] 25)).alloc (.cells #[.int .i64 0, .int .i64 0] 42) = X := ⟨_, rfl⟩
            rw [hW8] at HOW HBW HFD HZ ⊢
            clear y0 y1 y2 y3 y4 y5
            refine HFD.out.mono ?_; rintro e wa ⟨va, rfl, hoa, hb⟩
            obtain ⟨aa', ca', rfl⟩ := OwnB.shape hoa
            have z0 := (HZ.out.below (by simp) hb).c 0 (by simp)
            have HSM := Lib.hid (same_any hoa.sl (HOW.out.below hb).sl)
            simp only [Option.getD_some] at HSM ⊢
            rw [HLL.out.1] at HSM ⊢
            have HBZ := Lib.hid (HBW.out.trans (hb.mono HBW.out.size))
            clear hoa hb HFD HOW HBW HZ hG hW8
            go_wp2_with fail
            refine HSM.out.mono ?_; rintro e0 wb ⟨rfl, rfl⟩
            go_wp2_with fail
            go_ret
            exact ⟨rfl, HBZ.out⟩
          · rw [hw] at HWR
            have hzz2 := hzz rfl
            subst hzz2
            have hLe : L2 = L1 := HLL.out.2.symm.trans HLL.out.1
            subst hLe
            have HS12 := Lib.hid (same_any HO67.out.sl HO7.out.sl)
            go_wp2_with fail
            refine HS12.out.mono ?_; rintro e0 w8 ⟨rfl, rfl⟩
            go_wp2_with fail
            refine HWR.out.mono ?_; rintro e w8 ⟨v8, rfl, ho8, hb⟩
            obtain ⟨a8, c8, rfl⟩ := OwnB.shape ho8
            have HO8 := Lib.hid ho8
            have HB8 := Lib.hid (And.intro hb hb)
            have HO68 := Lib.hid (HO67.out.below hb)
            have HRR := Lib.hid (HRD.out _ hb)
            clear hb ho8 HWR HRD x0 x1 x2 x3 x4 x5
            simp only [Option.getD_none, List.length_nil] at HO8 ⊢
            have te : (ew == 0) = false := by simpa using hew
            have tq := q0 F2 h0
            go_wp2_with fail
            refine HRR.out.mono ?_; rintro e w9 ⟨v9, rfl, hm9, hb⟩
            have hb9 := HB8.out.1.trans (hb.mono HB8.out.1.size)
            have HO69 := Lib.hid (HO67.out.below hb9)
            have hB9 := HB7.out.2.trans (hb9.mono HB7.out.2.size)
            obtain ⟨q, a, n, r, rfl, hq, ha, hn, hr⟩ := hm9
            obtain ⟨ya, yc, rfl⟩ := Lst.shape hq
            obtain ⟨ba, bc, rfl⟩ := Lst.shape ha
            obtain ⟨oa, oc, rfl⟩ := Lst.shape hn
            obtain ⟨ta, tc, rfl⟩ := Lst.shape hr
            obtain ⟨cm, hcm⟩ : ∃ cm, mcut m F2 = cm := ⟨_, rfl⟩
            rw [hcm] at HFC hq ha hn hr ⊢
            have hm71 : Mg w9 w9.heap.size (.agg #[.int .i64 cm.id, .int .i64 cm.fl, .slice ya cm.q.length yc, .slice ba cm.an.length bc, .slice oa cm.ns.length oc, .slice ta cm.ar.length tc]) cm := ⟨_, _, _, _, rfl, hq, ha, hn, hr⟩
            obtain ⟨i1, hi1⟩ : ∃ i, cm.id = i := ⟨_, rfl⟩
            obtain ⟨f1, hf1⟩ : ∃ i, cm.fl = i := ⟨_, rfl⟩
            obtain ⟨kq, hkq⟩ : ∃ i, cm.q.length = i := ⟨_, rfl⟩
            obtain ⟨ka, hka⟩ : ∃ i, cm.an.length = i := ⟨_, rfl⟩
            obtain ⟨kn, hkn⟩ : ∃ i, cm.ns.length = i := ⟨_, rfl⟩
            obtain ⟨kr, hkr⟩ : ∃ i, cm.ar.length = i := ⟨_, rfl⟩
            rw [hi1, hf1, hkq, hka, hkn, hkr] at hm71 ⊢
            obtain ⟨G, hG⟩ : ∃ G, w9.heap.size = G := ⟨_, rfl⟩
            obtain ⟨W8, hW8⟩ : ∃ X, (w9.alloc (.cells #[.int .i64 i1, .int .i64 f1, .slice ya kq yc, .slice ba ka bc, .slice oa kn oc, .slice ta kr tc] 25)).alloc (.cells #[.int .i64 0, .int .i64 0] 42) = X := ⟨_, rfl⟩
            have hbA : Below w9.heap.size w9 W8 := by rw [← hW8]; exact ((Below.refl _ _).alloc (Nat.le_refl _) _).alloc (by simp) _
            have hy8 : Cel W8 G [.int .i64 i1, .int .i64 f1, .slice ya kq yc, .slice ba ka bc, .slice oa kn oc, .slice ta kr tc] := by
              rw [← hW8, ← hG]
              exact (cel_new6 w9 _ _ _ _ _ _ 25).below (by simp) ((Below.refl _ _).alloc (Nat.le_refl _) _)
            have hz8 : Cel W8 (G + 1) [.int .i64 0, .int .i64 0] := by
              have := cel_new2 (w9.alloc (.cells #[.int .i64 i1, .int .i64 f1, .slice ya kq yc, .slice ba ka bc, .slice oa kn oc, .slice ta kr tc] 25)) (.int .i64 0) (.int .i64 0) 42
              rwa [World.size_alloc, hG, hW8] at this
            have HOW := Lib.hid (HO69.out.below hbA)
            have HBW := Lib.hid (hB9.trans (hbA.mono hB9.size))
            have HFD := Lib.hid (fit_any (hm71.later hbA) (Nat.le_refl _) HFC.out.2.2.1 HFC.out.2.2.2 (S : Int))
            rw [HFC.out.2.1] at HFD
            obtain ⟨y0, y1, y2, y3, y4, y5⟩ := hy8.six
            have HZ := Lib.hid hz8
            clear hq ha hn hr hb hb9 hB9 hm71 hbA hy8 hz8 hi1 hf1 hkq hka hkn hkr hcm HO69 HRR HB8
            subst hW8
            go_wp2_with fail
            obtain ⟨W8, hW8⟩ : ∃ X, (w9.alloc (.cells #[.int .i64 i1, .int .i64 f1, .slice ya kq yc, .slice ba ka bc, .slice oa kn oc, .slice ta kr tc] 25)).alloc (.cells #[.int .i64 0, .int .i64 0] 42) = X := ⟨_, rfl⟩
            rw [hW8] at HOW HBW HFD HZ ⊢
            clear y0 y1 y2 y3 y4 y5
            refine HFD.out.mono ?_; rintro e wa ⟨va, rfl, hoa, hb⟩
            obtain ⟨aa', ca', rfl⟩ := OwnB.shape hoa
            have z0 := (HZ.out.below (by simp) hb).c 0 (by simp)
            have HSM := Lib.hid (same_any hoa.sl (HOW.out.below hb).sl)
            simp only [Option.getD_some] at HSM ⊢
            rw [HLL.out.1] at HSM ⊢
            have HBZ := Lib.hid (HBW.out.trans (hb.mono HBW.out.size))
            clear hoa hb HFD HOW HBW HZ hG hW8
            go_wp2_with fail
            refine HSM.out.mono ?_; rintro e0 wb ⟨rfl, rfl⟩
            go_wp2_with fail
            go_ret
            exact ⟨rfl, HBZ.out⟩
        · have gt1 : decide ((F1 : Int) < (F2 : Int)) = false := by simp; omega
          have gt2 : ¬ ((F1 : Int) < (F2 : Int)) := by omega
          have ge1 : ((F2 : Int) == (F1 : Int)) = false := by simp; omega
          rcases hw with ⟨zw, hw, hzw⟩ | ⟨ew, hw, hew⟩
          · rw [hw] at HWR
            go_wp2_with fail
            refine HWR.out.mono ?_; rintro e w8 ⟨v8, rfl, ho8, hb⟩
            obtain ⟨a8, c8, rfl⟩ := OwnB.shape ho8
            have HO8 := Lib.hid ho8
            have HB8 := Lib.hid (And.intro hb hb)
            have HO68 := Lib.hid (HO67.out.below hb)
            have HRR := Lib.hid (HRD.out _ hb)
            clear hb ho8 HWR HRD x0 x1 x2 x3 x4 x5
            simp only [Option.getD_some] at HO8 ⊢
            obtain ⟨LW, hLW⟩ : ∃ L, zw.length = L := ⟨_, rfl⟩
            rw [hLW] at hzw HO8 ⊢
            have tl : decide ((LW : Int) ≤ (S : Int)) = false := by simp; omega
            have tq := q0 F1 h0
            go_wp2_with fail
            refine HRR.out.mono ?_; rintro e w9 ⟨v9, rfl, hm9, hb⟩
            have hb9 := HB8.out.1.trans (hb.mono HB8.out.1.size)
            have HO69 := Lib.hid (HO67.out.below hb9)
            have hB9 := HB7.out.2.trans (hb9.mono HB7.out.2.size)
            obtain ⟨q, a, n, r, rfl, hq, ha, hn, hr⟩ := hm9
            obtain ⟨ya, yc, rfl⟩ := Lst.shape hq
            obtain ⟨ba, bc, rfl⟩ := Lst.shape ha
            obtain ⟨oa, oc, rfl⟩ := Lst.shape hn
            obtain ⟨ta, tc, rfl⟩ := Lst.shape hr
            obtain ⟨cm, hcm⟩ : ∃ cm, mcut m F1 = cm := ⟨_, rfl⟩
            rw [hcm] at HFC hq ha hn hr ⊢
            have hm71 : Mg w9 w9.heap.size (.agg #[.int .i64 cm.id, .int .i64 cm.fl, .slice ya cm.q.length yc, .slice ba cm.an.length bc, .slice oa cm.ns.length oc, .slice ta cm.ar.length tc]) cm := ⟨_, _, _, _, rfl, hq, ha, hn, hr⟩
            obtain ⟨i1, hi1⟩ : ∃ i, cm.id = i := ⟨_, rfl⟩
            obtain ⟨f1, hf1⟩ : ∃ i, cm.fl = i := ⟨_, rfl⟩
            obtain ⟨kq, hkq⟩ : ∃ i, cm.q.length = i := ⟨_, rfl⟩
            obtain ⟨ka, hka⟩ : ∃ i, cm.an.length = i := ⟨_, rfl⟩
            obtain ⟨kn, hkn⟩ : ∃ i, cm.ns.length = i := ⟨_, rfl⟩
            obtain ⟨kr, hkr⟩ : ∃ i, cm.ar.length = i := ⟨_, rfl⟩
            rw [hi1, hf1, hkq, hka, hkn, hkr] at hm71 ⊢
            obtain ⟨G, hG⟩ : ∃ G, w9.heap.size = G := ⟨_, rfl⟩
            obtain ⟨W8, hW8⟩ : ∃ X, (w9.alloc (.cells #[.int .i64 i1, .int .i64 f1, .slice ya kq yc, .slice ba ka bc, .slice oa kn oc, .slice ta kr tc] 25)).alloc (.cells #[.int .i64 0, .int .i64 0] 42) = X := ⟨_, rfl⟩
            have hbA : Below w9.heap.size w9 W8 := by rw [← hW8]; exact ((Below.refl _ _).alloc (Nat.le_refl _) _).alloc (by simp) _
            have hy8 : Cel W8 G [.int .i64 i1, .int .i64 f1, .slice ya kq yc, .slice ba ka bc, .slice oa kn oc, .slice ta kr tc] := by
              rw [← hW8, ← hG]
              exact (cel_new6 w9 _ _ _ _ _ _ 25).below (by simp) ((Below.refl _ _).alloc (Nat.le_refl _) _)
            have hz8 : Cel W8 (G + 1) [.int .i64 0, .int .i64 0] := by
              have := cel_new2 (w9.alloc (.cells #[.int .i64 i1, .int .i64 f1, .slice ya kq yc, .slice ba ka bc, .slice oa kn oc, .slice ta kr tc] 25)) (.int .i64 0) (.int .i64 0) 42
              rwa [World.size_alloc, hG, hW8] at this
            have HOW := Lib.hid (HO69.out.below hbA)
            have HBW := Lib.hid (hB9.trans (hbA.mono hB9.size))
            have HFD := Lib.hid (fit_any (hm71.later hbA) (Nat.le_refl _) HFC.out.2.2.1 HFC.out.2.2.2 (S : Int))
            rw [HFC.out.2.1] at HFD
            obtain ⟨y0, y1, y2, y3, y4, y5⟩ := hy8.six
            have HZ := Lib.hid hz8
            clear hq ha hn hr hb hb9 hB9 hm71 hbA hy8 hz8 hi1 hf1 hkq hka hkn hkr hcm HO69 HRR HB8
            subst hW8
            go_wp2_with fail
            obtain ⟨W8, hW8⟩ : ∃ X, (w9.alloc (.cells #[.int .i64 i1, .int .i64 f1, .slice ya kq yc, .slice ba ka bc, .slice oa kn oc, .slice ta kr tc] 25)).alloc (.cells #[.int .i64 0, .int .i64 0] 42) = X := ⟨_, rfl⟩
            rw [hW8] at HOW HBW HFD HZ ⊢
            clear y0 y1 y2 y3 y4 y5
            refine HFD.out.mono ?_; rintro e wa ⟨va, rfl, hoa, hb⟩
            obtain ⟨aa', ca', rfl⟩ := OwnB.shape hoa
            have z0 := (HZ.out.below (by simp) hb).c 0 (by simp)
            have HSM := Lib.hid (same_any hoa.sl (HOW.out.below hb).sl)
            simp only [Option.getD_some] at HSM ⊢
            rw [HLL.out.1] at HSM ⊢
            have HBZ := Lib.hid (HBW.out.trans (hb.mono HBW.out.size))
            clear hoa hb HFD HOW HBW HZ hG hW8
            go_wp2_with fail
            refine HSM.out.mono ?_; rintro e0 wb ⟨rfl, rfl⟩
            go_wp2_with fail
            go_ret
            exact ⟨rfl, HBZ.out⟩
          · rw [hw] at HWR
            go_wp2_with fail
            refine HWR.out.mono ?_; rintro e w8 ⟨v8, rfl, ho8, hb⟩
            obtain ⟨a8, c8, rfl⟩ := OwnB.shape ho8
            have HO8 := Lib.hid ho8
            have HB8 := Lib.hid (And.intro hb hb)
            have HO68 := Lib.hid (HO67.out.below hb)
            have HRR := Lib.hid (HRD.out _ hb)
            clear hb ho8 HWR HRD x0 x1 x2 x3 x4 x5
            simp only [Option.getD_none, List.length_nil] at HO8 ⊢
            have te : (ew == 0) = false := by simpa using hew
            have tq := q0 F1 h0
            go_wp2_with fail
            refine HRR.out.mono ?_; rintro e w9 ⟨v9, rfl, hm9, hb⟩
            have hb9 := HB8.out.1.trans (hb.mono HB8.out.1.size)
            have HO69 := Lib.hid (HO67.out.below hb9)
            have hB9 := HB7.out.2.trans (hb9.mono HB7.out.2.size)
            obtain ⟨q, a, n, r, rfl, hq, ha, hn, hr⟩ := hm9
            obtain ⟨ya, yc, rfl⟩ := Lst.shape hq
            obtain ⟨ba, bc, rfl⟩ := Lst.shape ha
            obtain ⟨oa, oc, rfl⟩ := Lst.shape hn
            obtain ⟨ta, tc, rfl⟩ := Lst.shape hr
            obtain ⟨cm, hcm⟩ : ∃ cm, mcut m F1 = cm := ⟨_, rfl⟩
            rw [hcm] at HFC hq ha hn hr ⊢
            have hm71 : Mg w9 w9.heap.size (.agg #[.int .i64 cm.id, .int .i64 cm.fl, .slice ya cm.q.length yc, .slice ba cm.an.length bc, .slice oa cm.ns.length oc, .slice ta cm.ar.length tc]) cm := ⟨_, _, _, _, rfl, hq, ha, hn, hr⟩
            obtain ⟨i1, hi1⟩ : ∃ i, cm.id = i := ⟨_, rfl⟩
            obtain ⟨f1, hf1⟩ : ∃ i, cm.fl = i := ⟨_, rfl⟩
            obtain ⟨kq, hkq⟩ : ∃ i, cm.q.length = i := ⟨_, rfl⟩
            obtain ⟨ka, hka⟩ : ∃ i, cm.an.length = i := ⟨_, rfl⟩
            obtain ⟨kn, hkn⟩ : ∃ i, cm.ns.length = i := ⟨_, rfl⟩
            obtain ⟨kr, hkr⟩ : ∃ i, cm.ar.length = i := ⟨_, rfl⟩
            rw [hi1, hf1, hkq, hka, hkn, hkr] at hm71 ⊢
            obtain ⟨G, hG⟩ : ∃ G, w9.heap.size = G := ⟨_, rfl⟩
            obtain ⟨W8, hW8⟩ : ∃ X, (w9.alloc (.cells #[.int .i64 i1, .int .i64 f1, .slice ya kq yc, .slice ba ka bc, .slice oa kn oc, .slice ta kr tc] 25)).alloc (.cells #[.int .i64 0, .int .i64 0] 42) = X := ⟨_, rfl⟩
            have hbA : Below w9.heap.size w9 W8 := by rw [← hW8]; exact ((Below.refl _ _).alloc (Nat.le_refl _) _).alloc (by simp) _
            have hy8 : Cel W8 G [.int .i64 i1, .int .i64 f1, .slice ya kq yc, .slice ba ka bc, .slice oa kn oc, .slice ta kr tc] := by
              rw [← hW8, ← hG]
              exact (cel_new6 w9 _ _ _ _ _ _ 25).below (by simp) ((Below.refl _ _).alloc (Nat.le_refl _) _)
            have hz8 : Cel W8 (G + 1) [.int .i64 0, .int .i64 0] := by
              have := cel_new2 (w9.alloc (.cells #[.int .i64 i1, .int .i64 f1, .slice ya kq yc, .slice ba ka bc, .slice oa kn oc, .slice ta kr tc] 25)) (.int .i64 0) (.int .i64 0) 42
              rwa [World.size_alloc, hG, hW8] at this
            have HOW := Lib.hid (HO69.out.below hbA)
            have HBW := Lib.hid (hB9.trans (hbA.mono hB9.size))
            have HFD := Lib.hid (fit_any (hm71.later hbA) (Nat.le_refl _) HFC.out.2.2.1 HFC.out.2.2.2 (S : Int))
            rw [HFC.out.2.1] at HFD
            obtain ⟨y0, y1, y2, y3, y4, y5⟩ := hy8.six
            have HZ := Lib.hid hz8
            clear hq ha hn hr hb hb9 hB9 hm71 hbA hy8 hz8 hi1 hf1 hkq hka hkn hkr hcm HO69 HRR HB8
            subst hW8
            go_wp2_with fail
            obtain ⟨W8, hW8⟩ : ∃ X, (w9.alloc (.cells #[.int .i64 i1, .int .i64 f1, .slice ya kq yc, .slice ba ka bc, .slice oa kn oc, .slice ta kr tc] 25)).alloc (.cells #[.int .i64 0, .int .i64 0] 42) = X := ⟨_, rfl⟩
            rw [hW8] at HOW HBW HFD HZ ⊢
            clear y0 y1 y2 y3 y4 y5
            refine HFD.out.mono ?_; rintro e wa ⟨va, rfl, hoa, hb⟩
            obtain ⟨aa', ca', rfl⟩ := OwnB.shape hoa
            have z0 := (HZ.out.below (by simp) hb).c 0 (by simp)
            have HSM := Lib.hid (same_any hoa.sl (HOW.out.below hb).sl)
            simp only [Option.getD_some] at HSM ⊢
            rw [HLL.out.1] at HSM ⊢
            have HBZ := Lib.hid (HBW.out.trans (hb.mono HBW.out.size))
            clear hoa hb HFD HOW HBW HZ hG hW8
            go_wp2_with fail
            refine HSM.out.mono ?_; rintro e0 wb ⟨rfl, rfl⟩
            go_wp2_with fail
            go_ret
            exact ⟨rfl, HBZ.out⟩
    · have tE : (E != 0) = true := by simpa using hE
      go_wp2_with fail
      go_ret
      exact ⟨rfl, HB4.out.2.2⟩
  · go_wp2_with fail
    go_ret
    exact ⟨rfl, HB3.out.2.2⟩
end Go.Proofs.YteegekpanadmkaaGreat
