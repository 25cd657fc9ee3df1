/-
  What is put is told, also when it was written and read: EdnsBack.
-/
import Derived.Test.YtpdaekgldgoalaaGreatV19
import Derived.Test.YtpdaekgldgoalaaGreatV20
import Derived.Test.YtpdaekgldgoalaaGreatV10
import Derived.SizedLaws
namespace Go.Proofs.YtpdaekgldgoalaaGreat
open Go.RowKit Go.Shelf
set_option linter.unusedVariables false
set_option linter.unusedSimpArgs false
set_option maxRecDepth 100000

set_option maxHeartbeats 16000000 in
theorem back9_any {w : World} {hi hi' : Nat} {u v : Value} {m : Ms} {ed : Ed} (h : Mg w hi u m) (h1 : hi ≤ w.heap.size) (hcap : CapR u m.ar.length) (h' : Eg w hi' v ed) (h1' : hi' ≤ w.heap.size) : Calls Tryz.prog 3 #[u, v] w (Tells w (.bool true)) := by
  have HAw := Lib.hid (fun wx => awake9_any wx)
  obtain ⟨q, a, n, r, rfl, hq, ha, hn, hr⟩ := h
  obtain ⟨o, rfl, hso⟩ := h'
  obtain ⟨qa, qc, rfl⟩ := Lst.shape hq
  obtain ⟨aa, ac, rfl⟩ := Lst.shape ha
  obtain ⟨na, nc, rfl⟩ := Lst.shape hn
  obtain ⟨ra, rc, rfl⟩ := Lst.shape hr
  obtain ⟨oa, oc, rfl⟩ := Lst.shape hso
  have hm : Mg w w.heap.size (.agg #[.int .i64 m.id, .int .i64 m.fl, .slice qa m.q.length qc, .slice aa m.an.length ac, .slice na m.ns.length nc, .slice ra m.ar.length rc]) m := Mg.wide ⟨_, _, _, _, rfl, hq, ha, hn, hr⟩ h1
  have hee : Eg w w.heap.size (.agg #[.int .i64 ed.s, .int .i64 ed.x, .int .i64 ed.v, .bool ed.b, .slice oa ed.o.length oc]) ed := Eg.wide ⟨_, rfl, hso⟩ h1'
  obtain ⟨i0, hi0⟩ : ∃ i, m.id = i := ⟨_, rfl⟩
  obtain ⟨f0, hf0⟩ : ∃ i, m.fl = i := ⟨_, rfl⟩
  obtain ⟨lq, hlq⟩ : ∃ i, m.q.length = i := ⟨_, rfl⟩
  obtain ⟨la, hla⟩ : ∃ i, m.an.length = i := ⟨_, rfl⟩
  obtain ⟨ln, hln⟩ : ∃ i, m.ns.length = i := ⟨_, rfl⟩
  obtain ⟨lr, hlr⟩ : ∃ i, m.ar.length = i := ⟨_, rfl⟩
  obtain ⟨R, hR⟩ : ∃ r, bigMs 100 1000 m = r := ⟨_, rfl⟩
  obtain ⟨R2, hR2⟩ : ∃ r, bigE 20 1000 ed = r := ⟨_, rfl⟩
  rw [hi0, hf0, hlq, hla, hln, hlr] at hm hcap ⊢
  have HCAP := Lib.hid hcap
  have hb : Below w.heap.size w ((w.alloc (.cells #[.int .i64 i0, .int .i64 f0, .slice qa lq qc, .slice aa la ac, .slice na ln nc, .slice ra lr rc] 25)).alloc (.cells #[.int .i64 ed.s, .int .i64 ed.x, .int .i64 ed.v, .bool ed.b, .slice oa ed.o.length oc] 28)) := ((Below.refl _ _).alloc (Nat.le_refl _) _).alloc (by simp) _
  have hx := (cel_new6 w (.int .i64 i0) (.int .i64 f0) (.slice qa lq qc) (.slice aa la ac) (.slice na ln nc) (.slice ra lr rc) 25).below (by simp) ((Below.refl _ _).alloc (Nat.le_refl _) (.cells #[.int .i64 ed.s, .int .i64 ed.x, .int .i64 ed.v, .bool ed.b, .slice oa ed.o.length oc] 28))
  have hy := cel_new (w.alloc (.cells #[.int .i64 i0, .int .i64 f0, .slice qa lq qc, .slice aa la ac, .slice na ln nc, .slice ra lr rc] 25)) (.int .i64 ed.s) (.int .i64 ed.x) (.int .i64 ed.v) (.bool ed.b) (.slice oa ed.o.length oc) 28
  rw [World.size_alloc] at hy
  obtain ⟨N, hN⟩ : ∃ N, w.heap.size = N := ⟨_, rfl⟩
  rw [hN] at hx hy
  have HB := Lib.hid hb
  have HX := Lib.hid hx
  have HY := Lib.hid hy
  have HM := Lib.hid (hm.later hb)
  have HE := Lib.hid (hee.later hb)
  have HLR := Lib.hid hlr
  clear hq ha hn hr h1 h1' hso hm hee hb hx hy hcap
  go_enter Tryz.func3, Tryz.ntmps3
  go_wp2_with fail
  refine (HAw.out _).mono ?_; rintro e w1 ⟨rfl, hb⟩
  replace HB := Lib.hid (bel_call HB.out hb)
  replace HX := Lib.hid (HX.out.below (by simp) hb)
  replace HY := Lib.hid (HY.out.below (by simp) hb)
  replace HM := Lib.hid (HM.out.later hb)
  replace HE := Lib.hid (HE.out.later hb)
  clear hb
  obtain ⟨c0, c1, c2, c3, c4, c5⟩ := HX.out.six
  go_wp2_with fail
  clear c0 c1 c2 c3 c4 c5
  refine (bigM_any 100 1000 (by decide) (by decide) HM.out (Nat.le_refl _)).mono ?_; rw [hR]; rintro e w2 ⟨rfl, hb⟩
  replace HB := Lib.hid (bel_call HB.out hb)
  replace HX := Lib.hid (HX.out.below (by simp) hb)
  replace HY := Lib.hid (HY.out.below (by simp) hb)
  replace HM := Lib.hid (HM.out.later hb)
  replace HE := Lib.hid (HE.out.later hb)
  clear hb
  cases R with
  | true =>
    go_wp2_with fail
    go_ret
    exact ⟨rfl, HB.out⟩
  | false =>
  have HBN := Lib.hid (bigMs_no hR).1
  have HFI := Lib.hid (bigMs_fin9 (by decide) hR)
  have HTOT := Lib.hid (mild_of hR (by decide) (by decide)).2
  have HMI := Lib.hid (mild_of hR (by decide) (by decide)).1
  obtain ⟨d0, d1, d2, d3, d4⟩ := HY.out.five
  go_wp2_with fail
  clear d0 d1 d2 d3 d4
  refine (bigE_any 20 1000 (by decide) (by decide) HE.out (Nat.le_refl _)).mono ?_; rw [hR2]; rintro e w3 ⟨rfl, hb⟩
  replace HB := Lib.hid (bel_call HB.out hb)
  replace HX := Lib.hid (HX.out.below (by simp) hb)
  replace HY := Lib.hid (HY.out.below (by simp) hb)
  replace HM := Lib.hid (HM.out.later hb)
  replace HE := Lib.hid (HE.out.later hb)
  clear hb
  cases R2 with
  | true =>
    go_wp2_with fail
    go_ret
    exact ⟨rfl, HB.out⟩
  | false =>
  have HEL := Lib.hid (bigE_no hR2)
  have HI0 := Lib.hid hi0
  have HF0 := Lib.hid hf0
  clear hN hi0 hf0 hlq hla hln hlr
  obtain ⟨c0, c1, c2, c3, c4, c5⟩ := HX.out.six
  obtain ⟨d0, d1, d2, d3, d4⟩ := HY.out.five
  go_wp2_with fail
  clear c0 c1 c2 c3 c4 c5
  clear d0 d1 d2 d3 d4
  have hput := put_any HM.out (Nat.le_refl _) HMI.out HTOT.out (by rw [HLR.out]; exact HCAP.out) HE.out (Nat.le_refl _) (by have := HEL.out.1; omega) (fun x hx => by have := HEL.out.2 x hx; omega)
  unfold PuPost at hput
  rcases puM_ways m ed with ⟨hE, hpu⟩ | ⟨hE, hpu⟩ | ⟨hE, h0, hpu⟩
  · rw [hpu] at hput
    dsimp only at hput
    obtain ⟨EC, hEC⟩ : ∃ x, chkE ed = x := ⟨_, rfl⟩
    rw [hEC] at hput hE
    have h7 : (EC == 7) = false := by rw [← hEC]; exact chkE_7 ed
    have hne : (EC != 0) = true := by simpa using hE
    have HOC := Lib.hid hEC
    clear hE hpu hEC
    refine hput.mono ?_; rintro e wq ⟨v, rfl, hv, hb⟩
    clear hput
    obtain ⟨s1, sc1, s2, sc2, s3, sc3, s4, sc4, hqv⟩ := own_shape4 hv
    subst hqv
    replace HB := Lib.hid (bel_call HB.out hb)
    replace HX := Lib.hid (HX.out.below (by simp) hb)
    replace HY := Lib.hid (HY.out.below (by simp) hb)
    replace HM := Lib.hid (HM.out.later hb)
    replace HE := Lib.hid (HE.out.later hb)
    clear hb hv
    have hb : Below wq.heap.size wq (wq.alloc (.cells #[.int .i64 0, .int .i64 0, .slice s1 0 sc1, .slice s2 0 sc2, .slice s3 0 sc3, .slice s4 0 sc4] 25)) := (Below.refl _ _).alloc (Nat.le_refl _) _
    replace HB := Lib.hid (bel_call HB.out hb)
    replace HX := Lib.hid (HX.out.below (by simp) hb)
    replace HY := Lib.hid (HY.out.below (by simp) hb)
    replace HM := Lib.hid (HM.out.later hb)
    replace HE := Lib.hid (HE.out.later hb)
    clear hb
    obtain ⟨d0, d1, d2, d3, d4⟩ := HY.out.five
    go_wp2_with fail
    clear d0 d1 d2 d3 d4
    refine (show Calls _ _ _ _ (Tells _ (.int .i64 EC)) from by have h := checkE_any HE.out (Nat.le_refl _) (by have := HEL.out.1; omega) (fun x hx => by have := HEL.out.2 x hx; omega); rw [HOC.out] at h; exact h).mono ?_; rintro e w5 ⟨rfl, hb⟩
    replace HB := Lib.hid (bel_call HB.out hb)
    clear hb
    go_wp2_with fail
    go_ret
    exact ⟨rfl, HB.out⟩
  · rw [hpu] at hput
    dsimp only at hput
    clear hE hpu
    refine hput.mono ?_; rintro e wq ⟨v, rfl, hv, hb⟩
    clear hput
    obtain ⟨s1, sc1, s2, sc2, s3, sc3, s4, sc4, hqv⟩ := own_shape4 hv
    subst hqv
    replace HB := Lib.hid (bel_call HB.out hb)
    clear hb hv
    have hb : Below wq.heap.size wq (wq.alloc (.cells #[.int .i64 0, .int .i64 0, .slice s1 0 sc1, .slice s2 0 sc2, .slice s3 0 sc3, .slice s4 0 sc4] 25)) := (Below.refl _ _).alloc (Nat.le_refl _) _
    replace HB := Lib.hid (bel_call HB.out hb)
    clear hb
    go_wp2_with fail
    go_ret
    exact ⟨rfl, HB.out⟩
  · rw [hpu] at hput
    dsimp only at hput
    have hof := ofM_adM hE h0
    have hpu2 := puM_adM (m := m) hE
    have hst := stM_adM (e := ed) h0
    have hcd := codM_adM hE h0
    have hro := roM_adM hE h0
    have hin := chkE_in hE
    have hxmi := mild_adM HMI.out HTOT.out hE
    have hxfi := fine_adM HFI.out hE
    have hxtot := tot_adM m ed
    obtain ⟨XS, hXS⟩ : ∃ x, adM m ed = x := ⟨_, rfl⟩
    rw [hXS] at hput hof hpu2 hst hcd hro hxmi hxfi hxtot
    have HOF := Lib.hid hof
    have HPU := Lib.hid hpu2
    have HST := Lib.hid hst
    have HCD := Lib.hid hcd
    have HRO := Lib.hid hro
    have HIN := Lib.hid (show (0 ≤ ed.s ∧ ed.s ≤ 65535) ∧ (0 ≤ ed.x ∧ ed.x ≤ 127) from ⟨hin.1, hin.2.1⟩)
    have HXM := Lib.hid hxmi
    have HXF := Lib.hid hxfi
    have HXT := Lib.hid hxtot
    clear hof hpu2 hst hcd hro hin hxmi hxfi hxtot hXS hpu hE h0
    obtain ⟨xi, hxi⟩ : ∃ y, XS.id = y := ⟨_, rfl⟩
    obtain ⟨xf, hxf⟩ : ∃ y, XS.fl = y := ⟨_, rfl⟩
    obtain ⟨k1, hk1⟩ : ∃ y, XS.q.length = y := ⟨_, rfl⟩
    obtain ⟨k2, hk2⟩ : ∃ y, XS.an.length = y := ⟨_, rfl⟩
    obtain ⟨k3, hk3⟩ : ∃ y, XS.ns.length = y := ⟨_, rfl⟩
    obtain ⟨k4, hk4⟩ : ∃ y, XS.ar.length = y := ⟨_, rfl⟩
    have HXV := Lib.hid (And.intro hxi (And.intro hxf (And.intro hk1 (And.intro hk2 (And.intro hk3 hk4)))))
    clear hxi hxf hk1 hk2 hk3 hk4
    refine hput.mono ?_; rintro e wq ⟨v, rfl, hv, hb⟩
    clear hput
    have HR := Lib.hid hv
    obtain ⟨s1, sc1, s2, sc2, s3, sc3, s4, sc4, hqv⟩ := own_shape4 hv
    rw [HXV.out.1, HXV.out.2.1, HXV.out.2.2.1, HXV.out.2.2.2.1, HXV.out.2.2.2.2.1, HXV.out.2.2.2.2.2] at hqv
    subst hqv
    replace HB := Lib.hid (bel_call HB.out hb)
    replace HX := Lib.hid (HX.out.below (by simp) hb)
    replace HY := Lib.hid (HY.out.below (by simp) hb)
    replace HM := Lib.hid (HM.out.later hb)
    replace HE := Lib.hid (HE.out.later hb)
    clear hb hv
    have hy := cel_new6 wq (.int .i64 xi) (.int .i64 xf) (.slice s1 k1 sc1) (.slice s2 k2 sc2) (.slice s3 k3 sc3) (.slice s4 k4 sc4) 25
    have hb : Below wq.heap.size wq (wq.alloc (.cells #[.int .i64 xi, .int .i64 xf, .slice s1 k1 sc1, .slice s2 k2 sc2, .slice s3 k3 sc3, .slice s4 k4 sc4] 25)) := (Below.refl _ _).alloc (Nat.le_refl _) _
    replace HB := Lib.hid (bel_call HB.out hb)
    replace HX := Lib.hid (HX.out.below (by simp) hb)
    replace HY := Lib.hid (HY.out.below (by simp) hb)
    replace HM := Lib.hid (HM.out.later hb)
    replace HE := Lib.hid (HE.out.later hb)
    replace HR := Lib.hid (HR.out.below hb)
    obtain ⟨b6, hgg⟩ : ∃ g, wq.heap.size = g := ⟨_, rfl⟩
    rw [hgg] at hy
    have HZ6 := Lib.hid hy
    clear hy hb
    obtain ⟨c0, c1, c2, c3, c4, c5⟩ := HZ6.out.six
    go_wp2_with fail
    clear c0 c1 c2 c3 c4 c5
    clear hgg
    have h := of_any (HR.out.mg HXM.out.1) (Nat.le_refl _) HXM.out
    unfold OfPost at h
    rw [HOF.out] at h
    dsimp only at h
    refine h.mono ?_; rintro e w5 ⟨v, rfl, hv, hb⟩
    clear h
    replace HB := Lib.hid (bel_call HB.out hb)
    replace HX := Lib.hid (HX.out.below (by simp) hb)
    replace HY := Lib.hid (HY.out.below (by simp) hb)
    replace HM := Lib.hid (HM.out.later hb)
    replace HE := Lib.hid (HE.out.later hb)
    replace HR := Lib.hid (HR.out.below hb)
    replace HZ6 := Lib.hid (HZ6.out.below (by simp) hb)
    clear hb
    have HK := Lib.hid hv
    obtain ⟨o, rfl, hso⟩ := hv
    obtain ⟨ob, od, rfl⟩ := row_shape hso
    clear hso
    have hy := cel_new w5 (.int .i64 ed.s) (.int .i64 ed.x) (.int .i64 ed.v) (.bool ed.b) (.slice ob ed.o.length od) 28
    have hb : Below w5.heap.size w5 (w5.alloc (.cells #[.int .i64 ed.s, .int .i64 ed.x, .int .i64 ed.v, .bool ed.b, .slice ob ed.o.length od] 28)) := (Below.refl _ _).alloc (Nat.le_refl _) _
    replace HB := Lib.hid (bel_call HB.out hb)
    replace HX := Lib.hid (HX.out.below (by simp) hb)
    replace HY := Lib.hid (HY.out.below (by simp) hb)
    replace HM := Lib.hid (HM.out.later hb)
    replace HE := Lib.hid (HE.out.later hb)
    replace HR := Lib.hid (HR.out.below hb)
    replace HZ6 := Lib.hid (HZ6.out.below (by simp) hb)
    replace HK := Lib.hid (HK.out.below hb)
    obtain ⟨b8, hgg⟩ : ∃ g, w5.heap.size = g := ⟨_, rfl⟩
    rw [hgg] at hy
    have HZ8 := Lib.hid hy
    clear hy hb
    obtain ⟨c0, c1, c2, c3, c4, c5⟩ := HZ6.out.six
    obtain ⟨d0, d1, d2, d3, d4⟩ := HY.out.five
    go_wp2_with fail
    clear c0 c1 c2 c3 c4 c5
    clear d0 d1 d2 d3 d4
    clear hgg
    have h := put_any (HR.out.mg HXM.out.1) (Nat.le_refl _) HXM.out (by have := HXT.out; have := HBN.out; omega) (by have h := HR.out.capR; exact h) HE.out (Nat.le_refl _) (by have := HEL.out.1; omega) (fun x hx => by have := HEL.out.2 x hx; omega)
    unfold PuPost at h
    rw [HPU.out] at h
    dsimp only at h
    refine h.mono ?_; rintro e w6 ⟨v, rfl, hv, hb⟩
    clear h
    replace HB := Lib.hid (bel_call HB.out hb)
    replace HX := Lib.hid (HX.out.below (by simp) hb)
    replace HY := Lib.hid (HY.out.below (by simp) hb)
    replace HM := Lib.hid (HM.out.later hb)
    replace HE := Lib.hid (HE.out.later hb)
    replace HR := Lib.hid (HR.out.below hb)
    replace HZ6 := Lib.hid (HZ6.out.below (by simp) hb)
    replace HK := Lib.hid (HK.out.below hb)
    replace HZ8 := Lib.hid (HZ8.out.below (by simp) hb)
    clear hb
    obtain ⟨t1, tc1, t2, tc2, t3, tc3, t4, tc4, hqv⟩ := own_shape4 hv
    subst hqv
    clear hv
    have hb : Below w6.heap.size w6 (w6.alloc (.cells #[.int .i64 0, .int .i64 0, .slice t1 0 tc1, .slice t2 0 tc2, .slice t3 0 tc3, .slice t4 0 tc4] 25)) := (Below.refl _ _).alloc (Nat.le_refl _) _
    replace HB := Lib.hid (bel_call HB.out hb)
    replace HX := Lib.hid (HX.out.below (by simp) hb)
    replace HY := Lib.hid (HY.out.below (by simp) hb)
    replace HM := Lib.hid (HM.out.later hb)
    replace HE := Lib.hid (HE.out.later hb)
    replace HR := Lib.hid (HR.out.below hb)
    replace HZ6 := Lib.hid (HZ6.out.below (by simp) hb)
    replace HK := Lib.hid (HK.out.below hb)
    replace HZ8 := Lib.hid (HZ8.out.below (by simp) hb)
    clear hb
    go_wp2_with fail
    obtain ⟨wd, hwd⟩ : ∃ X, (w6.alloc (.cells #[.int .i64 0, .int .i64 0, .slice t1 0 tc1, .slice t2 0 tc2, .slice t3 0 tc3, .slice t4 0 tc4] 25)).drew = X := ⟨_, rfl⟩
    have hb : Below (w6.alloc (.cells #[.int .i64 0, .int .i64 0, .slice t1 0 tc1, .slice t2 0 tc2, .slice t3 0 tc3, .slice t4 0 tc4] 25)).heap.size (w6.alloc (.cells #[.int .i64 0, .int .i64 0, .slice t1 0 tc1, .slice t2 0 tc2, .slice t3 0 tc3, .slice t4 0 tc4] 25)) wd := by rw [← hwd]; exact (Below.refl _ _).drew
    replace HB := Lib.hid (bel_call HB.out hb)
    replace HX := Lib.hid (HX.out.below (by simp) hb)
    replace HY := Lib.hid (HY.out.below (by simp) hb)
    replace HM := Lib.hid (HM.out.later hb)
    replace HE := Lib.hid (HE.out.later hb)
    replace HR := Lib.hid (HR.out.below hb)
    replace HZ6 := Lib.hid (HZ6.out.below (by simp) hb)
    replace HK := Lib.hid (HK.out.below hb)
    replace HZ8 := Lib.hid (HZ8.out.below (by simp) hb)
    clear hb
    refine wp_region_held_drew (S := (fun wx => (wx.cell? ⟨b8, 0, none⟩ = some (.int .i64 ed.s) ∧ wx.cell? ⟨b8, 1, none⟩ = some (.int .i64 ed.x) ∧ wx.cell? ⟨b8, 2, none⟩ = some (.int .i64 ed.v) ∧ wx.cell? ⟨b8, 3, none⟩ = some (.bool ed.b) ∧ wx.cell? ⟨b8, 4, none⟩ = some (.slice ob ed.o.length od)) ∧ (wx.cell? ⟨N + 1, 0, none⟩ = some (.int .i64 ed.s) ∧ wx.cell? ⟨N + 1, 1, none⟩ = some (.int .i64 ed.x) ∧ wx.cell? ⟨N + 1, 2, none⟩ = some (.int .i64 ed.v) ∧ wx.cell? ⟨N + 1, 3, none⟩ = some (.bool ed.b) ∧ wx.cell? ⟨N + 1, 4, none⟩ = some (.slice oa ed.o.length oc)) ∧ (wx.cell? ⟨b6, 0, none⟩ = some (.int .i64 xi) ∧ wx.cell? ⟨b6, 1, none⟩ = some (.int .i64 xf) ∧ wx.cell? ⟨b6, 2, none⟩ = some (.slice s1 k1 sc1) ∧ wx.cell? ⟨b6, 3, none⟩ = some (.slice s2 k2 sc2) ∧ wx.cell? ⟨b6, 4, none⟩ = some (.slice s3 k3 sc3) ∧ wx.cell? ⟨b6, 5, none⟩ = some (.slice s4 k4 sc4)) ∧ (wx.cell? ⟨N, 0, none⟩ = some (.int .i64 i0) ∧ wx.cell? ⟨N, 1, none⟩ = some (.int .i64 f0) ∧ wx.cell? ⟨N, 2, none⟩ = some (.slice qa lq qc) ∧ wx.cell? ⟨N, 3, none⟩ = some (.slice aa la ac) ∧ wx.cell? ⟨N, 4, none⟩ = some (.slice na ln nc) ∧ wx.cell? ⟨N, 5, none⟩ = some (.slice ra lr rc)))) (by kernel_rfl) (by rw [hwd]; exact ⟨HZ8.out.five, HY.out.five, HZ6.out.six, HX.out.six⟩) (fun hHeld => ?_)
    refine wpAnyH_take (i := 0) (oi := { dst := some 59, op := Op.move (Operand.tmp 9), type := 4, pos := "outright.go:32", after := #[], guard := none }) (v := ?_) rfl (by kernel_rfl) (by kernel_rfl) (by kernel_rfl) (fun _ _ _ h => h) (Or.inl ⟨by rfl, ?_⟩) (by assumption) ?_
    rotate_left 1
    · intro w hSw; clear hSw; go_simp; try (with_reducible rfl)
    try simp only [Act.put, List.setIfInBounds_toArray, List.set_cons_zero, List.set_cons_succ]
    refine wpAnyH_take (i := 1) (oi := { dst := some 60, op := Op.unOp UnOp.not 4 (Operand.tmp 59), type := 4, pos := "outright.go:32", after := #[{ on := 0, ground := Ground.data }], guard := none }) (v := ?_) rfl (by kernel_rfl) (by kernel_rfl) (by kernel_rfl) (fun _ _ _ h => h) (Or.inl ⟨by rfl, ?_⟩) (by assumption) ?_
    rotate_left 1
    · intro w hSw; clear hSw; go_simp; try (with_reducible rfl)
    try simp only [Act.put, List.setIfInBounds_toArray, List.set_cons_zero, List.set_cons_succ]
    refine wpAnyH_take (i := 2) (oi := { dst := some 61, op := Op.move (Operand.tmp 60), type := 4, pos := "outright.go:32", after := #[{ on := 1, ground := Ground.data }], guard := none }) (v := ?_) rfl (by kernel_rfl) (by kernel_rfl) (by kernel_rfl) (fun _ _ _ h => h) (Or.inl ⟨by rfl, ?_⟩) (by assumption) ?_
    rotate_left 1
    · intro w hSw; clear hSw; go_simp; try (with_reducible rfl)
    try simp only [Act.put, List.setIfInBounds_toArray, List.set_cons_zero, List.set_cons_succ]
    refine wpAnyH_take (i := 3) (oi := { dst := some 62, op := Op.move (Operand.tmp 10), type := 32, pos := "outright.go:32", after := #[{ on := 2, ground := Ground.guard }], guard := some (2, false) }) (v := ?_) rfl (by kernel_rfl) (by kernel_rfl) (by kernel_rfl) (fun _ _ _ h => h) (Or.inl ⟨by rfl, ?_⟩) (by assumption) ?_
    rotate_left 1
    · intro w hSw; clear hSw; go_simp; try (with_reducible rfl)
    try simp only [Act.put, List.setIfInBounds_toArray, List.set_cons_zero, List.set_cons_succ]
    refine wpAnyH_take (i := 4) (oi := { dst := some 63, op := Op.binOp BinOp.neq 32 (Operand.tmp 62) (Operand.const (Value.int IntKind.i64 0)) 32, type := 4, pos := "outright.go:32", after := #[{ on := 3, ground := Ground.data }, { on := 2, ground := Ground.guard }], guard := some (2, false) }) (v := ?_) rfl (by kernel_rfl) (by kernel_rfl) (by kernel_rfl) (fun _ _ _ h => h) (Or.inl ⟨by rfl, ?_⟩) (by assumption) ?_
    rotate_left 1
    · intro w hSw; clear hSw; go_simp; try (with_reducible rfl)
    try simp only [Act.put, List.setIfInBounds_toArray, List.set_cons_zero, List.set_cons_succ]
    refine wpAnyH_take (i := 5) (oi := { dst := some 64, op := Op.pick (Operand.tmp 61) (Operand.const (Value.bool true)) (Operand.tmp 63), type := 4, pos := "outright.go:32", after := #[{ on := 2, ground := Ground.data }, { on := 4, ground := Ground.data }], guard := none }) (v := ?_) rfl (by kernel_rfl) (by kernel_rfl) (by kernel_rfl) (fun _ _ _ h => h) (Or.inl ⟨by rfl, ?_⟩) (by assumption) ?_
    rotate_left 1
    · intro w hSw; clear hSw; go_simp; try (with_reducible rfl)
    try simp only [Act.put, List.setIfInBounds_toArray, List.set_cons_zero, List.set_cons_succ]
    refine wpAnyH_take (i := 6) (oi := { dst := some 65, op := Op.move (Operand.tmp 64), type := 4, pos := "outright.go:32", after := #[{ on := 5, ground := Ground.data }, { on := 2, ground := Ground.chain }], guard := none }) (v := ?_) rfl (by kernel_rfl) (by kernel_rfl) (by kernel_rfl) (fun _ _ _ h => h) (Or.inl ⟨by rfl, ?_⟩) (by assumption) ?_
    rotate_left 1
    · intro w hSw; clear hSw; go_simp; try (with_reducible rfl)
    try simp only [Act.put, List.setIfInBounds_toArray, List.set_cons_zero, List.set_cons_succ]
    refine wpAnyH_take (i := 7) (oi := { dst := some 66, op := Op.load 28 (Operand.tmp 8), type := 28, pos := "outright.go:32", after := #[{ on := 6, ground := Ground.guard }], guard := some (6, false) }) (v := ?_) rfl (by kernel_rfl) (by kernel_rfl) (by kernel_rfl) (fun _ _ _ h => h) (Or.inl ⟨by rfl, ?_⟩) (by assumption) ?_
    rotate_left 1
    · intro w hSw; have hSw1 := hSw.1; clear hSw; have hSw := hSw1; clear hSw1; (try dsimp only at hSw); go_simp; try (with_reducible rfl)
    try simp only [Act.put, List.setIfInBounds_toArray, List.set_cons_zero, List.set_cons_succ]
    refine wpAnyH_take (i := 8) (oi := { dst := some 67, op := Op.load 28 (Operand.tmp 3), type := 28, pos := "outright.go:32", after := #[{ on := 6, ground := Ground.guard }], guard := some (6, false) }) (v := ?_) rfl (by kernel_rfl) (by kernel_rfl) (by kernel_rfl) (fun _ _ _ h => h) (Or.inl ⟨by rfl, ?_⟩) (by assumption) ?_
    rotate_left 1
    · intro w hSw; have hSw1 := hSw.2.1; clear hSw; have hSw := hSw1; clear hSw1; (try dsimp only at hSw); go_simp; try (with_reducible rfl)
    try simp only [Act.put, List.setIfInBounds_toArray, List.set_cons_zero, List.set_cons_succ]
    refine wpAnyH_ready (rs := [9]) (by kernel_rfl) (by simp) ?_
    refine AllReadyH.cons (o := { dst := some 68, op := Op.call { callee := Callee.value (Operand.func 10), args := #[Operand.tmp 66, Operand.tmp 67], argTypes := #[28, 28] }, type := 4, pos := "outright.go:32", after := #[{ on := 7, ground := Ground.data }, { on := 8, ground := Ground.data }, { on := 6, ground := Ground.chain }, { on := 6, ground := Ground.guard }], guard := some (6, false) }) rfl (fun K hK => ?_) (AllReadyH.nil)
    go_simp
    refine (sameE_yes (HK.out.eg (by have := HEL.out.1; omega)) HE.out (Nat.le_refl _) (Nat.le_refl _)).mono ?_; rintro e x1 ⟨rfl, hb⟩
    replace HB := Lib.hid (bel_call HB.out hb)
    replace HX := Lib.hid (HX.out.below (by simp) hb)
    replace HY := Lib.hid (HY.out.below (by simp) hb)
    replace HM := Lib.hid (HM.out.later hb)
    replace HE := Lib.hid (HE.out.later hb)
    replace HR := Lib.hid (HR.out.below hb)
    replace HZ6 := Lib.hid (HZ6.out.below (by simp) hb)
    replace HK := Lib.hid (HK.out.below hb)
    replace HZ8 := Lib.hid (HZ8.out.below (by simp) hb)
    clear hb
    try go_wp2_with fail
    refine hK.out _ _ ⟨HZ8.out.five, HY.out.five, HZ6.out.six, HX.out.six⟩ (fun hHeld => ?_)
    clear hK K
    try simp only [Act.put, List.setIfInBounds_toArray, List.set_cons_zero, List.set_cons_succ]
    refine wpAnyH_take (i := 10) (oi := { dst := some 69, op := Op.unOp UnOp.not 4 (Operand.tmp 68), type := 4, pos := "outright.go:32", after := #[{ on := 9, ground := Ground.data }, { on := 6, ground := Ground.guard }], guard := some (6, false) }) (v := ?_) rfl (by kernel_rfl) (by kernel_rfl) (by kernel_rfl) (fun _ _ _ h => h) (Or.inl ⟨by rfl, ?_⟩) (by assumption) ?_
    rotate_left 1
    · intro w hSw; clear hSw; go_simp; try (with_reducible rfl)
    try simp only [Act.put, List.setIfInBounds_toArray, List.set_cons_zero, List.set_cons_succ]
    refine wpAnyH_take (i := 11) (oi := { dst := some 70, op := Op.pick (Operand.tmp 65) (Operand.const (Value.bool true)) (Operand.tmp 69), type := 4, pos := "outright.go:32", after := #[{ on := 6, ground := Ground.data }, { on := 10, ground := Ground.data }], guard := none }) (v := ?_) rfl (by kernel_rfl) (by kernel_rfl) (by kernel_rfl) (fun _ _ _ h => h) (Or.inl ⟨by rfl, ?_⟩) (by assumption) ?_
    rotate_left 1
    · intro w hSw; clear hSw; go_simp; try (with_reducible rfl)
    try simp only [Act.put, List.setIfInBounds_toArray, List.set_cons_zero, List.set_cons_succ]
    refine wpAnyH_take (i := 12) (oi := { dst := some 71, op := Op.move (Operand.tmp 70), type := 4, pos := "outright.go:32", after := #[{ on := 11, ground := Ground.data }, { on := 9, ground := Ground.chain }], guard := none }) (v := ?_) rfl (by kernel_rfl) (by kernel_rfl) (by kernel_rfl) (fun _ _ _ h => h) (Or.inl ⟨by rfl, ?_⟩) (by assumption) ?_
    rotate_left 1
    · intro w hSw; clear hSw; go_simp; try (with_reducible rfl)
    try simp only [Act.put, List.setIfInBounds_toArray, List.set_cons_zero, List.set_cons_succ]
    refine wpAnyH_take (i := 13) (oi := { dst := some 72, op := Op.move (Operand.tmp 12), type := 32, pos := "outright.go:32", after := #[{ on := 12, ground := Ground.guard }], guard := some (12, false) }) (v := ?_) rfl (by kernel_rfl) (by kernel_rfl) (by kernel_rfl) (fun _ _ _ h => h) (Or.inl ⟨by rfl, ?_⟩) (by assumption) ?_
    rotate_left 1
    · intro w hSw; clear hSw; go_simp; try (with_reducible rfl)
    try simp only [Act.put, List.setIfInBounds_toArray, List.set_cons_zero, List.set_cons_succ]
    refine wpAnyH_take (i := 14) (oi := { dst := some 73, op := Op.binOp BinOp.neq 32 (Operand.tmp 72) (Operand.const (Value.int IntKind.i64 7)) 32, type := 4, pos := "outright.go:32", after := #[{ on := 13, ground := Ground.data }, { on := 12, ground := Ground.guard }], guard := some (12, false) }) (v := ?_) rfl (by kernel_rfl) (by kernel_rfl) (by kernel_rfl) (fun _ _ _ h => h) (Or.inl ⟨by rfl, ?_⟩) (by assumption) ?_
    rotate_left 1
    · intro w hSw; clear hSw; go_simp; try (with_reducible rfl)
    try simp only [Act.put, List.setIfInBounds_toArray, List.set_cons_zero, List.set_cons_succ]
    refine wpAnyH_take (i := 15) (oi := { dst := some 74, op := Op.pick (Operand.tmp 71) (Operand.const (Value.bool true)) (Operand.tmp 73), type := 4, pos := "outright.go:32", after := #[{ on := 12, ground := Ground.data }, { on := 14, ground := Ground.data }], guard := none }) (v := ?_) rfl (by kernel_rfl) (by kernel_rfl) (by kernel_rfl) (fun _ _ _ h => h) (Or.inl ⟨by rfl, ?_⟩) (by assumption) ?_
    rotate_left 1
    · intro w hSw; clear hSw; go_simp; try (with_reducible rfl)
    try simp only [Act.put, List.setIfInBounds_toArray, List.set_cons_zero, List.set_cons_succ]
    refine wpAnyH_take (i := 16) (oi := { dst := some 75, op := Op.move (Operand.tmp 74), type := 4, pos := "outright.go:32", after := #[{ on := 15, ground := Ground.data }, { on := 12, ground := Ground.chain }], guard := none }) (v := ?_) rfl (by kernel_rfl) (by kernel_rfl) (by kernel_rfl) (fun _ _ _ h => h) (Or.inl ⟨by rfl, ?_⟩) (by assumption) ?_
    rotate_left 1
    · intro w hSw; clear hSw; go_simp; try (with_reducible rfl)
    try simp only [Act.put, List.setIfInBounds_toArray, List.set_cons_zero, List.set_cons_succ]
    refine wpAnyH_take (i := 17) (oi := { dst := some 76, op := Op.load 25 (Operand.tmp 6), type := 25, pos := "outright.go:32", after := #[{ on := 16, ground := Ground.guard }], guard := some (16, false) }) (v := ?_) rfl (by kernel_rfl) (by kernel_rfl) (by kernel_rfl) (fun _ _ _ h => h) (Or.inl ⟨by rfl, ?_⟩) (by assumption) ?_
    rotate_left 1
    · intro w hSw; have hSw1 := hSw.2.2.1; clear hSw; have hSw := hSw1; clear hSw1; (try dsimp only at hSw); go_simp; try (with_reducible rfl)
    try simp only [Act.put, List.setIfInBounds_toArray, List.set_cons_zero, List.set_cons_succ]
    refine wpAnyH_take (i := 19) (oi := { dst := some 78, op := Op.load 25 (Operand.tmp 2), type := 25, pos := "outright.go:32", after := #[{ on := 16, ground := Ground.guard }], guard := some (16, false) }) (v := ?_) rfl (by kernel_rfl) (by kernel_rfl) (by kernel_rfl) (fun _ _ _ h => h) (Or.inl ⟨by rfl, ?_⟩) (by assumption) ?_
    rotate_left 1
    · intro w hSw; have hSw1 := hSw.2.2.2; clear hSw; have hSw := hSw1; clear hSw1; (try dsimp only at hSw); go_simp; try (with_reducible rfl)
    try simp only [Act.put, List.setIfInBounds_toArray, List.set_cons_zero, List.set_cons_succ]
    refine wpAnyH_ready (rs := [18]) (by kernel_rfl) (by simp) ?_
    refine AllReadyH.cons (o := { dst := some 77, op := Op.call { callee := Callee.value (Operand.func 12), args := #[Operand.tmp 76], argTypes := #[25] }, type := 25, pos := "outright.go:32", after := #[{ on := 17, ground := Ground.data }, { on := 16, ground := Ground.chain }, { on := 16, ground := Ground.guard }], guard := some (16, false) }) rfl (fun K hK => ?_) (AllReadyH.nil)
    go_simp
    refine (strip_any (HR.out.mg HXM.out.1) (Nat.le_refl _) HXM.out).mono ?_; rintro e x2 ⟨v2, rfl, ho, hb⟩
    rw [HST.out] at ho
    have HS2 := Lib.hid (ho.mg (by have := HTOT.out; omega))
    obtain ⟨u1, uc1, u2, uc2, u3, uc3, u4, uc4, hqv⟩ := own_shape4 ho
    subst hqv
    replace HB := Lib.hid (bel_call HB.out hb)
    replace HX := Lib.hid (HX.out.below (by simp) hb)
    replace HY := Lib.hid (HY.out.below (by simp) hb)
    replace HM := Lib.hid (HM.out.later hb)
    replace HE := Lib.hid (HE.out.later hb)
    replace HR := Lib.hid (HR.out.below hb)
    replace HZ6 := Lib.hid (HZ6.out.below (by simp) hb)
    replace HK := Lib.hid (HK.out.below hb)
    replace HZ8 := Lib.hid (HZ8.out.below (by simp) hb)
    clear hb ho
    try go_wp2_with fail
    refine hK.out _ _ ⟨HZ8.out.five, HY.out.five, HZ6.out.six, HX.out.six⟩ (fun hHeld => ?_)
    clear hK K
    try simp only [Act.put, List.setIfInBounds_toArray, List.set_cons_zero, List.set_cons_succ]
    refine wpAnyH_ready (rs := [20]) (by kernel_rfl) (by simp) ?_
    refine AllReadyH.cons (o := { dst := some 79, op := Op.call { callee := Callee.value (Operand.func 11), args := #[Operand.tmp 77, Operand.tmp 78], argTypes := #[25, 25] }, type := 4, pos := "outright.go:32", after := #[{ on := 18, ground := Ground.data }, { on := 19, ground := Ground.data }, { on := 18, ground := Ground.chain }, { on := 16, ground := Ground.guard }], guard := some (16, false) }) rfl (fun K hK => ?_) (AllReadyH.nil)
    go_simp
    refine (sameM_yes HS2.out HM.out (Nat.le_refl _) (Nat.le_refl _)).mono ?_; rintro e x3 ⟨rfl, hb⟩
    replace HB := Lib.hid (bel_call HB.out hb)
    replace HX := Lib.hid (HX.out.below (by simp) hb)
    replace HY := Lib.hid (HY.out.below (by simp) hb)
    replace HM := Lib.hid (HM.out.later hb)
    replace HE := Lib.hid (HE.out.later hb)
    replace HR := Lib.hid (HR.out.below hb)
    replace HZ6 := Lib.hid (HZ6.out.below (by simp) hb)
    replace HK := Lib.hid (HK.out.below hb)
    replace HZ8 := Lib.hid (HZ8.out.below (by simp) hb)
    replace HS2 := Lib.hid (HS2.out.later hb)
    clear hb
    try go_wp2_with fail
    refine hK.out _ _ ⟨HZ8.out.five, HY.out.five, HZ6.out.six, HX.out.six⟩ (fun hHeld => ?_)
    clear hK K
    try simp only [Act.put, List.setIfInBounds_toArray, List.set_cons_zero, List.set_cons_succ]
    refine wpAnyH_take (i := 21) (oi := { dst := some 80, op := Op.unOp UnOp.not 4 (Operand.tmp 79), type := 4, pos := "outright.go:32", after := #[{ on := 20, ground := Ground.data }, { on := 16, ground := Ground.guard }], guard := some (16, false) }) (v := ?_) rfl (by kernel_rfl) (by kernel_rfl) (by kernel_rfl) (fun _ _ _ h => h) (Or.inl ⟨by rfl, ?_⟩) (by assumption) ?_
    rotate_left 1
    · intro w hSw; clear hSw; go_simp; try (with_reducible rfl)
    try simp only [Act.put, List.setIfInBounds_toArray, List.set_cons_zero, List.set_cons_succ]
    refine wpAnyH_take (i := 22) (oi := { dst := some 81, op := Op.pick (Operand.tmp 75) (Operand.const (Value.bool true)) (Operand.tmp 80), type := 4, pos := "outright.go:32", after := #[{ on := 16, ground := Ground.data }, { on := 21, ground := Ground.data }], guard := none }) (v := ?_) rfl (by kernel_rfl) (by kernel_rfl) (by kernel_rfl) (fun _ _ _ h => h) (Or.inl ⟨by rfl, ?_⟩) (by assumption) ?_
    rotate_left 1
    · intro w hSw; clear hSw; go_simp; try (with_reducible rfl)
    try simp only [Act.put, List.setIfInBounds_toArray, List.set_cons_zero, List.set_cons_succ]
    refine wpAnyH_done (by kernel_rfl) ?_ _
    clear hHeld
    clear hwd HK HZ8 HS2
    go_wp2_with fail
    obtain ⟨we, hwe⟩ : ∃ X, x3.drew = X := ⟨_, rfl⟩
    have hb : Below x3.heap.size x3 we := by rw [← hwe]; exact (Below.refl _ _).drew
    replace HB := Lib.hid (bel_call HB.out hb)
    replace HX := Lib.hid (HX.out.below (by simp) hb)
    replace HY := Lib.hid (HY.out.below (by simp) hb)
    replace HM := Lib.hid (HM.out.later hb)
    replace HE := Lib.hid (HE.out.later hb)
    replace HR := Lib.hid (HR.out.below hb)
    replace HZ6 := Lib.hid (HZ6.out.below (by simp) hb)
    clear hb
    have HC := Lib.hid (fun wx => mcode_any f0 wx)
    unfold cdF at HC
    obtain ⟨F, hF⟩ : ∃ F, f0 % 16 = F := ⟨_, rfl⟩
    rw [hF] at HC
    obtain ⟨EX, hEX⟩ : ∃ X, ed.x = X := ⟨_, rfl⟩
    obtain ⟨ES, hES⟩ : ∃ X, ed.s = X := ⟨_, rfl⟩
    have hcd := HCD.out
    have hro := HRO.out
    rw [HF0.out, hF, hEX] at hcd
    rw [hES] at hro
    have hio := HIN.out
    rw [hES, hEX] at hio
    have hwp1 : IntKind.i64.wrap (16 * EX) = 16 * EX := wr64 _ (by omega) (by omega)
    have hwp2 : IntKind.i64.wrap (16 * EX + F) = 16 * EX + F := wr64 _ (by omega) (by omega)
    have HKC := Lib.hid (show codM XS = 16 * EX + F by rw [hcd]; omega)
    obtain ⟨RX, hRX⟩ : ∃ X, max 512 ES = X := ⟨_, rfl⟩
    have HKR := Lib.hid (show roM XS = RX by rw [hro, ← hRX, Int.max_def])
    have HEX := Lib.hid hEX
    have HES := Lib.hid hES
    rw [hEX, hES] at HY HE ⊢
    clear hcd hro hio hF
    refine wp_region_held_drew (S := (fun wx => (wx.cell? ⟨b6, 0, none⟩ = some (.int .i64 xi) ∧ wx.cell? ⟨b6, 1, none⟩ = some (.int .i64 xf) ∧ wx.cell? ⟨b6, 2, none⟩ = some (.slice s1 k1 sc1) ∧ wx.cell? ⟨b6, 3, none⟩ = some (.slice s2 k2 sc2) ∧ wx.cell? ⟨b6, 4, none⟩ = some (.slice s3 k3 sc3) ∧ wx.cell? ⟨b6, 5, none⟩ = some (.slice s4 k4 sc4)) ∧ (wx.cell? ⟨N + 1, 0, none⟩ = some (.int .i64 ES) ∧ wx.cell? ⟨N + 1, 1, none⟩ = some (.int .i64 EX) ∧ wx.cell? ⟨N + 1, 2, none⟩ = some (.int .i64 ed.v) ∧ wx.cell? ⟨N + 1, 3, none⟩ = some (.bool ed.b) ∧ wx.cell? ⟨N + 1, 4, none⟩ = some (.slice oa ed.o.length oc)) ∧ (wx.cell? ⟨N, 0, none⟩ = some (.int .i64 i0) ∧ wx.cell? ⟨N, 1, none⟩ = some (.int .i64 f0) ∧ wx.cell? ⟨N, 2, none⟩ = some (.slice qa lq qc) ∧ wx.cell? ⟨N, 3, none⟩ = some (.slice aa la ac) ∧ wx.cell? ⟨N, 4, none⟩ = some (.slice na ln nc) ∧ wx.cell? ⟨N, 5, none⟩ = some (.slice ra lr rc)))) (by kernel_rfl) (by rw [hwe]; exact ⟨HZ6.out.six, HY.out.five, HX.out.six⟩) (fun hHeld => ?_)
    refine wpAnyH_take (i := 0) (oi := { dst := some 82, op := Op.load 25 (Operand.tmp 6), type := 25, pos := "outright.go:35", after := #[], guard := none }) (v := ?_) rfl (by kernel_rfl) (by kernel_rfl) (by kernel_rfl) (fun _ _ _ h => h) (Or.inl ⟨by rfl, ?_⟩) (by assumption) ?_
    rotate_left 1
    · intro w hSw; have hSw1 := hSw.1; clear hSw; have hSw := hSw1; clear hSw1; (try dsimp only at hSw); go_simp; try (with_reducible rfl)
    try simp only [Act.put, List.setIfInBounds_toArray, List.set_cons_zero, List.set_cons_succ]
    refine wpAnyH_take (i := 2) (oi := { dst := some 84, op := Op.fieldAddr 28 (Operand.tmp 3) 1, type := 0, pos := "outright.go:35", after := #[], guard := none }) (v := ?_) rfl (by kernel_rfl) (by kernel_rfl) (by kernel_rfl) (fun _ _ _ h => h) (Or.inl ⟨by rfl, ?_⟩) (by assumption) ?_
    rotate_left 1
    · intro w hSw; clear hSw; go_simp; try (with_reducible rfl)
    try simp only [Act.put, List.setIfInBounds_toArray, List.set_cons_zero, List.set_cons_succ]
    refine wpAnyH_take (i := 3) (oi := { dst := some 85, op := Op.load 3 (Operand.tmp 84), type := 3, pos := "outright.go:35", after := #[{ on := 2, ground := Ground.data }], guard := none }) (v := ?_) rfl (by kernel_rfl) (by kernel_rfl) (by kernel_rfl) (fun _ _ _ h => h) (Or.inl ⟨by rfl, ?_⟩) (by assumption) ?_
    rotate_left 1
    · intro w hSw; have hSw1 := hSw.2.1; clear hSw; have hSw := hSw1; clear hSw1; (try dsimp only at hSw); go_simp; try (with_reducible rfl)
    try simp only [Act.put, List.setIfInBounds_toArray, List.set_cons_zero, List.set_cons_succ]
    refine wpAnyH_take (i := 4) (oi := { dst := some 86, op := Op.binOp BinOp.mul 3 (Operand.const (Value.int IntKind.i64 16)) (Operand.tmp 85) 3, type := 3, pos := "outright.go:35", after := #[{ on := 3, ground := Ground.data }], guard := none }) (v := ?_) rfl (by kernel_rfl) (by kernel_rfl) (by kernel_rfl) (fun _ _ _ h => h) (Or.inl ⟨by rfl, ?_⟩) (by assumption) ?_
    rotate_left 1
    · intro w hSw; clear hSw; go_simp; try (with_reducible rfl)
    try simp only [Act.put, List.setIfInBounds_toArray, List.set_cons_zero, List.set_cons_succ]
    refine wpAnyH_take (i := 5) (oi := { dst := some 87, op := Op.fieldAddr 25 (Operand.tmp 2) 1, type := 0, pos := "outright.go:35", after := #[], guard := none }) (v := ?_) rfl (by kernel_rfl) (by kernel_rfl) (by kernel_rfl) (fun _ _ _ h => h) (Or.inl ⟨by rfl, ?_⟩) (by assumption) ?_
    rotate_left 1
    · intro w hSw; clear hSw; go_simp; try (with_reducible rfl)
    try simp only [Act.put, List.setIfInBounds_toArray, List.set_cons_zero, List.set_cons_succ]
    refine wpAnyH_take (i := 6) (oi := { dst := some 88, op := Op.load 3 (Operand.tmp 87), type := 3, pos := "outright.go:35", after := #[{ on := 5, ground := Ground.data }], guard := none }) (v := ?_) rfl (by kernel_rfl) (by kernel_rfl) (by kernel_rfl) (fun _ _ _ h => h) (Or.inl ⟨by rfl, ?_⟩) (by assumption) ?_
    rotate_left 1
    · intro w hSw; have hSw1 := hSw.2.2; clear hSw; have hSw := hSw1; clear hSw1; (try dsimp only at hSw); go_simp; try (with_reducible rfl)
    try simp only [Act.put, List.setIfInBounds_toArray, List.set_cons_zero, List.set_cons_succ]
    refine wpAnyH_ready (rs := [1]) (by kernel_rfl) (by simp) ?_
    refine AllReadyH.cons (o := { dst := some 83, op := Op.call { callee := Callee.value (Operand.func 13), args := #[Operand.tmp 82], argTypes := #[25] }, type := 3, pos := "outright.go:35", after := #[{ on := 0, ground := Ground.data }], guard := none }) rfl (fun K hK => ?_) (AllReadyH.nil)
    go_simp
    refine ((show Calls _ _ _ _ (Tells _ (.int .i64 (16 * EX + F))) from by have h := code_any (HR.out.mg HXM.out.1) (Nat.le_refl _) HXM.out; rw [HKC.out] at h; exact h)).mono ?_; rintro e y1 ⟨rfl, hb⟩
    replace HB := Lib.hid (bel_call HB.out hb)
    replace HX := Lib.hid (HX.out.below (by simp) hb)
    replace HY := Lib.hid (HY.out.below (by simp) hb)
    replace HM := Lib.hid (HM.out.later hb)
    replace HE := Lib.hid (HE.out.later hb)
    replace HR := Lib.hid (HR.out.below hb)
    replace HZ6 := Lib.hid (HZ6.out.below (by simp) hb)
    clear hb
    try go_wp2_with fail
    refine hK.out _ _ ⟨HZ6.out.six, HY.out.five, HX.out.six⟩ (fun hHeld => ?_)
    clear hK K
    try simp only [Act.put, List.setIfInBounds_toArray, List.set_cons_zero, List.set_cons_succ]
    refine wpAnyH_ready (rs := [7]) (by kernel_rfl) (by simp) ?_
    refine AllReadyH.cons (o := { dst := some 89, op := Op.call { callee := Callee.value (Operand.func 14), args := #[Operand.tmp 88], argTypes := #[3] }, type := 3, pos := "outright.go:35", after := #[{ on := 6, ground := Ground.data }, { on := 1, ground := Ground.chain }], guard := none }) rfl (fun K hK => ?_) (AllReadyH.nil)
    go_simp
    refine (HC.out _).mono ?_; rintro e y2 ⟨rfl, rfl⟩
    try go_wp2_with fail
    refine hK.out _ _ ⟨HZ6.out.six, HY.out.five, HX.out.six⟩ (fun hHeld => ?_)
    clear hK K
    try simp only [Act.put, List.setIfInBounds_toArray, List.set_cons_zero, List.set_cons_succ]
    refine wpAnyH_take (i := 8) (oi := { dst := some 90, op := Op.binOp BinOp.add 3 (Operand.tmp 86) (Operand.tmp 89) 3, type := 3, pos := "outright.go:35", after := #[{ on := 4, ground := Ground.data }, { on := 7, ground := Ground.data }], guard := none }) (v := ?_) rfl (by kernel_rfl) (by kernel_rfl) (by kernel_rfl) (fun _ _ _ h => h) (Or.inl ⟨by rfl, ?_⟩) (by assumption) ?_
    rotate_left 1
    · intro w hSw; clear hSw; go_simp; try (with_reducible rfl)
    try simp only [Act.put, List.setIfInBounds_toArray, List.set_cons_zero, List.set_cons_succ]
    refine wpAnyH_take (i := 9) (oi := { dst := some 91, op := Op.binOp BinOp.neq 3 (Operand.tmp 83) (Operand.tmp 90) 3, type := 4, pos := "outright.go:35", after := #[{ on := 1, ground := Ground.data }, { on := 8, ground := Ground.data }], guard := none }) (v := ?_) rfl (by kernel_rfl) (by kernel_rfl) (by kernel_rfl) (fun _ _ _ h => h) (Or.inl ⟨by rfl, ?_⟩) (by assumption) ?_
    rotate_left 1
    · intro w hSw; clear hSw; go_simp; try (with_reducible rfl)
    try simp only [Act.put, List.setIfInBounds_toArray, List.set_cons_zero, List.set_cons_succ]
    refine wpAnyH_take (i := 10) (oi := { dst := some 92, op := Op.move (Operand.tmp 91), type := 4, pos := "outright.go:35", after := #[{ on := 9, ground := Ground.data }, { on := 7, ground := Ground.chain }], guard := none }) (v := ?_) rfl (by kernel_rfl) (by kernel_rfl) (by kernel_rfl) (fun _ _ _ h => h) (Or.inl ⟨by rfl, ?_⟩) (by assumption) ?_
    rotate_left 1
    · intro w hSw; clear hSw; go_simp; try (with_reducible rfl)
    try simp only [Act.put, List.setIfInBounds_toArray, List.set_cons_zero, List.set_cons_succ]
    refine wpAnyH_take (i := 11) (oi := { dst := some 93, op := Op.load 25 (Operand.tmp 6), type := 25, pos := "outright.go:35", after := #[{ on := 10, ground := Ground.guard }], guard := some (10, false) }) (v := ?_) rfl (by kernel_rfl) (by kernel_rfl) (by kernel_rfl) (fun _ _ _ h => h) (Or.inl ⟨by rfl, ?_⟩) (by assumption) ?_
    rotate_left 1
    · intro w hSw; have hSw1 := hSw.1; clear hSw; have hSw := hSw1; clear hSw1; (try dsimp only at hSw); go_simp; try (with_reducible rfl)
    try simp only [Act.put, List.setIfInBounds_toArray, List.set_cons_zero, List.set_cons_succ]
    refine wpAnyH_take (i := 13) (oi := { dst := some 95, op := Op.fieldAddr 28 (Operand.tmp 3) 0, type := 0, pos := "outright.go:35", after := #[{ on := 10, ground := Ground.guard }], guard := some (10, false) }) (v := ?_) rfl (by kernel_rfl) (by kernel_rfl) (by kernel_rfl) (fun _ _ _ h => h) (Or.inl ⟨by rfl, ?_⟩) (by assumption) ?_
    rotate_left 1
    · intro w hSw; clear hSw; go_simp; try (with_reducible rfl)
    try simp only [Act.put, List.setIfInBounds_toArray, List.set_cons_zero, List.set_cons_succ]
    refine wpAnyH_take (i := 14) (oi := { dst := some 96, op := Op.load 3 (Operand.tmp 95), type := 3, pos := "outright.go:35", after := #[{ on := 13, ground := Ground.data }, { on := 10, ground := Ground.guard }], guard := some (10, false) }) (v := ?_) rfl (by kernel_rfl) (by kernel_rfl) (by kernel_rfl) (fun _ _ _ h => h) (Or.inl ⟨by rfl, ?_⟩) (by assumption) ?_
    rotate_left 1
    · intro w hSw; have hSw1 := hSw.2.1; clear hSw; have hSw := hSw1; clear hSw1; (try dsimp only at hSw); go_simp; try (with_reducible rfl)
    try simp only [Act.put, List.setIfInBounds_toArray, List.set_cons_zero, List.set_cons_succ]
    refine wpAnyH_ready (rs := [12, 15]) (by kernel_rfl) (by simp) ?_
    refine AllReadyH.cons (o := { dst := some 94, op := Op.call { callee := Callee.value (Operand.func 15), args := #[Operand.tmp 93], argTypes := #[25] }, type := 3, pos := "outright.go:35", after := #[{ on := 11, ground := Ground.data }, { on := 10, ground := Ground.chain }, { on := 10, ground := Ground.guard }], guard := some (10, false) }) rfl (fun K hK => ?_) (AllReadyH.cons (o := { dst := some 97, op := Op.call { callee := Callee.builtin Builtin.max, args := #[Operand.const (Value.int IntKind.i64 512), Operand.tmp 96], argTypes := #[3, 3] }, type := 3, pos := "outright.go:35", after := #[{ on := 14, ground := Ground.data }, { on := 10, ground := Ground.guard }], guard := some (10, false) }) rfl (fun K hK => ?_) (AllReadyH.nil))
    go_simp
    refine ((show Calls _ _ _ _ (Tells _ (.int .i64 RX)) from by have h := room_any (HR.out.mg HXM.out.1) (Nat.le_refl _) HXM.out; rw [HKR.out] at h; exact h)).mono ?_; rintro e y3 ⟨rfl, hb⟩
    replace HB := Lib.hid (bel_call HB.out hb)
    replace HX := Lib.hid (HX.out.below (by simp) hb)
    replace HY := Lib.hid (HY.out.below (by simp) hb)
    replace HM := Lib.hid (HM.out.later hb)
    replace HE := Lib.hid (HE.out.later hb)
    replace HR := Lib.hid (HR.out.below hb)
    replace HZ6 := Lib.hid (HZ6.out.below (by simp) hb)
    clear hb
    try go_wp2_with fail
    refine hK.out _ _ ⟨HZ6.out.six, HY.out.five, HX.out.six⟩ (fun hHeld => ?_)
    clear hK K
    try simp only [Act.put, List.setIfInBounds_toArray, List.set_cons_zero, List.set_cons_succ]
    refine wpAnyH_ready (rs := [15]) (by kernel_rfl) (by simp) ?_
    refine AllReadyH.cons (o := { dst := some 97, op := Op.call { callee := Callee.builtin Builtin.max, args := #[Operand.const (Value.int IntKind.i64 512), Operand.tmp 96], argTypes := #[3, 3] }, type := 3, pos := "outright.go:35", after := #[{ on := 14, ground := Ground.data }, { on := 10, ground := Ground.guard }], guard := some (10, false) }) rfl (fun K hK => ?_) (AllReadyH.nil)
    go_simp
    refine hK.out _ _ ⟨HZ6.out.six, HY.out.five, HX.out.six⟩ (fun hHeld => ?_)
    clear hK K
    try simp only [Act.put, List.setIfInBounds_toArray, List.set_cons_zero, List.set_cons_succ]
    refine wpAnyH_take (i := 16) (oi := { dst := some 98, op := Op.binOp BinOp.neq 3 (Operand.tmp 94) (Operand.tmp 97) 3, type := 4, pos := "outright.go:35", after := #[{ on := 12, ground := Ground.data }, { on := 15, ground := Ground.data }, { on := 10, ground := Ground.guard }], guard := some (10, false) }) (v := ?_) rfl (by kernel_rfl) (by kernel_rfl) (by kernel_rfl) (fun _ _ _ h => h) (Or.inl ⟨by rfl, ?_⟩) (by assumption) ?_
    rotate_left 1
    · intro w hSw; clear hSw; go_simp; try (with_reducible rfl)
    try simp only [Act.put, List.setIfInBounds_toArray, List.set_cons_zero, List.set_cons_succ]
    rotate_left 1
    go_simp
    refine hK.out _ _ ⟨HZ6.out.six, HY.out.five, HX.out.six⟩ (fun hHeld => ?_)
    clear hK K
    try simp only [Act.put, List.setIfInBounds_toArray, List.set_cons_zero, List.set_cons_succ]
    refine wpAnyH_ready (rs := [12]) (by kernel_rfl) (by simp) ?_
    refine AllReadyH.cons (o := { dst := some 94, op := Op.call { callee := Callee.value (Operand.func 15), args := #[Operand.tmp 93], argTypes := #[25] }, type := 3, pos := "outright.go:35", after := #[{ on := 11, ground := Ground.data }, { on := 10, ground := Ground.chain }, { on := 10, ground := Ground.guard }], guard := some (10, false) }) rfl (fun K hK => ?_) (AllReadyH.nil)
    go_simp
    refine ((show Calls _ _ _ _ (Tells _ (.int .i64 RX)) from by have h := room_any (HR.out.mg HXM.out.1) (Nat.le_refl _) HXM.out; rw [HKR.out] at h; exact h)).mono ?_; rintro e y3 ⟨rfl, hb⟩
    replace HB := Lib.hid (bel_call HB.out hb)
    replace HX := Lib.hid (HX.out.below (by simp) hb)
    replace HY := Lib.hid (HY.out.below (by simp) hb)
    replace HM := Lib.hid (HM.out.later hb)
    replace HE := Lib.hid (HE.out.later hb)
    replace HR := Lib.hid (HR.out.below hb)
    replace HZ6 := Lib.hid (HZ6.out.below (by simp) hb)
    clear hb
    try go_wp2_with fail
    refine hK.out _ _ ⟨HZ6.out.six, HY.out.five, HX.out.six⟩ (fun hHeld => ?_)
    clear hK K
    try simp only [Act.put, List.setIfInBounds_toArray, List.set_cons_zero, List.set_cons_succ]
    refine wpAnyH_take (i := 16) (oi := { dst := some 98, op := Op.binOp BinOp.neq 3 (Operand.tmp 94) (Operand.tmp 97) 3, type := 4, pos := "outright.go:35", after := #[{ on := 12, ground := Ground.data }, { on := 15, ground := Ground.data }, { on := 10, ground := Ground.guard }], guard := some (10, false) }) (v := ?_) rfl (by kernel_rfl) (by kernel_rfl) (by kernel_rfl) (fun _ _ _ h => h) (Or.inl ⟨by rfl, ?_⟩) (by assumption) ?_
    rotate_left 1
    · intro w hSw; clear hSw; go_simp; try (with_reducible rfl)
    try simp only [Act.put, List.setIfInBounds_toArray, List.set_cons_zero, List.set_cons_succ]
    rotate_left 1
    iterate 2
      · refine wpAnyH_take (i := 17) (oi := { dst := some 99, op := Op.pick (Operand.tmp 92) (Operand.const (Value.bool true)) (Operand.tmp 98), type := 4, pos := "outright.go:35", after := #[{ on := 10, ground := Ground.data }, { on := 16, ground := Ground.data }], guard := none }) (v := ?_) rfl (by kernel_rfl) (by kernel_rfl) (by kernel_rfl) (fun _ _ _ h => h) (Or.inl ⟨by rfl, ?_⟩) (by assumption) ?_
        rotate_left 1
        · intro w hSw; clear hSw; go_simp; try (with_reducible rfl)
        try simp only [Act.put, List.setIfInBounds_toArray, List.set_cons_zero, List.set_cons_succ]
        refine wpAnyH_done (by kernel_rfl) ?_ _
        clear hHeld
        clear hwe hRX hwp1 hwp2 HC
        obtain ⟨c0, c1, c2, c3, c4, c5⟩ := HZ6.out.six
        go_wp2_with fail
        clear c0 c1 c2 c3 c4 c5
        refine (writeM_any (HR.out.mg HXM.out.1) (Nat.le_refl _) HXF.out (by have := HXT.out; have := HBN.out; omega)).mono ?_
        rcases wrM_ends9 XS with ⟨z, hwr, hz65, hrd⟩ | ⟨e0, hwr, he0⟩
        rotate_left 1
        · rw [hwr]; rintro en w7 ⟨vx, rfl, hox, hb⟩
          have hne : (e0 != 0) = true := by simpa using he0
          clear he0 hwr hox
          replace HB := Lib.hid (bel_call HB.out hb)
          clear hb
          dsimp only
          go_wp2_with fail
          go_ret
          exact ⟨rfl, HB.out⟩
        · rw [hwr]; rintro en w7 ⟨vx, rfl, hox, hb⟩
          have ho : OwnB w7 _ vx z := hox
          replace HB := Lib.hid (bel_call HB.out hb)
          replace HX := Lib.hid (HX.out.below (by simp) hb)
          replace HY := Lib.hid (HY.out.below (by simp) hb)
          replace HM := Lib.hid (HM.out.later hb)
          replace HE := Lib.hid (HE.out.later hb)
          clear hb
          obtain ⟨ax, cx, rfl⟩ := ho.shape
          have HO := Lib.hid ho
          clear ho hox HR HZ6 hwr
          go_wp2_with fail
          refine (readM_any HO.out.sl (Nat.le_refl _) (by omega)).mono ?_; rw [hrd]; rintro en w8 ⟨vy, rfl, hmy, hb⟩
          replace HB := Lib.hid (bel_call HB.out hb)
          replace HX := Lib.hid (HX.out.below (by simp) hb)
          replace HY := Lib.hid (HY.out.below (by simp) hb)
          replace HM := Lib.hid (HM.out.later hb)
          replace HE := Lib.hid (HE.out.later hb)
          clear hb HO
          obtain ⟨q3, a3, n3, r3, rfl, hmm⟩ := hmy
          obtain ⟨ya, yb, rfl⟩ := Lst.shape hmm.1
          obtain ⟨yc, yd, rfl⟩ := Lst.shape hmm.2.1
          obtain ⟨ye, yf, rfl⟩ := Lst.shape hmm.2.2.1
          obtain ⟨yg, yh, rfl⟩ := Lst.shape hmm.2.2.2
          have HV := Lib.hid (show Mg w8 w8.heap.size (.agg #[.int .i64 XS.id, .int .i64 XS.fl, .slice ya XS.q.length yb, .slice yc XS.an.length yd, .slice ye XS.ns.length yf, .slice yg XS.ar.length yh]) XS from ⟨_, _, _, _, rfl, hmm⟩)
          rw [HXV.out.1, HXV.out.2.1, HXV.out.2.2.1, HXV.out.2.2.2.1, HXV.out.2.2.2.2.1, HXV.out.2.2.2.2.2] at HV ⊢
          clear hmm
          obtain ⟨xm, xf', hb, _⟩ := two_newE w8 (.int .i64 xi) (.int .i64 xf) (.slice ya k1 yb) (.slice yc k2 yd) (.slice ye k3 yf) (.slice yg k4 yh) (.int .i64 0) (.int .i64 0)
          obtain ⟨g8, hg8⟩ : ∃ g, w8.heap.size = g := ⟨_, rfl⟩
          rw [hg8] at xm xf'
          have HZ5 := Lib.hid xm
          have HZF := Lib.hid xf'
          clear xm xf'
          replace HB := Lib.hid (bel_call HB.out hb)
          replace HX := Lib.hid (HX.out.below (by simp) hb)
          replace HY := Lib.hid (HY.out.below (by simp) hb)
          replace HM := Lib.hid (HM.out.later hb)
          replace HE := Lib.hid (HE.out.later hb)
          replace HV := Lib.hid (HV.out.later hb)
          clear hb
          obtain ⟨c0, c1, c2, c3, c4, c5⟩ := HZ5.out.six
          go_wp2_with fail
          clear c0 c1 c2 c3 c4 c5
          clear hg8
          have h := of_any HV.out (Nat.le_refl _) HXM.out
          unfold OfPost at h
          rw [HOF.out] at h
          dsimp only at h
          refine h.mono ?_; rintro e w9 ⟨v, rfl, hv, hb⟩
          clear h
          replace HB := Lib.hid (bel_call HB.out hb)
          replace HX := Lib.hid (HX.out.below (by simp) hb)
          replace HY := Lib.hid (HY.out.below (by simp) hb)
          replace HM := Lib.hid (HM.out.later hb)
          replace HE := Lib.hid (HE.out.later hb)
          replace HZF := Lib.hid (HZF.out.below (by simp) hb)
          clear hb HV
          have HL := Lib.hid hv
          obtain ⟨o, rfl, hso⟩ := hv
          obtain ⟨oe, of, rfl⟩ := row_shape hso
          rw [HEX.out, HES.out]
          clear hso
          have hy := cel_new w9 (.int .i64 ES) (.int .i64 EX) (.int .i64 ed.v) (.bool ed.b) (.slice oe ed.o.length of) 28
          have hb : Below w9.heap.size w9 (w9.alloc (.cells #[.int .i64 ES, .int .i64 EX, .int .i64 ed.v, .bool ed.b, .slice oe ed.o.length of] 28)) := (Below.refl _ _).alloc (Nat.le_refl _) _
          replace HB := Lib.hid (bel_call HB.out hb)
          replace HX := Lib.hid (HX.out.below (by simp) hb)
          replace HY := Lib.hid (HY.out.below (by simp) hb)
          replace HM := Lib.hid (HM.out.later hb)
          replace HE := Lib.hid (HE.out.later hb)
          replace HZF := Lib.hid (HZF.out.below (by simp) hb)
          replace HL := Lib.hid (HL.out.below hb)
          obtain ⟨g9, hgg⟩ : ∃ g, w9.heap.size = g := ⟨_, rfl⟩
          rw [hgg] at hy
          have HZ7 := Lib.hid hy
          clear hy hb
          have kf := HZF.out.c 0 (by simp)
          simp only [List.getElem_cons_zero] at kf
          obtain ⟨d0, d1, d2, d3, d4⟩ := HY.out.five
          obtain ⟨f0', f1, f2, f3, f4⟩ := HZ7.out.five
          go_wp2_with fail
          clear d0 d1 d2 d3 d4
          clear f0' f1 f2 f3 f4 kf hgg
          refine (show Calls _ _ _ _ (Tells _ (.bool true)) from by have h := sameE_yes (HL.out.eg (by have := HEL.out.1; omega)) HE.out (Nat.le_refl _) (Nat.le_refl _); rw [HEX.out, HES.out] at h; exact h).mono ?_; rintro e wa ⟨rfl, hb⟩
          replace HB := Lib.hid (bel_call HB.out hb)
          clear hb
          go_wp2_with fail
          go_ret
          exact ⟨rfl, HB.out⟩
end Go.Proofs.YtpdaekgldgoalaaGreat

/-
  What is said besides, as it came in.
-/
namespace Go.Proofs.YtpdaekgldgoalaaGreat
open Go.RowKit Go.Shelf
set_option linter.unusedVariables false
set_option linter.unusedSimpArgs false
set_option maxRecDepth 100000

/-- What is known of a slice of options that came in. -/
def IsOs (w : World) (a : Option Addr) (len cap : Nat) : Prop :=
  (a = none ∧ len = 0 ∧ cap = 0) ∨ ∃ x, a = some x ∧ ∀ i, i < len → ∃ (c : Int) (d : ByteArray), w.cell? (x.add (i * 2)) = some (.int .i64 c) ∧ w.cell? (x.add (i * 2 + 1)) = some (.string d)

theorem cells_ot : Tryz.prog.cellsOf 58 = 2 := by kernel_rfl
theorem cells_eg : Tryz.prog.cellsOf 28 = 5 := by kernel_rfl
theorem cells_sot : Tryz.prog.cellsOf 26 = 1 := by kernel_rfl
theorem cellsE_bool : Tryz.prog.cellsOf 4 = 1 := by kernel_rfl
theorem cellsE_int : Tryz.prog.cellsOf 3 = 1 := by kernel_rfl
theorem cellsE_str : Tryz.prog.cellsOf 9 = 1 := by kernel_rfl
theorem bytes_ot : Tryz.prog.bytesOf 58 = 24 := by kernel_rfl

theorem open_ot {H : Type} {enc : TypeId × Value → H} {w : World} {base fuel : Nat} {spare : Nat → Bool} {held : Bool} {cs : List Value} {x : DataW H × List MemPlace}
    (h : DataW.trod enc Tryz.prog w base spare held fuel 58 cs = some x) (hl : cs.length = 2) : ∃ (c : Int) (d : ByteArray), cs = [.int .i64 c, .string d] := by
  cases fuel with
  | zero => simp [DataW.trod] at h
  | succ fuel =>
    obtain ⟨xs, k, _, _, _, h9, h10⟩ := DataW.trod_struct Tryz.underlying58 h
    match cs, hl with
    | [v0, v1], _ =>
      have g0 := h10 0 _ rfl
      have g1 := h10 1 _ rfl
      match xs, h9 with
      | [y0, y1], _ =>
        simp [cellsE_str, cellsE_int] at g0 g1
        obtain ⟨c, k0, _, _⟩ := DataW.trod_int Tryz.underlying3 g0
        obtain ⟨d, k1, _, _⟩ := DataW.trod_string Tryz.underlying9 g1
        injection k0 with k0 _
        injection k1 with k1 _
        subst k0; subst k1
        exact ⟨c, d, rfl⟩

theorem open_os {H : Type} {enc : TypeId × Value → H} {w : World} {base fuel : Nat} {spare : Nat → Bool} {held : Bool} {cs : List Value} {x : DataW H × List MemPlace}
    (h : DataW.trod enc Tryz.prog w base spare held fuel 26 cs = some x) (hw : ∀ n ∈ x.1.weights Tryz.prog 26, n ≤ reachBytes) :
    ∃ a len cap, cs = [.slice a len cap] ∧ IsOs w a len cap ∧ len ≤ 140737488351232 := by
  rcases Deep.open_slice Tryz.underlying26 h with ⟨h1, _⟩ | ⟨b, l, c, m, n, D, Pl, h1, _, h2, _, h3, h5, h4⟩
  · exact ⟨none, 0, 0, h1, .inl ⟨rfl, rfl, rfl⟩, by omega⟩
  · have hm : l ≤ m := by rw [h3]; split <;> omega
    refine ⟨some b, l, c, h1, .inr ⟨b, rfl, fun i hi => ?_⟩, ?_⟩
    · obtain ⟨cs', h6, h7⟩ := h4 i (by omega)
      rw [cells_ot] at h6
      obtain ⟨_, h8, h9⟩ := World.cells?_some h6
      obtain ⟨s, t, rfl⟩ := open_ot h7 h8
      have c0 := h9 0 (by omega)
      have c1 := h9 1 (by omega)
      rw [Deep.add_add] at c0 c1
      exact ⟨s, t, by simpa using c0, by simpa using c1⟩
    · have := hw ((l + (m - l)) * 24) (by rw [h5]; simp [DataW.weights, Tryz.underlying26, bytes_ot])
      unfold reachBytes at this
      omega

theorem os_of {w : World} {a : Option Addr} {len cap : Nat} (h : IsOs w a len cap) (hl : len ≤ 140737488351232) : ∃ l : List Ot, SO w w.heap.size (.slice a len cap) l := by
  rcases h with ⟨rfl, rfl, rfl⟩ | ⟨x, rfl, hx⟩
  · exact ⟨[], Lst.nil _ _⟩
  · have hch : ∀ n, n ≤ len → ∃ l : List Ot, l.length = n ∧ ∀ i (h : i < l.length), w.cell? (x.add (i * 2)) = some (.int .i64 l[i].c) ∧ w.cell? (x.add (i * 2 + 1)) = some (.string (bs l[i].d)) := by
      intro n
      induction n with
      | zero => intro _; exact ⟨[], rfl, fun i h => by simp at h⟩
      | succ n ih =>
        intro hn
        obtain ⟨l, h1, h2⟩ := ih (by omega)
        obtain ⟨c, d, c0, c1⟩ := hx n (by omega)
        refine ⟨l ++ [⟨c, d.data.toList⟩], by simp [h1], fun i hi => ?_⟩
        rw [List.length_append, List.length_singleton] at hi
        by_cases e : i < l.length
        · rw [List.getElem_append_left e]; exact h2 i e
        · have : i = l.length := by omega
          subst this
          rw [List.getElem_append_right (Nat.le_refl _)]
          simp only [Nat.sub_self, List.getElem_cons_zero]
          rw [h1, ← bs_eta]
          exact ⟨c0, c1⟩
    obtain ⟨l, h1, h2⟩ := hch len (Nat.le_refl _)
    refine ⟨l, some x, cap, by rw [h1], by omega, fun h => by simp at h, fun h0 => ?_⟩
    obtain ⟨b, off, spot⟩ := x
    have c0 := (h2 0 h0).1
    have hspot : spot = none := by simpa [Addr.add] using World.cell?_spot c0
    subst hspot
    have hlt : b < w.heap.size := by
      rw [WideShapes.add_plain] at c0
      exact World.block_lt_of_cell? w _ c0
    refine ⟨b, off, rfl, hlt, fun i u hu => ?_⟩
    obtain ⟨j, r, hj, rfl, hr⟩ := flat_of (f := co) (k := 2) (fun _ => rfl) l i u hu
    obtain ⟨c0, c1⟩ := h2 j hj
    rw [WideShapes.add_plain] at c0 c1
    match r, hr with
    | 0, hr => simp [co] at hr; subst hr; exact c0
    | 1, hr => simp [co] at hr; subst hr; exact c1
    | r + 2, hr => simp [co] at hr

/-- What is said besides that came in reads as such. -/
theorem open_eg {H : Type} {enc : TypeId × Value → H} {w : World} {base fuel : Nat} {spare : Nat → Bool} {held : Bool} {cs : Array Value} {x : DataW H × List MemPlace}
    (h : DataW.trod enc Tryz.prog w base spare held fuel 28 cs.toList = some x) (hl : cs.size = 5) (hw : ∀ n ∈ x.1.weights Tryz.prog 28, n ≤ reachBytes) : ∃ e : Ed, Eg w w.heap.size (.agg cs) e := by
  obtain ⟨cs⟩ := cs
  simp only [List.size_toArray] at hl
  cases fuel with
  | zero => simp [DataW.trod] at h
  | succ fuel =>
    obtain ⟨xs, k, _, h8, _, h9, h10⟩ := DataW.trod_struct Tryz.underlying28 h
    match cs, hl with
    | [v0, v1, v2, v3, v4], _ =>
      have g0 := h10 0 _ rfl
      have g1 := h10 1 _ rfl
      have g2 := h10 2 _ rfl
      have g3 := h10 3 _ rfl
      have g4 := h10 4 _ rfl
      match xs, h9 with
      | [y0, y1, y2, y3, y4], _ =>
        simp [cellsE_int, cellsE_bool, cells_sot] at g0 g1 g2 g3 g4
        have hw2 : ∀ n, n ∈ y4.1.weights Tryz.prog 26 → n ≤ reachBytes := fun n hn => hw n (by
          rw [h8]
          simp only [List.map_cons, List.map_nil, DataW.weights, Tryz.underlying28, List.toList_toArray, DataW.weightsEach, List.mem_append, List.not_mem_nil, or_false]
          simp [hn])
        obtain ⟨s, k0, _, _⟩ := DataW.trod_int Tryz.underlying3 g0
        obtain ⟨e, k1, _, _⟩ := DataW.trod_int Tryz.underlying3 g1
        obtain ⟨u, k2, _, _⟩ := DataW.trod_int Tryz.underlying3 g2
        obtain ⟨b, k3, _⟩ := DataW.trod_bool Tryz.underlying4 g3
        obtain ⟨oa, ol, oc, k4, o1, o2⟩ := open_os g4 hw2
        injection k0 with k0 _
        injection k1 with k1 _
        injection k2 with k2 _
        injection k3 with k3 _
        injection k4 with k4 _
        subst k0; subst k1; subst k2; subst k3; subst k4
        obtain ⟨l, h1⟩ := os_of o1 o2
        exact ⟨⟨s, e, u, b, l⟩, _, rfl, h1⟩
end Go.Proofs.YtpdaekgldgoalaaGreat
