/-
  What is written is read as it was, and what is read may be: MsgBack.
-/
import Derived.Test.YtdikgjbpjdnodaaGreatV22
import Derived.Test.YtdikgjbpjdnodaaGreatV14
import Derived.SizedLaws
import Derived.Test.YtdikgjbpjdnodaaGreatV02
namespace Go.Proofs.YtdikgjbpjdnodaaGreat
open Go.RowKit Go.Shelf
set_option linter.unusedVariables false
set_option linter.unusedSimpArgs false
set_option maxRecDepth 100000

/-- One byte is laid behind a row of the call's own. -/
theorem app_byte {w : World} {B : Nat} {v : Value} {l : List Int} (h : OwnR w B v l) (x : Int) (hl : l.length + 1 ≤ 1000000) (hB : B ≤ w.heap.size) :
    ∃ a c w', (Builtin.append_ #[28, 28] 28 #[v, .slice (some ⟨w.heap.size, 0, none⟩) 1 1]).run Tryz.prog (w.alloc (.cells #[.int .u8 x] 5)) = .ok (.slice a (l.length + 1) c) w' ∧ OwnR w' B (.slice a (l.length + 1) c) (l ++ [x]) ∧
      Aside (fun b => v.ownBlock = some b) (w.alloc (.cells #[.int .u8 x] 5)) w' := by
  obtain ⟨i0, hi, hz0, hz1, hz2⟩ := info_parts Tryz.info5
  have hx : Lst (w.alloc (.cells #[.int .u8 x] 5)) (w.heap.size + 1) (.slice (some ⟨w.heap.size, 0, none⟩) 1 1) 1 [.int .u8 x] :=
    ⟨_, 1, rfl, by simp, fun h => by simp at h, fun _ => ⟨w.heap.size, 0, rfl, by omega, fun i u hu => by
      match i, hu with
      | 0, hu =>
        have := (cel_new1 w (.int .u8 x) 5).c 0 (by simp)
        rw [Nat.zero_add, this]
        simpa using hu
      | i + 1, hu => simp at hu⟩⟩
  have hown : (w.alloc (.cells #[.int .u8 x] 5)).ownsRow B 5 1 v l.length (l.map (Value.int .u8)) := World.ownsRow.alloc h _
  obtain ⟨a, c, w', h1, h2, h3, _⟩ := row_more (ty := 28) 1 Tryz.underlying28 hi hz0 hz1 hz2 rfl (by decide) (by decide) hown hx (by simp) (fun u hu => by simp only [List.mem_singleton] at hu; subst hu; rfl) hl (by rw [World.size_alloc]; omega)
  refine ⟨a, c, w', h1, ?_, h3⟩
  unfold OwnR
  rw [List.length_append, List.map_append]
  exact h2

theorem bigMs_fineX {most : Nat} {m : Ms} {M : Nat} (hM : M ≤ 1000000) (h : bigMs most M m = false) : m.Fine := by
  obtain ⟨_, h1, h2, h3, h4⟩ := bigMs_no h
  exact ⟨fun x hx => Nat.le_trans (h1 x hx) hM, fun x hx => ⟨Nat.le_trans (h2 x hx).1 hM, Nat.le_trans (h2 x hx).2 hM⟩, fun x hx => ⟨Nat.le_trans (h3 x hx).1 hM, Nat.le_trans (h3 x hx).2 hM⟩, fun x hx => ⟨Nat.le_trans (h4 x hx).1 hM, Nat.le_trans (h4 x hx).2 hM⟩⟩

set_option maxHeartbeats 16000000 in
theorem backM_any {w : World} {lo hi : Nat} {u vb : Value} {m : Ms} {b : List UInt8} (p0 : Int) (m8 : UInt8) (h : Mg w w.heap.size u m) (hS : Sl w lo hi vb (iz b)) (hhi : hi ≤ w.heap.size) : Calls Tryz.prog 5 #[u, vb, .int .i64 p0, .int .u8 (m8.toNat : Nat)] w (Tells w (.bool true)) := by
  have HAw := Lib.hid (fun wx => awakeM_any wx)
  have hS2 := hS
  obtain ⟨av, cv, rfl, _⟩ := hS2
  rw [iz_len] at hS ⊢
  obtain ⟨q, a, n, r, rfl, hq, ha, hn, hr⟩ := h
  obtain ⟨qa, qc, rfl⟩ := Lst.shape hq
  obtain ⟨aa, ac, rfl⟩ := Lst.shape ha
  obtain ⟨na, nc, rfl⟩ := Lst.shape hn
  obtain ⟨ra, rc, rfl⟩ := Lst.shape hr
  have hm : Mg w w.heap.size (.agg #[.int .i64 m.id, .int .i64 m.fl, .slice qa m.q.length qc, .slice aa m.an.length ac, .slice na m.ns.length nc, .slice ra m.ar.length rc]) m := ⟨_, _, _, _, rfl, hq, ha, hn, hr⟩
  obtain ⟨i0, hi0⟩ : ∃ i, m.id = i := ⟨_, rfl⟩
  obtain ⟨f0, hf0⟩ : ∃ i, m.fl = i := ⟨_, rfl⟩
  obtain ⟨lq, hlq⟩ : ∃ i, m.q.length = i := ⟨_, rfl⟩
  obtain ⟨la, hla⟩ : ∃ i, m.an.length = i := ⟨_, rfl⟩
  obtain ⟨ln, hln⟩ : ∃ i, m.ns.length = i := ⟨_, rfl⟩
  obtain ⟨lr, hlr⟩ : ∃ i, m.ar.length = i := ⟨_, rfl⟩
  obtain ⟨R, hR⟩ : ∃ r, bigMs 200 3000 m = r := ⟨_, rfl⟩
  rw [hi0, hf0, hlq, hla, hln, hlr] at hm ⊢
  have hb : Below w.heap.size w (w.alloc (.cells #[.int .i64 i0, .int .i64 f0, .slice qa lq qc, .slice aa la ac, .slice na ln nc, .slice ra lr rc] 25)) := (Below.refl _ _).alloc (Nat.le_refl _) _
  have hx := cel_new6 w (.int .i64 i0) (.int .i64 f0) (.slice qa lq qc) (.slice aa la ac) (.slice na ln nc) (.slice ra lr rc) 25
  obtain ⟨N, hN⟩ : ∃ N, w.heap.size = N := ⟨_, rfl⟩
  rw [hN] at hx
  have HB := Lib.hid hb
  have HX := Lib.hid hx
  have HM := Lib.hid (hm.later hb)
  have HS := Lib.hid (hS.later hb)
  have HHI := Lib.hid hhi
  clear hq ha hn hr hm hb hx hS hhi
  go_enter Tryz.func5, Tryz.ntmps5
  go_wp2_with fail
  refine (HAw.out _).mono ?_; rintro e w1 ⟨rfl, hb⟩
  replace HB := Lib.hid (bel_call HB.out hb)
  replace HX := Lib.hid (HX.out.below (by simp) hb)
  replace HM := Lib.hid (HM.out.later hb)
  replace HS := Lib.hid (HS.out.later hb)
  clear hb
  obtain ⟨c0, c1, c2, c3, c4, c5⟩ := HX.out.six
  go_wp2_with fail
  refine (bigM_any 200 3000 (by decide) (by decide) HM.out (Nat.le_refl _)).mono ?_; rw [hR]; rintro e w2 ⟨rfl, hb⟩
  clear c0 c1 c2 c3 c4 c5
  replace HB := Lib.hid (bel_call HB.out hb)
  replace HX := Lib.hid (HX.out.below (by simp) hb)
  replace HM := Lib.hid (HM.out.later hb)
  replace HS := Lib.hid (HS.out.later hb)
  clear hb
  cases R with
  | true =>
    go_wp2_with fail
    go_ret
    exact ⟨rfl, HB.out⟩
  | false =>
    by_cases hbl : 5000 < b.length
    · have t0 : decide ((5000 : Int) < b.length) = true := by simp; omega
      go_wp2_with fail
      go_ret
      exact ⟨rfl, HB.out⟩
    · have t0 : decide ((5000 : Int) < b.length) = false := by simp; omega
      have HF := Lib.hid (bigMs_fineX (by decide) hR)
      have HBN := Lib.hid (bigMs_no hR).1
      obtain ⟨tot, htot⟩ : ∃ x, m.q.length + m.an.length + m.ns.length + m.ar.length = x := ⟨_, rfl⟩
      obtain ⟨c0, c1, c2, c3, c4, c5⟩ := HX.out.six
      go_wp2_with fail
      clear c0 c1 c2 c3 c4 c5
      clear t0
      refine (writeM_any HM.out (Nat.le_refl _) HF.out (Nat.le_trans HBN.out (by decide))).mono ?_
      rcases wrM_ends m with ⟨z, hwr, hck, hz12, hz65, hrd⟩ | ⟨e0, hwr, he0, _⟩
      · rw [hwr]; rintro en w3 ⟨vx, rfl, hox, hb⟩
        have ho : OwnB w3 _ vx z := hox
        replace HB := Lib.hid (bel_call HB.out hb)
        replace HX := Lib.hid (HX.out.below (by simp) hb)
        replace HM := Lib.hid (HM.out.later hb)
        replace HS := Lib.hid (HS.out.later hb)
        clear hb
        obtain ⟨ax, cx, rfl⟩ := ho.shape
        have HO := Lib.hid ho
        clear ho hox
        go_wp2_with fail
        refine (readM_any HO.out.sl (Nat.le_refl _) (by omega)).mono ?_; rw [hrd]; rintro en w4 ⟨vy, rfl, hmy, hb⟩
        replace HB := Lib.hid (bel_call HB.out hb)
        replace HX := Lib.hid (HX.out.below (by simp) hb)
        replace HM := Lib.hid (HM.out.later hb)
        replace HS := Lib.hid (HS.out.later hb)
        replace HO := Lib.hid (HO.out.below hb)
        clear hb
        obtain ⟨q3, a3, n3, r3, rfl, hmm⟩ := hmy
        obtain ⟨xa, xn, xc, rfl⟩ : ∃ a n c, q3 = .slice a n c := by obtain ⟨a, c, h⟩ := Lst.shape hmm.1; exact ⟨a, _, c, h⟩
        obtain ⟨ya, yn, yc, rfl⟩ : ∃ a n c, a3 = .slice a n c := by obtain ⟨a, c, h⟩ := Lst.shape hmm.2.1; exact ⟨a, _, c, h⟩
        obtain ⟨za, zn, zc, rfl⟩ : ∃ a n c, n3 = .slice a n c := by obtain ⟨a, c, h⟩ := Lst.shape hmm.2.2.1; exact ⟨a, _, c, h⟩
        obtain ⟨ta, tn, tc, rfl⟩ : ∃ a n c, r3 = .slice a n c := by obtain ⟨a, c, h⟩ := Lst.shape hmm.2.2.2; exact ⟨a, _, c, h⟩
        have HMY := Lib.hid (show Mg w4 w4.heap.size (.agg #[.int .i64 m.id, .int .i64 m.fl, .slice xa xn xc, .slice ya yn yc, .slice za zn zc, .slice ta tn tc]) m from ⟨_, _, _, _, rfl, hmm⟩)
        rw [hi0, hf0] at HMY
        rw [hi0, hf0]
        clear hmm
        obtain ⟨g4, hg4⟩ : ∃ g, w4.heap.size = g := ⟨_, rfl⟩
        obtain ⟨xm, xf, hb, _⟩ := two_new w4 (.int .i64 i0) (.int .i64 f0) (.slice xa xn xc) (.slice ya yn yc) (.slice za zn zc) (.slice ta tn tc) (.int .i64 0) (.int .i64 0)
        rw [hg4] at xm xf
        have HY := Lib.hid xm
        have HF4 := Lib.hid xf
        clear xm xf
        replace HB := Lib.hid (bel_call HB.out hb)
        replace HX := Lib.hid (HX.out.below (by simp) hb)
        replace HM := Lib.hid (HM.out.later hb)
        replace HS := Lib.hid (HS.out.later hb)
        replace HO := Lib.hid (HO.out.below hb)
        replace HMY := Lib.hid (HMY.out.later hb)
        clear hb
        obtain ⟨c0, c1, c2, c3, c4, c5⟩ := HX.out.six
        obtain ⟨d0, d1, d2, d3, d4, d5⟩ := HY.out.six
        have k0 := HF4.out.c 0 (by simp)
        simp only [List.getElem_cons_zero, List.getElem_cons_succ] at k0
        go_wp2_with fail
        clear c0 c1 c2 c3 c4 c5 d0 d1 d2 d3 d4 d5
        clear k0 hg4
        refine (sameM_yes HMY.out HM.out (Nat.le_refl _) (Nat.le_refl _)).mono ?_; rintro en w5 ⟨rfl, hb⟩
        clear HMY HY HF4
        replace HB := Lib.hid (bel_call HB.out hb)
        replace HX := Lib.hid (HX.out.below (by simp) hb)
        replace HM := Lib.hid (HM.out.later hb)
        replace HS := Lib.hid (HS.out.later hb)
        replace HO := Lib.hid (HO.out.below hb)
        clear hb
        obtain ⟨c0, c1, c2, c3, c4, c5⟩ := HX.out.six
        go_wp2_with fail
        clear c0 c1 c2 c3 c4 c5
        refine (checkM_any HM.out (Nat.le_refl _) HF.out).mono ?_; rw [hck]; rintro en w6 ⟨rfl, hb⟩
        replace HB := Lib.hid (bel_call HB.out hb)
        replace HX := Lib.hid (HX.out.below (by simp) hb)
        replace HM := Lib.hid (HM.out.later hb)
        replace HS := Lib.hid (HS.out.later hb)
        replace HO := Lib.hid (HO.out.below hb)
        clear hb
        have t1 : decide ((65535 : Int) < z.length) = false := by simp; omega
        go_wp2_with fail
        clear t1
        refine (pick_any p0 z.length w6 (by omega) (by omega)).mono ?_; rintro en w7 ⟨k, hk, rfl, rfl⟩
        have hk2 : k < z.length := by omega
        obtain ⟨sv, hcut, hsk⟩ := slice_upto (m := k) (by rw [iz_len]; exact HO.out.sl : Sl w6 _ _ (.slice ax (iz z).length cx) (iz z)) (by rw [iz_len]; omega) (by rw [iz_len]; omega)
        rw [iz_take] at hsk
        rw [iz_len] at hcut
        obtain ⟨c, a, hc0, hrc⟩ := wrM_cut hwr k hk2
        have HSK := Lib.hid hsk
        clear hsk hk
        go_wp2_with fail
        clear hcut
        refine (readM_any HSK.out (Nat.le_refl _) (by rw [List.length_take]; omega)).mono ?_; rw [hrc]; rintro en w8 ⟨rfl, hb⟩
        clear HSK
        replace HB := Lib.hid (bel_call HB.out hb)
        replace HX := Lib.hid (HX.out.below (by simp) hb)
        replace HM := Lib.hid (HM.out.later hb)
        replace HS := Lib.hid (HS.out.later hb)
        replace HO := Lib.hid (HO.out.below hb)
        clear hb
        unfold zeroM
        obtain ⟨g8, hg8⟩ : ∃ g, w8.heap.size = g := ⟨_, rfl⟩
        obtain ⟨xm, xf, hb, _⟩ := two_new w8 (.int .i64 0) (.int .i64 0) (.slice none 0 0) (.slice none 0 0) (.slice none 0 0) (.slice none 0 0) (.int .i64 c) (.int .i64 a)
        rw [hg8] at xm xf
        have HG := Lib.hid xf
        clear xm xf
        replace HB := Lib.hid (bel_call HB.out hb)
        replace HX := Lib.hid (HX.out.below (by simp) hb)
        replace HM := Lib.hid (HM.out.later hb)
        replace HS := Lib.hid (HS.out.later hb)
        replace HO := Lib.hid (HO.out.below hb)
        clear hb
        go_wp2_with fail
        clear hg8
        have hgl := HG.out.lt (by simp)
        have hnl := HX.out.lt (by simp)
        have HMB := HM
        have HLB := Lib.hid (Nat.le_trans HHI.out HB.out.size)
        have HNB := Lib.hid HB.out.size
        refine (copy_any HO.out.sl (by rw [iz_len]; omega)).mono ?_; rintro en w9 ⟨v9, rfl, ho9, hb⟩
        obtain ⟨B, hBe⟩ : ∃ B, ((w8.alloc (.cells #[.int .i64 0, .int .i64 0, .slice none 0 0, .slice none 0 0, .slice none 0 0, .slice none 0 0] 25)).alloc (.cells #[.int .i64 c, .int .i64 a] 43)).heap.size = B := ⟨_, (rfl : ((w8.alloc (.cells #[.int .i64 0, .int .i64 0, .slice none 0 0, .slice none 0 0, .slice none 0 0, .slice none 0 0] 25)).alloc (.cells #[.int .i64 c, .int .i64 a] 43)).heap.size = _)⟩
        rw [hBe] at hgl hnl ho9 hb HMB HLB HNB
        have hB9 : B ≤ w9.heap.size := by rw [← hBe]; exact hb.size
        have hHM9 : Mg w9 B _ m := HMB.out.below hb (Nat.le_refl _)
        have hHS9 := HS.out.below hb HLB.out
        rw [← hBe] at hb
        replace HB := Lib.hid (bel_call HB.out hb)
        replace HX := Lib.hid (HX.out.below (by simp) hb)
        replace HG := Lib.hid (HG.out.below (by simp) hb)
        clear hb
        obtain ⟨a9, c9, w10, hrun, ho10, ha10⟩ := app_byte ho9 (m8.toNat : Nat) (by rw [iz_len]; omega) hB9
        rw [iz_len] at hrun ho10
        have hal : Below w9.heap.size w9 (w9.alloc (.cells #[.int .u8 (m8.toNat : Nat)] 5)) := (Below.refl _ _).alloc (Nat.le_refl _) _
        have hlt9 := World.ownsRow.lt ho9
        have hbB : Below B (w9.alloc (.cells #[.int .u8 (m8.toNat : Nat)] 5)) w10 := ha10.below fun k hk => ⟨by rw [World.size_alloc]; omega, fun hg => by have := (hlt9 k hg).1; omega⟩
        replace HX := Lib.hid ((HX.out.below (by simp) hal).aside (by simp) ha10 fun hg => by have := (hlt9 _ hg).1; omega)
        replace HG := Lib.hid ((HG.out.below (by simp) hal).aside (by simp) ha10 fun hg => by have := (hlt9 _ hg).1; omega)
        replace HM := Lib.hid (((hHM9.below hal hB9).below hbB (Nat.le_refl _)).wide (show B ≤ w10.heap.size from Nat.le_trans hB9 (Nat.le_trans hal.size hbB.size)))
        replace HS := Lib.hid ((hHS9.later hal).below hbB HLB.out)
        replace HB := Lib.hid (below_aside (bel_call HB.out hal) ha10 fun k hk => ⟨by rw [World.size_alloc]; have := HNB.out; omega, fun hg => by have := (hlt9 k hg).1; have := HNB.out; omega⟩)
        have HO10 := Lib.hid (show Sl w10 B w10.heap.size (.slice a9 (z.length + 1) c9) (iz (z ++ [m8])) by rw [iz_app]; exact ho10.sl)
        have HRUN := Lib.hid hrun
        clear hrun ho10 ha10 hal hlt9 hbB hHM9 hHS9 ho9 hgl hnl HMB HO
        go_wp2_with (at_builtin; refine wpList_append_run (.tmp 80) (.tmp 82) 28 28 rfl rfl rfl rfl HRUN.out ?_)
        obtain ⟨c2, a2, hrm, hm4⟩ := wrM_more hwr m8
        refine (readM_any HO10.out (Nat.le_refl _) (by rw [List.length_append, List.length_singleton]; omega)).mono ?_; rw [hrm]; rintro en w11 ⟨rfl, hb⟩
        replace HB := Lib.hid (bel_call HB.out hb)
        replace HX := Lib.hid (HX.out.below (by simp) hb)
        replace HM := Lib.hid (HM.out.later hb)
        replace HS := Lib.hid (HS.out.later hb)
        replace HG := Lib.hid (HG.out.below (by simp) hb)
        clear hb
        unfold zeroM
        clear HO10 HRUN hB9 hBe HLB HNB
        obtain ⟨g11, hg11⟩ : ∃ g, w11.heap.size = g := ⟨_, rfl⟩
        obtain ⟨xm, xf, hb, _⟩ := two_new w11 (.int .i64 0) (.int .i64 0) (.slice none 0 0) (.slice none 0 0) (.slice none 0 0) (.slice none 0 0) (.int .i64 c2) (.int .i64 a2)
        rw [hg11] at xm xf
        have HK := Lib.hid xf
        clear xm xf
        replace HB := Lib.hid (bel_call HB.out hb)
        replace HX := Lib.hid (HX.out.below (by simp) hb)
        replace HM := Lib.hid (HM.out.later hb)
        replace HS := Lib.hid (HS.out.later hb)
        replace HG := Lib.hid (HG.out.below (by simp) hb)
        clear hb
        have k0 := HG.out.c 0 (by simp)
        simp only [List.getElem_cons_zero, List.getElem_cons_succ] at k0
        have k1 := HK.out.c 0 (by simp)
        simp only [List.getElem_cons_zero, List.getElem_cons_succ] at k1
        have k2 := HK.out.c 1 (by simp)
        simp only [List.getElem_cons_zero, List.getElem_cons_succ] at k2
        have tc : (c == 0) = false := by simpa using hc0
        have tc2 : (c != 0) = true := by simpa using hc0
        by_cases hzl : z.length < 65535
        · obtain ⟨rfl, rfl⟩ := hm4 hzl
          have t1 : decide ((z.length : Int) < 65535) = true := by simp; omega
          go_wp2_with fail
          rcases hrb : rdM b with y | ⟨c, a⟩
          rotate_left 1
          · obtain ⟨hc0, ha0, hab⟩ := rdM_bad (by omega) hrb
            refine (readM_any HS.out (Nat.le_trans HHI.out HB.out.size) (by omega)).mono ?_; rw [hrb]; rintro en wa ⟨rfl, hb⟩
            replace HB := Lib.hid (bel_call HB.out hb)
            clear hb
            unfold zeroM
            obtain ⟨ga, hga⟩ : ∃ g, wa.heap.size = g := ⟨_, rfl⟩
            obtain ⟨xm, xf, hb, _⟩ := two_new wa (.int .i64 0) (.int .i64 0) (.slice none 0 0) (.slice none 0 0) (.slice none 0 0) (.slice none 0 0) (.int .i64 c) (.int .i64 a)
            rw [hga] at xm xf
            have HX2 := Lib.hid xm
            have HF2 := Lib.hid xf
            clear xm xf
            replace HB := Lib.hid (bel_call HB.out hb)
            clear hb
            obtain ⟨c0, c1, c2, c3, c4, c5⟩ := HX2.out.six
            have k0 := HF2.out.c 0 (by simp)
            simp only [List.getElem_cons_zero, List.getElem_cons_succ] at k0
            have k1 := HF2.out.c 1 (by simp)
            simp only [List.getElem_cons_zero, List.getElem_cons_succ] at k1
            have tE : (c != 0) = true := by simpa using hc0
            have HZ0 := Lib.hid (fun wx => (⟨_, _, _, _, rfl, Lst.nil _ _, Lst.nil _ _, Lst.nil _ _, Lst.nil _ _⟩ : Mg wx 0 zeroM ms0))
            unfold zeroM at HZ0
            go_wp2_with fail
            clear c0 c1 c2 c3 c4 c5
            clear k0 k1
            refine (sameM_yes (HZ0.out _) (HZ0.out _) (Nat.zero_le _) (Nat.zero_le _)).mono ?_; rintro en wb ⟨rfl, hb⟩
            replace HB := Lib.hid (bel_call HB.out hb)
            replace HF2 := Lib.hid (HF2.out.below (by simp) hb)
            clear hb
            have k1 := HF2.out.c 1 (by simp)
            simp only [List.getElem_cons_zero, List.getElem_cons_succ] at k1
            have t1 : decide ((0 : Int) ≤ a) = true := by simpa using ha0
            have t2 : decide (a ≤ (b.length : Int)) = true := by simpa using hab
            have t3 : 0 ≤ a := ha0
            have t4 : a ≤ (b.length : Int) := hab
            go_wp2_with fail
            go_ret
            exact ⟨rfl, HB.out⟩
          · have hcy := rdM_may (by omega) hrb
            have hmany := rdM_many hrb
            refine (readM_any HS.out (Nat.le_trans HHI.out HB.out.size) (by omega)).mono ?_; rw [hrb]; rintro en wa ⟨vy, rfl, hmy, hb⟩
            replace HB := Lib.hid (bel_call HB.out hb)
            clear hb
            obtain ⟨q3, a3, n3, r3, rfl, hmm⟩ := hmy
            obtain ⟨xa, xn, xc, rfl⟩ : ∃ a n c, q3 = .slice a n c := by obtain ⟨a, c, h⟩ := Lst.shape hmm.1; exact ⟨a, _, c, h⟩
            obtain ⟨ya, yn, yc, rfl⟩ : ∃ a n c, a3 = .slice a n c := by obtain ⟨a, c, h⟩ := Lst.shape hmm.2.1; exact ⟨a, _, c, h⟩
            obtain ⟨za, zn, zc, rfl⟩ : ∃ a n c, n3 = .slice a n c := by obtain ⟨a, c, h⟩ := Lst.shape hmm.2.2.1; exact ⟨a, _, c, h⟩
            obtain ⟨ta, tn, tc, rfl⟩ : ∃ a n c, r3 = .slice a n c := by obtain ⟨a, c, h⟩ := Lst.shape hmm.2.2.2; exact ⟨a, _, c, h⟩
            obtain ⟨i1, hi1⟩ : ∃ x, y.id = x := ⟨_, rfl⟩
            obtain ⟨f1, hf1⟩ : ∃ x, y.fl = x := ⟨_, rfl⟩
            have HM2 := Lib.hid (show Mg wa wa.heap.size (.agg #[.int .i64 y.id, .int .i64 y.fl, .slice xa xn xc, .slice ya yn yc, .slice za zn zc, .slice ta tn tc]) y from ⟨_, _, _, _, rfl, hmm⟩)
            rw [hi1, hf1] at HM2
            rw [hi1, hf1]
            clear hmm
            obtain ⟨ga, hga⟩ : ∃ g, wa.heap.size = g := ⟨_, rfl⟩
            obtain ⟨xm, xf, hb, _⟩ := two_new wa (.int .i64 i1) (.int .i64 f1) (.slice xa xn xc) (.slice ya yn yc) (.slice za zn zc) (.slice ta tn tc) (.int .i64 0) (.int .i64 0)
            rw [hga] at xm xf
            have HX2 := Lib.hid xm
            have HF2 := Lib.hid xf
            clear xm xf
            replace HB := Lib.hid (bel_call HB.out hb)
            replace HM2 := Lib.hid (HM2.out.later hb)
            clear hb
            obtain ⟨c0, c1, c2, c3, c4, c5⟩ := HX2.out.six
            have k0 := HF2.out.c 0 (by simp)
            simp only [List.getElem_cons_zero, List.getElem_cons_succ] at k0
            go_wp2_with fail
            clear c0 c1 c2 c3 c4 c5
            clear k0 hga
            refine (writeM_any HM2.out (Nat.le_refl _) (chkM_fine hcy) (by omega)).mono ?_
            rcases wrM_ends y with ⟨z2, hw2, _, hz12b, hz65b, hrd2⟩ | ⟨e2, hw2, he2, he3⟩
            · rw [hw2]; rintro en wb ⟨vz, rfl, hoz, hb⟩
              have ho : OwnB wb _ vz z2 := hoz
              replace HB := Lib.hid (bel_call HB.out hb)
              replace HX2 := Lib.hid (HX2.out.below (by simp) hb)
              replace HM2 := Lib.hid (HM2.out.later hb)
              clear hb
              obtain ⟨az, cz, rfl⟩ := ho.shape
              have HO2 := Lib.hid ho
              clear ho hoz
              go_wp2_with fail
              refine (readM_any HO2.out.sl (Nat.le_refl _) (by omega)).mono ?_; rw [hrd2]; rintro en wc ⟨vw, rfl, hmw, hb⟩
              replace HB := Lib.hid (bel_call HB.out hb)
              replace HX2 := Lib.hid (HX2.out.below (by simp) hb)
              replace HM2 := Lib.hid (HM2.out.later hb)
              replace HO2 := Lib.hid (HO2.out.below hb)
              clear hb
              obtain ⟨q3, a3, n3, r3, rfl, hmm⟩ := hmw
              obtain ⟨xa2, xn2, xc2, rfl⟩ : ∃ a n c, q3 = .slice a n c := by obtain ⟨a, c, h⟩ := Lst.shape hmm.1; exact ⟨a, _, c, h⟩
              obtain ⟨ya2, yn2, yc2, rfl⟩ : ∃ a n c, a3 = .slice a n c := by obtain ⟨a, c, h⟩ := Lst.shape hmm.2.1; exact ⟨a, _, c, h⟩
              obtain ⟨za2, zn2, zc2, rfl⟩ : ∃ a n c, n3 = .slice a n c := by obtain ⟨a, c, h⟩ := Lst.shape hmm.2.2.1; exact ⟨a, _, c, h⟩
              obtain ⟨ta2, tn2, tc2, rfl⟩ : ∃ a n c, r3 = .slice a n c := by obtain ⟨a, c, h⟩ := Lst.shape hmm.2.2.2; exact ⟨a, _, c, h⟩
              have HM3 := Lib.hid (show Mg wc wc.heap.size (.agg #[.int .i64 y.id, .int .i64 y.fl, .slice xa2 xn2 xc2, .slice ya2 yn2 yc2, .slice za2 zn2 zc2, .slice ta2 tn2 tc2]) y from ⟨_, _, _, _, rfl, hmm⟩)
              rw [hi1, hf1] at HM3
              rw [hi1, hf1]
              clear hmm
              obtain ⟨gc, hgc⟩ : ∃ g, wc.heap.size = g := ⟨_, rfl⟩
              obtain ⟨xm, xf, hb, _⟩ := two_new wc (.int .i64 i1) (.int .i64 f1) (.slice xa2 xn2 xc2) (.slice ya2 yn2 yc2) (.slice za2 zn2 zc2) (.slice ta2 tn2 tc2) (.int .i64 0) (.int .i64 0)
              rw [hgc] at xm xf
              have HX3 := Lib.hid xm
              have HF3 := Lib.hid xf
              clear xm xf
              replace HB := Lib.hid (bel_call HB.out hb)
              replace HX2 := Lib.hid (HX2.out.below (by simp) hb)
              replace HM2 := Lib.hid (HM2.out.later hb)
              replace HO2 := Lib.hid (HO2.out.below hb)
              replace HM3 := Lib.hid (HM3.out.later hb)
              clear hb
              go_wp2_with fail
              clear hgc
              refine (head_any HO2.out.sl (Nat.le_refl _) (by omega)).mono ?_; rw [(rdM_head hrd2).1, hi1, hf1]; rintro en wd ⟨rfl, hb⟩
              replace HB := Lib.hid (bel_call HB.out hb)
              replace HX2 := Lib.hid (HX2.out.below (by simp) hb)
              replace HM2 := Lib.hid (HM2.out.later hb)
              replace HX3 := Lib.hid (HX3.out.below (by simp) hb)
              replace HF3 := Lib.hid (HF3.out.below (by simp) hb)
              replace HM3 := Lib.hid (HM3.out.later hb)
              clear hb
              obtain ⟨c0, c1, c2, c3, c4, c5⟩ := HX3.out.six
              obtain ⟨d0, d1, d2, d3, d4, d5⟩ := HX2.out.six
              have k0 := HF3.out.c 0 (by simp)
              simp only [List.getElem_cons_zero, List.getElem_cons_succ] at k0
              go_wp2_with fail
              clear c0 c1 c2 c3 c4 c5 d0 d1 d2 d3 d4 d5
              clear k0
              refine (sameM_yes HM3.out HM2.out (Nat.le_refl _) (Nat.le_refl _)).mono ?_; rintro en we ⟨rfl, hb⟩
              replace HB := Lib.hid (bel_call HB.out hb)
              replace HX2 := Lib.hid (HX2.out.below (by simp) hb)
              clear hb
              obtain ⟨d0, d1, d2, d3, d4, d5⟩ := HX2.out.six
              go_wp2_with fail
              go_ret
              exact ⟨rfl, HB.out⟩
            · have he3 := he3 hcy
              subst he3
              rw [hw2]; rintro en wb ⟨vz, rfl, hoz, hb⟩
              have ho : OwnB wb _ vz [] := hoz
              obtain ⟨az, cz, rfl⟩ := ho.shape
              clear ho hoz
              replace HB := Lib.hid (bel_call HB.out hb)
              replace HX2 := Lib.hid (HX2.out.below (by simp) hb)
              replace HM2 := Lib.hid (HM2.out.later hb)
              clear hb
              obtain ⟨c0, c1, c2, c3, c4, c5⟩ := HX2.out.six
              go_wp2_with fail
              clear c0 c1 c2 c3 c4 c5
              refine (checkM_any HM2.out (Nat.le_refl _) (chkM_fine hcy)).mono ?_; rw [hcy]; rintro en wc ⟨rfl, hb⟩
              replace HB := Lib.hid (bel_call HB.out hb)
              clear hb
              go_wp2_with fail
              go_ret
              exact ⟨rfl, HB.out⟩
        · have t1 : decide ((z.length : Int) < 65535) = false := by simp; omega
          go_wp2_with fail
          rcases hrb : rdM b with y | ⟨c, a⟩
          rotate_left 1
          · obtain ⟨hc0, ha0, hab⟩ := rdM_bad (by omega) hrb
            refine (readM_any HS.out (Nat.le_trans HHI.out HB.out.size) (by omega)).mono ?_; rw [hrb]; rintro en wa ⟨rfl, hb⟩
            replace HB := Lib.hid (bel_call HB.out hb)
            clear hb
            unfold zeroM
            obtain ⟨ga, hga⟩ : ∃ g, wa.heap.size = g := ⟨_, rfl⟩
            obtain ⟨xm, xf, hb, _⟩ := two_new wa (.int .i64 0) (.int .i64 0) (.slice none 0 0) (.slice none 0 0) (.slice none 0 0) (.slice none 0 0) (.int .i64 c) (.int .i64 a)
            rw [hga] at xm xf
            have HX2 := Lib.hid xm
            have HF2 := Lib.hid xf
            clear xm xf
            replace HB := Lib.hid (bel_call HB.out hb)
            clear hb
            obtain ⟨c0, c1, c2, c3, c4, c5⟩ := HX2.out.six
            have k0 := HF2.out.c 0 (by simp)
            simp only [List.getElem_cons_zero, List.getElem_cons_succ] at k0
            have k1 := HF2.out.c 1 (by simp)
            simp only [List.getElem_cons_zero, List.getElem_cons_succ] at k1
            have tE : (c != 0) = true := by simpa using hc0
            have HZ0 := Lib.hid (fun wx => (⟨_, _, _, _, rfl, Lst.nil _ _, Lst.nil _ _, Lst.nil _ _, Lst.nil _ _⟩ : Mg wx 0 zeroM ms0))
            unfold zeroM at HZ0
            go_wp2_with fail
            clear c0 c1 c2 c3 c4 c5
            clear k0 k1
            refine (sameM_yes (HZ0.out _) (HZ0.out _) (Nat.zero_le _) (Nat.zero_le _)).mono ?_; rintro en wb ⟨rfl, hb⟩
            replace HB := Lib.hid (bel_call HB.out hb)
            replace HF2 := Lib.hid (HF2.out.below (by simp) hb)
            clear hb
            have k1 := HF2.out.c 1 (by simp)
            simp only [List.getElem_cons_zero, List.getElem_cons_succ] at k1
            have t1 : decide ((0 : Int) ≤ a) = true := by simpa using ha0
            have t2 : decide (a ≤ (b.length : Int)) = true := by simpa using hab
            have t3 : 0 ≤ a := ha0
            have t4 : a ≤ (b.length : Int) := hab
            go_wp2_with fail
            go_ret
            exact ⟨rfl, HB.out⟩
          · have hcy := rdM_may (by omega) hrb
            have hmany := rdM_many hrb
            refine (readM_any HS.out (Nat.le_trans HHI.out HB.out.size) (by omega)).mono ?_; rw [hrb]; rintro en wa ⟨vy, rfl, hmy, hb⟩
            replace HB := Lib.hid (bel_call HB.out hb)
            clear hb
            obtain ⟨q3, a3, n3, r3, rfl, hmm⟩ := hmy
            obtain ⟨xa, xn, xc, rfl⟩ : ∃ a n c, q3 = .slice a n c := by obtain ⟨a, c, h⟩ := Lst.shape hmm.1; exact ⟨a, _, c, h⟩
            obtain ⟨ya, yn, yc, rfl⟩ : ∃ a n c, a3 = .slice a n c := by obtain ⟨a, c, h⟩ := Lst.shape hmm.2.1; exact ⟨a, _, c, h⟩
            obtain ⟨za, zn, zc, rfl⟩ : ∃ a n c, n3 = .slice a n c := by obtain ⟨a, c, h⟩ := Lst.shape hmm.2.2.1; exact ⟨a, _, c, h⟩
            obtain ⟨ta, tn, tc, rfl⟩ : ∃ a n c, r3 = .slice a n c := by obtain ⟨a, c, h⟩ := Lst.shape hmm.2.2.2; exact ⟨a, _, c, h⟩
            obtain ⟨i1, hi1⟩ : ∃ x, y.id = x := ⟨_, rfl⟩
            obtain ⟨f1, hf1⟩ : ∃ x, y.fl = x := ⟨_, rfl⟩
            have HM2 := Lib.hid (show Mg wa wa.heap.size (.agg #[.int .i64 y.id, .int .i64 y.fl, .slice xa xn xc, .slice ya yn yc, .slice za zn zc, .slice ta tn tc]) y from ⟨_, _, _, _, rfl, hmm⟩)
            rw [hi1, hf1] at HM2
            rw [hi1, hf1]
            clear hmm
            obtain ⟨ga, hga⟩ : ∃ g, wa.heap.size = g := ⟨_, rfl⟩
            obtain ⟨xm, xf, hb, _⟩ := two_new wa (.int .i64 i1) (.int .i64 f1) (.slice xa xn xc) (.slice ya yn yc) (.slice za zn zc) (.slice ta tn tc) (.int .i64 0) (.int .i64 0)
            rw [hga] at xm xf
            have HX2 := Lib.hid xm
            have HF2 := Lib.hid xf
            clear xm xf
            replace HB := Lib.hid (bel_call HB.out hb)
            replace HM2 := Lib.hid (HM2.out.later hb)
            clear hb
            obtain ⟨c0, c1, c2, c3, c4, c5⟩ := HX2.out.six
            have k0 := HF2.out.c 0 (by simp)
            simp only [List.getElem_cons_zero, List.getElem_cons_succ] at k0
            go_wp2_with fail
            clear c0 c1 c2 c3 c4 c5
            clear k0 hga
            refine (writeM_any HM2.out (Nat.le_refl _) (chkM_fine hcy) (by omega)).mono ?_
            rcases wrM_ends y with ⟨z2, hw2, _, hz12b, hz65b, hrd2⟩ | ⟨e2, hw2, he2, he3⟩
            · rw [hw2]; rintro en wb ⟨vz, rfl, hoz, hb⟩
              have ho : OwnB wb _ vz z2 := hoz
              replace HB := Lib.hid (bel_call HB.out hb)
              replace HX2 := Lib.hid (HX2.out.below (by simp) hb)
              replace HM2 := Lib.hid (HM2.out.later hb)
              clear hb
              obtain ⟨az, cz, rfl⟩ := ho.shape
              have HO2 := Lib.hid ho
              clear ho hoz
              go_wp2_with fail
              refine (readM_any HO2.out.sl (Nat.le_refl _) (by omega)).mono ?_; rw [hrd2]; rintro en wc ⟨vw, rfl, hmw, hb⟩
              replace HB := Lib.hid (bel_call HB.out hb)
              replace HX2 := Lib.hid (HX2.out.below (by simp) hb)
              replace HM2 := Lib.hid (HM2.out.later hb)
              replace HO2 := Lib.hid (HO2.out.below hb)
              clear hb
              obtain ⟨q3, a3, n3, r3, rfl, hmm⟩ := hmw
              obtain ⟨xa2, xn2, xc2, rfl⟩ : ∃ a n c, q3 = .slice a n c := by obtain ⟨a, c, h⟩ := Lst.shape hmm.1; exact ⟨a, _, c, h⟩
              obtain ⟨ya2, yn2, yc2, rfl⟩ : ∃ a n c, a3 = .slice a n c := by obtain ⟨a, c, h⟩ := Lst.shape hmm.2.1; exact ⟨a, _, c, h⟩
              obtain ⟨za2, zn2, zc2, rfl⟩ : ∃ a n c, n3 = .slice a n c := by obtain ⟨a, c, h⟩ := Lst.shape hmm.2.2.1; exact ⟨a, _, c, h⟩
              obtain ⟨ta2, tn2, tc2, rfl⟩ : ∃ a n c, r3 = .slice a n c := by obtain ⟨a, c, h⟩ := Lst.shape hmm.2.2.2; exact ⟨a, _, c, h⟩
              have HM3 := Lib.hid (show Mg wc wc.heap.size (.agg #[.int .i64 y.id, .int .i64 y.fl, .slice xa2 xn2 xc2, .slice ya2 yn2 yc2, .slice za2 zn2 zc2, .slice ta2 tn2 tc2]) y from ⟨_, _, _, _, rfl, hmm⟩)
              rw [hi1, hf1] at HM3
              rw [hi1, hf1]
              clear hmm
              obtain ⟨gc, hgc⟩ : ∃ g, wc.heap.size = g := ⟨_, rfl⟩
              obtain ⟨xm, xf, hb, _⟩ := two_new wc (.int .i64 i1) (.int .i64 f1) (.slice xa2 xn2 xc2) (.slice ya2 yn2 yc2) (.slice za2 zn2 zc2) (.slice ta2 tn2 tc2) (.int .i64 0) (.int .i64 0)
              rw [hgc] at xm xf
              have HX3 := Lib.hid xm
              have HF3 := Lib.hid xf
              clear xm xf
              replace HB := Lib.hid (bel_call HB.out hb)
              replace HX2 := Lib.hid (HX2.out.below (by simp) hb)
              replace HM2 := Lib.hid (HM2.out.later hb)
              replace HO2 := Lib.hid (HO2.out.below hb)
              replace HM3 := Lib.hid (HM3.out.later hb)
              clear hb
              go_wp2_with fail
              clear hgc
              refine (head_any HO2.out.sl (Nat.le_refl _) (by omega)).mono ?_; rw [(rdM_head hrd2).1, hi1, hf1]; rintro en wd ⟨rfl, hb⟩
              replace HB := Lib.hid (bel_call HB.out hb)
              replace HX2 := Lib.hid (HX2.out.below (by simp) hb)
              replace HM2 := Lib.hid (HM2.out.later hb)
              replace HX3 := Lib.hid (HX3.out.below (by simp) hb)
              replace HF3 := Lib.hid (HF3.out.below (by simp) hb)
              replace HM3 := Lib.hid (HM3.out.later hb)
              clear hb
              obtain ⟨c0, c1, c2, c3, c4, c5⟩ := HX3.out.six
              obtain ⟨d0, d1, d2, d3, d4, d5⟩ := HX2.out.six
              have k0 := HF3.out.c 0 (by simp)
              simp only [List.getElem_cons_zero, List.getElem_cons_succ] at k0
              go_wp2_with fail
              clear c0 c1 c2 c3 c4 c5 d0 d1 d2 d3 d4 d5
              clear k0
              refine (sameM_yes HM3.out HM2.out (Nat.le_refl _) (Nat.le_refl _)).mono ?_; rintro en we ⟨rfl, hb⟩
              replace HB := Lib.hid (bel_call HB.out hb)
              replace HX2 := Lib.hid (HX2.out.below (by simp) hb)
              clear hb
              obtain ⟨d0, d1, d2, d3, d4, d5⟩ := HX2.out.six
              go_wp2_with fail
              go_ret
              exact ⟨rfl, HB.out⟩
            · have he3 := he3 hcy
              subst he3
              rw [hw2]; rintro en wb ⟨vz, rfl, hoz, hb⟩
              have ho : OwnB wb _ vz [] := hoz
              obtain ⟨az, cz, rfl⟩ := ho.shape
              clear ho hoz
              replace HB := Lib.hid (bel_call HB.out hb)
              replace HX2 := Lib.hid (HX2.out.below (by simp) hb)
              replace HM2 := Lib.hid (HM2.out.later hb)
              clear hb
              obtain ⟨c0, c1, c2, c3, c4, c5⟩ := HX2.out.six
              go_wp2_with fail
              clear c0 c1 c2 c3 c4 c5
              refine (checkM_any HM2.out (Nat.le_refl _) (chkM_fine hcy)).mono ?_; rw [hcy]; rintro en wc ⟨rfl, hb⟩
              replace HB := Lib.hid (bel_call HB.out hb)
              clear hb
              go_wp2_with fail
              go_ret
              exact ⟨rfl, HB.out⟩
      · rw [hwr]; rintro en w3 ⟨vx, rfl, hox, hb⟩
        have ho : OwnB w3 _ vx [] := hox
        obtain ⟨ax, cx, rfl⟩ := ho.shape
        clear ho hox
        replace HB := Lib.hid (bel_call HB.out hb)
        replace HX := Lib.hid (HX.out.below (by simp) hb)
        replace HM := Lib.hid (HM.out.later hb)
        replace HS := Lib.hid (HS.out.later hb)
        clear hb
        have tc : (e0 == 0) = false := by simpa using he0
        have tc2 : (e0 != 0) = true := by simpa using he0
        go_wp2_with fail
        rcases hrb : rdM b with y | ⟨c, a⟩
        rotate_left 1
        · obtain ⟨hc0, ha0, hab⟩ := rdM_bad (by omega) hrb
          refine (readM_any HS.out (Nat.le_trans HHI.out HB.out.size) (by omega)).mono ?_; rw [hrb]; rintro en wa ⟨rfl, hb⟩
          replace HB := Lib.hid (bel_call HB.out hb)
          clear hb
          unfold zeroM
          obtain ⟨ga, hga⟩ : ∃ g, wa.heap.size = g := ⟨_, rfl⟩
          obtain ⟨xm, xf, hb, _⟩ := two_new wa (.int .i64 0) (.int .i64 0) (.slice none 0 0) (.slice none 0 0) (.slice none 0 0) (.slice none 0 0) (.int .i64 c) (.int .i64 a)
          rw [hga] at xm xf
          have HX2 := Lib.hid xm
          have HF2 := Lib.hid xf
          clear xm xf
          replace HB := Lib.hid (bel_call HB.out hb)
          clear hb
          obtain ⟨c0, c1, c2, c3, c4, c5⟩ := HX2.out.six
          have k0 := HF2.out.c 0 (by simp)
          simp only [List.getElem_cons_zero, List.getElem_cons_succ] at k0
          have k1 := HF2.out.c 1 (by simp)
          simp only [List.getElem_cons_zero, List.getElem_cons_succ] at k1
          have tE : (c != 0) = true := by simpa using hc0
          have HZ0 := Lib.hid (fun wx => (⟨_, _, _, _, rfl, Lst.nil _ _, Lst.nil _ _, Lst.nil _ _, Lst.nil _ _⟩ : Mg wx 0 zeroM ms0))
          unfold zeroM at HZ0
          go_wp2_with fail
          clear c0 c1 c2 c3 c4 c5
          clear k0 k1
          refine (sameM_yes (HZ0.out _) (HZ0.out _) (Nat.zero_le _) (Nat.zero_le _)).mono ?_; rintro en wb ⟨rfl, hb⟩
          replace HB := Lib.hid (bel_call HB.out hb)
          replace HF2 := Lib.hid (HF2.out.below (by simp) hb)
          clear hb
          have k1 := HF2.out.c 1 (by simp)
          simp only [List.getElem_cons_zero, List.getElem_cons_succ] at k1
          have t1 : decide ((0 : Int) ≤ a) = true := by simpa using ha0
          have t2 : decide (a ≤ (b.length : Int)) = true := by simpa using hab
          have t3 : 0 ≤ a := ha0
          have t4 : a ≤ (b.length : Int) := hab
          go_wp2_with fail
          go_ret
          exact ⟨rfl, HB.out⟩
        · have hcy := rdM_may (by omega) hrb
          have hmany := rdM_many hrb
          refine (readM_any HS.out (Nat.le_trans HHI.out HB.out.size) (by omega)).mono ?_; rw [hrb]; rintro en wa ⟨vy, rfl, hmy, hb⟩
          replace HB := Lib.hid (bel_call HB.out hb)
          clear hb
          obtain ⟨q3, a3, n3, r3, rfl, hmm⟩ := hmy
          obtain ⟨xa, xn, xc, rfl⟩ : ∃ a n c, q3 = .slice a n c := by obtain ⟨a, c, h⟩ := Lst.shape hmm.1; exact ⟨a, _, c, h⟩
          obtain ⟨ya, yn, yc, rfl⟩ : ∃ a n c, a3 = .slice a n c := by obtain ⟨a, c, h⟩ := Lst.shape hmm.2.1; exact ⟨a, _, c, h⟩
          obtain ⟨za, zn, zc, rfl⟩ : ∃ a n c, n3 = .slice a n c := by obtain ⟨a, c, h⟩ := Lst.shape hmm.2.2.1; exact ⟨a, _, c, h⟩
          obtain ⟨ta, tn, tc, rfl⟩ : ∃ a n c, r3 = .slice a n c := by obtain ⟨a, c, h⟩ := Lst.shape hmm.2.2.2; exact ⟨a, _, c, h⟩
          obtain ⟨i1, hi1⟩ : ∃ x, y.id = x := ⟨_, rfl⟩
          obtain ⟨f1, hf1⟩ : ∃ x, y.fl = x := ⟨_, rfl⟩
          have HM2 := Lib.hid (show Mg wa wa.heap.size (.agg #[.int .i64 y.id, .int .i64 y.fl, .slice xa xn xc, .slice ya yn yc, .slice za zn zc, .slice ta tn tc]) y from ⟨_, _, _, _, rfl, hmm⟩)
          rw [hi1, hf1] at HM2
          rw [hi1, hf1]
          clear hmm
          obtain ⟨ga, hga⟩ : ∃ g, wa.heap.size = g := ⟨_, rfl⟩
          obtain ⟨xm, xf, hb, _⟩ := two_new wa (.int .i64 i1) (.int .i64 f1) (.slice xa xn xc) (.slice ya yn yc) (.slice za zn zc) (.slice ta tn tc) (.int .i64 0) (.int .i64 0)
          rw [hga] at xm xf
          have HX2 := Lib.hid xm
          have HF2 := Lib.hid xf
          clear xm xf
          replace HB := Lib.hid (bel_call HB.out hb)
          replace HM2 := Lib.hid (HM2.out.later hb)
          clear hb
          obtain ⟨c0, c1, c2, c3, c4, c5⟩ := HX2.out.six
          have k0 := HF2.out.c 0 (by simp)
          simp only [List.getElem_cons_zero, List.getElem_cons_succ] at k0
          go_wp2_with fail
          clear c0 c1 c2 c3 c4 c5
          clear k0 hga
          refine (writeM_any HM2.out (Nat.le_refl _) (chkM_fine hcy) (by omega)).mono ?_
          rcases wrM_ends y with ⟨z2, hw2, _, hz12b, hz65b, hrd2⟩ | ⟨e2, hw2, he2, he3⟩
          · rw [hw2]; rintro en wb ⟨vz, rfl, hoz, hb⟩
            have ho : OwnB wb _ vz z2 := hoz
            replace HB := Lib.hid (bel_call HB.out hb)
            replace HX2 := Lib.hid (HX2.out.below (by simp) hb)
            replace HM2 := Lib.hid (HM2.out.later hb)
            clear hb
            obtain ⟨az, cz, rfl⟩ := ho.shape
            have HO2 := Lib.hid ho
            clear ho hoz
            go_wp2_with fail
            refine (readM_any HO2.out.sl (Nat.le_refl _) (by omega)).mono ?_; rw [hrd2]; rintro en wc ⟨vw, rfl, hmw, hb⟩
            replace HB := Lib.hid (bel_call HB.out hb)
            replace HX2 := Lib.hid (HX2.out.below (by simp) hb)
            replace HM2 := Lib.hid (HM2.out.later hb)
            replace HO2 := Lib.hid (HO2.out.below hb)
            clear hb
            obtain ⟨q3, a3, n3, r3, rfl, hmm⟩ := hmw
            obtain ⟨xa2, xn2, xc2, rfl⟩ : ∃ a n c, q3 = .slice a n c := by obtain ⟨a, c, h⟩ := Lst.shape hmm.1; exact ⟨a, _, c, h⟩
            obtain ⟨ya2, yn2, yc2, rfl⟩ : ∃ a n c, a3 = .slice a n c := by obtain ⟨a, c, h⟩ := Lst.shape hmm.2.1; exact ⟨a, _, c, h⟩
            obtain ⟨za2, zn2, zc2, rfl⟩ : ∃ a n c, n3 = .slice a n c := by obtain ⟨a, c, h⟩ := Lst.shape hmm.2.2.1; exact ⟨a, _, c, h⟩
            obtain ⟨ta2, tn2, tc2, rfl⟩ : ∃ a n c, r3 = .slice a n c := by obtain ⟨a, c, h⟩ := Lst.shape hmm.2.2.2; exact ⟨a, _, c, h⟩
            have HM3 := Lib.hid (show Mg wc wc.heap.size (.agg #[.int .i64 y.id, .int .i64 y.fl, .slice xa2 xn2 xc2, .slice ya2 yn2 yc2, .slice za2 zn2 zc2, .slice ta2 tn2 tc2]) y from ⟨_, _, _, _, rfl, hmm⟩)
            rw [hi1, hf1] at HM3
            rw [hi1, hf1]
            clear hmm
            obtain ⟨gc, hgc⟩ : ∃ g, wc.heap.size = g := ⟨_, rfl⟩
            obtain ⟨xm, xf, hb, _⟩ := two_new wc (.int .i64 i1) (.int .i64 f1) (.slice xa2 xn2 xc2) (.slice ya2 yn2 yc2) (.slice za2 zn2 zc2) (.slice ta2 tn2 tc2) (.int .i64 0) (.int .i64 0)
            rw [hgc] at xm xf
            have HX3 := Lib.hid xm
            have HF3 := Lib.hid xf
            clear xm xf
            replace HB := Lib.hid (bel_call HB.out hb)
            replace HX2 := Lib.hid (HX2.out.below (by simp) hb)
            replace HM2 := Lib.hid (HM2.out.later hb)
            replace HO2 := Lib.hid (HO2.out.below hb)
            replace HM3 := Lib.hid (HM3.out.later hb)
            clear hb
            go_wp2_with fail
            clear hgc
            refine (head_any HO2.out.sl (Nat.le_refl _) (by omega)).mono ?_; rw [(rdM_head hrd2).1, hi1, hf1]; rintro en wd ⟨rfl, hb⟩
            replace HB := Lib.hid (bel_call HB.out hb)
            replace HX2 := Lib.hid (HX2.out.below (by simp) hb)
            replace HM2 := Lib.hid (HM2.out.later hb)
            replace HX3 := Lib.hid (HX3.out.below (by simp) hb)
            replace HF3 := Lib.hid (HF3.out.below (by simp) hb)
            replace HM3 := Lib.hid (HM3.out.later hb)
            clear hb
            obtain ⟨c0, c1, c2, c3, c4, c5⟩ := HX3.out.six
            obtain ⟨d0, d1, d2, d3, d4, d5⟩ := HX2.out.six
            have k0 := HF3.out.c 0 (by simp)
            simp only [List.getElem_cons_zero, List.getElem_cons_succ] at k0
            go_wp2_with fail
            clear c0 c1 c2 c3 c4 c5 d0 d1 d2 d3 d4 d5
            clear k0
            refine (sameM_yes HM3.out HM2.out (Nat.le_refl _) (Nat.le_refl _)).mono ?_; rintro en we ⟨rfl, hb⟩
            replace HB := Lib.hid (bel_call HB.out hb)
            replace HX2 := Lib.hid (HX2.out.below (by simp) hb)
            clear hb
            obtain ⟨d0, d1, d2, d3, d4, d5⟩ := HX2.out.six
            go_wp2_with fail
            go_ret
            exact ⟨rfl, HB.out⟩
          · have he3 := he3 hcy
            subst he3
            rw [hw2]; rintro en wb ⟨vz, rfl, hoz, hb⟩
            have ho : OwnB wb _ vz [] := hoz
            obtain ⟨az, cz, rfl⟩ := ho.shape
            clear ho hoz
            replace HB := Lib.hid (bel_call HB.out hb)
            replace HX2 := Lib.hid (HX2.out.below (by simp) hb)
            replace HM2 := Lib.hid (HM2.out.later hb)
            clear hb
            obtain ⟨c0, c1, c2, c3, c4, c5⟩ := HX2.out.six
            go_wp2_with fail
            clear c0 c1 c2 c3 c4 c5
            refine (checkM_any HM2.out (Nat.le_refl _) (chkM_fine hcy)).mono ?_; rw [hcy]; rintro en wc ⟨rfl, hb⟩
            replace HB := Lib.hid (bel_call HB.out hb)
            clear hb
            go_wp2_with fail
            go_ret
            exact ⟨rfl, HB.out⟩
end Go.Proofs.YtdikgjbpjdnodaaGreat

/-
  Messages that came in.
-/
namespace Go.Proofs.YtdikgjbpjdnodaaGreat
open Go.RowKit Go.Shelf
set_option linter.unusedVariables false
set_option linter.unusedSimpArgs false
set_option maxRecDepth 100000

theorem flat_of {α : Type} {f : α → List Value} {k : Nat} (hf : ∀ x, (f x).length = k) : ∀ (l : List α) (i : Nat) (u : Value), (l.flatMap f)[i]? = some u → ∃ j r, ∃ h : j < l.length, i = j * k + r ∧ (f l[j])[r]? = some u
  | [], i, u, h => by simp at h
  | x :: l, i, u, h => by
    rw [List.flatMap_cons] at h
    by_cases hi : i < k
    · rw [List.getElem?_append_left (by rw [hf]; exact hi)] at h
      exact ⟨0, i, by simp, by omega, h⟩
    · rw [List.getElem?_append_right (by rw [hf]; omega), hf] at h
      obtain ⟨j, r, h1, h2, h3⟩ := flat_of hf l _ u h
      exact ⟨j + 1, r, by simpa using h1, by rw [Nat.add_mul]; omega, h3⟩

/-- What is known of a slice of questions, of records that came in. -/
def IsQs (w : World) (a : Option Addr) (len cap : Nat) : Prop :=
  (a = none ∧ len = 0 ∧ cap = 0) ∨ ∃ x, a = some x ∧ ∀ i, i < len → ∃ (s : ByteArray) (t c : Int), w.cell? (x.add (i * 3)) = some (.string s) ∧ w.cell? (x.add (i * 3 + 1)) = some (.int .i64 t) ∧ w.cell? (x.add (i * 3 + 2)) = some (.int .i64 c)
def IsRs (w : World) (a : Option Addr) (len cap : Nat) : Prop :=
  (a = none ∧ len = 0 ∧ cap = 0) ∨ ∃ x, a = some x ∧ ∀ i, i < len → ∃ (s : ByteArray) (t c l : Int) (d : ByteArray), w.cell? (x.add (i * 5)) = some (.string s) ∧ w.cell? (x.add (i * 5 + 1)) = some (.int .i64 t) ∧ w.cell? (x.add (i * 5 + 2)) = some (.int .i64 c) ∧ w.cell? (x.add (i * 5 + 3)) = some (.int .i64 l) ∧ w.cell? (x.add (i * 5 + 4)) = some (.string d)

theorem cells_qn : Tryz.prog.cellsOf 56 = 3 := by kernel_rfl
theorem cells_msg : Tryz.prog.cellsOf 25 = 6 := by kernel_rfl
theorem cells_sqn : Tryz.prog.cellsOf 22 = 1 := by kernel_rfl
theorem cells_src : Tryz.prog.cellsOf 23 = 1 := by kernel_rfl
theorem bytes_qn : Tryz.prog.bytesOf 56 = 32 := by kernel_rfl
theorem bytes_rc : Tryz.prog.bytesOf 78 = 56 := by kernel_rfl

theorem open_qn {H : Type} {enc : TypeId × Value → H} {w : World} {base fuel : Nat} {spare : Nat → Bool} {held : Bool} {cs : List Value} {x : DataW H × List MemPlace}
    (h : DataW.trod enc Tryz.prog w base spare held fuel 56 cs = some x) (hl : cs.length = 3) : ∃ (s : ByteArray) (t c : Int), cs = [.string s, .int .i64 t, .int .i64 c] := by
  cases fuel with
  | zero => simp [DataW.trod] at h
  | succ fuel =>
    obtain ⟨xs, k, _, _, _, h9, h10⟩ := DataW.trod_struct Tryz.underlying56 h
    match cs, hl with
    | [v0, v1, v2], _ =>
      have g0 := h10 0 _ rfl
      have g1 := h10 1 _ rfl
      have g2 := h10 2 _ rfl
      match xs, h9 with
      | [y0, y1, y2], _ =>
        simp [cellsC_str, cellsC_int] at g0 g1 g2
        obtain ⟨s, k0, _, _⟩ := DataW.trod_string Tryz.underlying9 g0
        obtain ⟨t, k1, _, _⟩ := DataW.trod_int Tryz.underlying3 g1
        obtain ⟨c, k2, _, _⟩ := DataW.trod_int Tryz.underlying3 g2
        injection k0 with k0 _
        injection k1 with k1 _
        injection k2 with k2 _
        subst k0; subst k1; subst k2
        exact ⟨s, t, c, rfl⟩

theorem open_qs {H : Type} {enc : TypeId × Value → H} {w : World} {base fuel : Nat} {spare : Nat → Bool} {held : Bool} {cs : List Value} {x : DataW H × List MemPlace}
    (h : DataW.trod enc Tryz.prog w base spare held fuel 22 cs = some x) (hw : ∀ n ∈ x.1.weights Tryz.prog 22, n ≤ reachBytes) :
    ∃ a len cap, cs = [.slice a len cap] ∧ IsQs w a len cap ∧ len ≤ 140737488351232 := by
  rcases Deep.open_slice Tryz.underlying22 h with ⟨h1, _⟩ | ⟨b, l, c, m, n, D, Pl, h1, _, h2, _, h3, h5, h4⟩
  · exact ⟨none, 0, 0, h1, .inl ⟨rfl, rfl, rfl⟩, by omega⟩
  · have hm : l ≤ m := by rw [h3]; split <;> omega
    refine ⟨some b, l, c, h1, .inr ⟨b, rfl, fun i hi => ?_⟩, ?_⟩
    · obtain ⟨cs', h6, h7⟩ := h4 i (by omega)
      rw [cells_qn] at h6
      obtain ⟨_, h8, h9⟩ := World.cells?_some h6
      obtain ⟨s, t, c, rfl⟩ := open_qn h7 h8
      have c0 := h9 0 (by omega)
      have c1 := h9 1 (by omega)
      have c2 := h9 2 (by omega)
      rw [Deep.add_add] at c0 c1 c2
      exact ⟨s, t, c, by simpa using c0, by simpa using c1, by simpa using c2⟩
    · have := hw ((l + (m - l)) * 32) (by rw [h5]; simp [DataW.weights, Tryz.underlying22, bytes_qn])
      unfold reachBytes at this
      omega
theorem open_rs {H : Type} {enc : TypeId × Value → H} {w : World} {base fuel : Nat} {spare : Nat → Bool} {held : Bool} {cs : List Value} {x : DataW H × List MemPlace}
    (h : DataW.trod enc Tryz.prog w base spare held fuel 23 cs = some x) (hw : ∀ n ∈ x.1.weights Tryz.prog 23, n ≤ reachBytes) :
    ∃ a len cap, cs = [.slice a len cap] ∧ IsRs w a len cap ∧ len ≤ 140737488351232 := by
  rcases Deep.open_slice Tryz.underlying23 h with ⟨h1, _⟩ | ⟨b, l, c, m, n, D, Pl, h1, _, h2, _, h3, h5, h4⟩
  · exact ⟨none, 0, 0, h1, .inl ⟨rfl, rfl, rfl⟩, by omega⟩
  · have hm : l ≤ m := by rw [h3]; split <;> omega
    refine ⟨some b, l, c, h1, .inr ⟨b, rfl, fun i hi => ?_⟩, ?_⟩
    · obtain ⟨cs', h6, h7⟩ := h4 i (by omega)
      rw [cells_rec] at h6
      obtain ⟨_, h8, h9⟩ := World.cells?_some h6
      obtain ⟨s, t, c, tl, d, rfl⟩ := open_rec h7 h8
      have c0 := h9 0 (by omega)
      have c1 := h9 1 (by omega)
      have c2 := h9 2 (by omega)
      have c3 := h9 3 (by omega)
      have c4 := h9 4 (by omega)
      rw [Deep.add_add] at c0 c1 c2 c3 c4
      exact ⟨s, t, c, tl, d, by simpa using c0, by simpa using c1, by simpa using c2, by simpa using c3, by simpa using c4⟩
    · have := hw ((l + (m - l)) * 56) (by rw [h5]; simp [DataW.weights, Tryz.underlying23, bytes_rc])
      unfold reachBytes at this
      omega

/-- Such slices as questions, as records. -/
theorem qs_of {w : World} {a : Option Addr} {len cap : Nat} (h : IsQs w a len cap) (hl : len ≤ 140737488351232) : ∃ l : List Qn, SQ w w.heap.size (.slice a len cap) l := by
  rcases h with ⟨rfl, rfl, rfl⟩ | ⟨x, rfl, hx⟩
  · exact ⟨[], Lst.nil _ _⟩
  · have hch : ∀ n, n ≤ len → ∃ l : List Qn, l.length = n ∧ ∀ i (h : i < l.length), w.cell? (x.add (i * 3)) = some (.string (bs l[i].n)) ∧ w.cell? (x.add (i * 3 + 1)) = some (.int .i64 l[i].t) ∧ w.cell? (x.add (i * 3 + 2)) = some (.int .i64 l[i].c) := by
      intro n
      induction n with
      | zero => intro _; exact ⟨[], rfl, fun i h => by simp at h⟩
      | succ n ih =>
        intro hn
        obtain ⟨l, h1, h2⟩ := ih (by omega)
        obtain ⟨s, t, c, c0, c1, c2⟩ := hx n (by omega)
        refine ⟨l ++ [⟨s.data.toList, t, c⟩], by simp [h1], fun i hi => ?_⟩
        rw [List.length_append, List.length_singleton] at hi
        by_cases e : i < l.length
        · rw [List.getElem_append_left e]; exact h2 i e
        · have : i = l.length := by omega
          subst this
          rw [List.getElem_append_right (Nat.le_refl _)]
          simp only [Nat.sub_self, List.getElem_cons_zero]
          rw [h1, ← bs_eta]
          exact ⟨c0, c1, c2⟩
    obtain ⟨l, h1, h2⟩ := hch len (Nat.le_refl _)
    refine ⟨l, some x, cap, by rw [h1], by omega, fun h => by simp at h, fun h0 => ?_⟩
    obtain ⟨b, off, spot⟩ := x
    have c0 := (h2 0 h0).1
    have hspot : spot = none := by simpa [Addr.add] using World.cell?_spot c0
    subst hspot
    have hlt : b < w.heap.size := by
      rw [WideShapes.add_plain] at c0
      exact World.block_lt_of_cell? w _ c0
    refine ⟨b, off, rfl, hlt, fun i u hu => ?_⟩
    obtain ⟨j, r, hj, rfl, hr⟩ := flat_of (f := cq) (k := 3) (fun _ => rfl) l i u hu
    obtain ⟨c0, c1, c2⟩ := h2 j hj
    rw [WideShapes.add_plain] at c0 c1 c2
    match r, hr with
    | 0, hr => simp [cq] at hr; subst hr; exact c0
    | 1, hr => simp [cq] at hr; subst hr; exact c1
    | 2, hr => simp [cq] at hr; subst hr; exact c2
    | r + 3, hr => simp [cq] at hr
theorem rs_of {w : World} {a : Option Addr} {len cap : Nat} (h : IsRs w a len cap) (hl : len ≤ 140737488351232) : ∃ l : List Rc, SR w w.heap.size (.slice a len cap) l := by
  rcases h with ⟨rfl, rfl, rfl⟩ | ⟨x, rfl, hx⟩
  · exact ⟨[], Lst.nil _ _⟩
  · have hch : ∀ n, n ≤ len → ∃ l : List Rc, l.length = n ∧ ∀ i (h : i < l.length), w.cell? (x.add (i * 5)) = some (.string (bs l[i].n)) ∧ w.cell? (x.add (i * 5 + 1)) = some (.int .i64 l[i].t) ∧ w.cell? (x.add (i * 5 + 2)) = some (.int .i64 l[i].c) ∧ w.cell? (x.add (i * 5 + 3)) = some (.int .i64 l[i].l) ∧ w.cell? (x.add (i * 5 + 4)) = some (.string (bs l[i].d)) := by
      intro n
      induction n with
      | zero => intro _; exact ⟨[], rfl, fun i h => by simp at h⟩
      | succ n ih =>
        intro hn
        obtain ⟨l, h1, h2⟩ := ih (by omega)
        obtain ⟨s, t, c, tl, d, c0, c1, c2, c3, c4⟩ := hx n (by omega)
        refine ⟨l ++ [⟨s.data.toList, t, c, tl, d.data.toList⟩], by simp [h1], fun i hi => ?_⟩
        rw [List.length_append, List.length_singleton] at hi
        by_cases e : i < l.length
        · rw [List.getElem_append_left e]; exact h2 i e
        · have : i = l.length := by omega
          subst this
          rw [List.getElem_append_right (Nat.le_refl _)]
          simp only [Nat.sub_self, List.getElem_cons_zero]
          rw [h1, ← bs_eta, ← bs_eta]
          exact ⟨c0, c1, c2, c3, c4⟩
    obtain ⟨l, h1, h2⟩ := hch len (Nat.le_refl _)
    refine ⟨l, some x, cap, by rw [h1], by omega, fun h => by simp at h, fun h0 => ?_⟩
    obtain ⟨b, off, spot⟩ := x
    have c0 := (h2 0 h0).1
    have hspot : spot = none := by simpa [Addr.add] using World.cell?_spot c0
    subst hspot
    have hlt : b < w.heap.size := by
      rw [WideShapes.add_plain] at c0
      exact World.block_lt_of_cell? w _ c0
    refine ⟨b, off, rfl, hlt, fun i u hu => ?_⟩
    obtain ⟨j, r, hj, rfl, hr⟩ := flat_of (f := cr) (k := 5) (fun _ => rfl) l i u hu
    obtain ⟨c0, c1, c2, c3, c4⟩ := h2 j hj
    rw [WideShapes.add_plain] at c0 c1 c2 c3 c4
    match r, hr with
    | 0, hr => simp [cr] at hr; subst hr; exact c0
    | 1, hr => simp [cr] at hr; subst hr; exact c1
    | 2, hr => simp [cr] at hr; subst hr; exact c2
    | 3, hr => simp [cr] at hr; subst hr; exact c3
    | 4, hr => simp [cr] at hr; subst hr; exact c4
    | r + 5, hr => simp [cr] at hr

/-- A message that came in reads as one. -/
theorem open_msg {H : Type} {enc : TypeId × Value → H} {w : World} {base fuel : Nat} {spare : Nat → Bool} {held : Bool} {cs : Array Value} {x : DataW H × List MemPlace}
    (h : DataW.trod enc Tryz.prog w base spare held fuel 25 cs.toList = some x) (hl : cs.size = 6) (hw : ∀ n ∈ x.1.weights Tryz.prog 25, n ≤ reachBytes) : ∃ m : Ms, Mg w w.heap.size (.agg cs) m := by
  obtain ⟨cs⟩ := cs
  simp only [List.size_toArray] at hl
  cases fuel with
  | zero => simp [DataW.trod] at h
  | succ fuel =>
    obtain ⟨xs, k, _, h8, _, h9, h10⟩ := DataW.trod_struct Tryz.underlying25 h
    match cs, hl with
    | [v0, v1, v2, v3, v4, v5], _ =>
      have g0 := h10 0 _ rfl
      have g1 := h10 1 _ rfl
      have g2 := h10 2 _ rfl
      have g3 := h10 3 _ rfl
      have g4 := h10 4 _ rfl
      have g5 := h10 5 _ rfl
      match xs, h9 with
      | [y0, y1, y2, y3, y4, y5], _ =>
        simp [cellsC_int, cells_sqn, cells_src] at g0 g1 g2 g3 g4 g5
        have hw2 : ∀ n, (n ∈ y2.1.weights Tryz.prog 22 ∨ n ∈ y3.1.weights Tryz.prog 23 ∨ n ∈ y4.1.weights Tryz.prog 23 ∨ n ∈ y5.1.weights Tryz.prog 23) → n ≤ reachBytes := fun n hn => hw n (by
          rw [h8]
          simp only [List.map_cons, List.map_nil, DataW.weights, Tryz.underlying25, List.toList_toArray, DataW.weightsEach, List.mem_append, List.not_mem_nil, or_false]
          rcases hn with h | h | h | h <;> simp [h])
        obtain ⟨i, k0, _, _⟩ := DataW.trod_int Tryz.underlying3 g0
        obtain ⟨f, k1, _, _⟩ := DataW.trod_int Tryz.underlying3 g1
        obtain ⟨qa, ql, qc, k2, q1, q2⟩ := open_qs g2 (fun n hn => hw2 n (.inl hn))
        obtain ⟨aa, al, ac, k3, a1, a2⟩ := open_rs g3 (fun n hn => hw2 n (.inr (.inl hn)))
        obtain ⟨na, nl, nc, k4, n1, n2⟩ := open_rs g4 (fun n hn => hw2 n (.inr (.inr (.inl hn))))
        obtain ⟨ra, rl, rc, k5, r1, r2⟩ := open_rs g5 (fun n hn => hw2 n (.inr (.inr (.inr hn))))
        injection k0 with k0 _
        injection k1 with k1 _
        injection k2 with k2 _
        injection k3 with k3 _
        injection k4 with k4 _
        injection k5 with k5 _
        subst k0; subst k1; subst k2; subst k3; subst k4; subst k5
        obtain ⟨lq, h1⟩ := qs_of q1 q2
        obtain ⟨la, h2⟩ := rs_of a1 a2
        obtain ⟨ln, h3⟩ := rs_of n1 n2
        obtain ⟨lr, h4⟩ := rs_of r1 r2
        exact ⟨⟨i, f, lq, la, ln, lr⟩, _, _, _, _, rfl, h1, h2, h3, h4⟩
end Go.Proofs.YtdikgjbpjdnodaaGreat

/-
  Bytes that came in.
-/
namespace Go.Proofs.YtdikgjbpjdnodaaGreat
open Go.RowKit Go.Shelf
set_option linter.unusedVariables false
set_option linter.unusedSimpArgs false
set_option maxRecDepth 100000

theorem u8_in {n : Int} (h : (Lit.int .u8 n).wf = true) : 0 ≤ n ∧ n ≤ 255 := by
  simp [Lit.wf, IntKind.min, IntKind.max, IntKind.signed, IntKind.bits] at h
  omega

/-- A slice of bytes that came in. -/
theorem row_in {w : World} {a : Option Addr} {len cap : Nat} {zs : List Int}
    (h : (a = none ∧ len = 0 ∧ cap = 0 ∧ zs = []) ∨ ∃ x, a = some x ∧ len ≤ cap ∧ cap ≤ maxLen ∧ zs.length = cap ∧ (∀ i, i < zs.length → w.cell? (x.add i) = some (.int .u8 (zs.getD i 0))) ∧ ∀ n ∈ zs, (Lit.int .u8 n).wf = true) :
    ∃ l, len = l.length ∧ ByteL l ∧ Sl w 0 w.heap.size (.slice a len cap) l := by
  rcases h with ⟨rfl, rfl, rfl, rfl⟩ | ⟨x, rfl, hl, hm, hz, hc, hw⟩
  · exact ⟨[], rfl, fun n hn => by simp at hn, none, 0, rfl, by simp, fun _ => rfl, fun h => by simp at h⟩
  · have hlen : (zs.take len).length = len := by rw [List.length_take]; omega
    refine ⟨zs.take len, hlen.symm, fun n hn => u8_in (hw n (List.mem_of_mem_take hn)), some x, cap, by rw [hlen], by omega, fun h => by simp at h, fun h0 => ?_⟩
    rw [hlen] at h0
    obtain ⟨b, off, spot⟩ := x
    have hspot : spot = none := by simpa [Addr.add] using World.cell?_spot (hc 0 (by omega))
    subst hspot
    have hcell : ∀ j, j < len → w.cell? ⟨b, off + j, none⟩ = some (.int .u8 ((zs.take len).getD j 0)) := fun j hj => by
      have := hc j (by omega)
      rw [WideShapes.add_plain] at this
      rw [this, List.getD, List.getD, List.getElem?_take, if_pos hj]
    exact ⟨b, off, rfl, Nat.zero_le _, World.block_lt_of_cell? w _ (hcell 0 h0), fun j hj => hcell j (by omega)⟩
/-- A byte that came in. -/
theorem byte_in {n : Int} (h : (Lit.int .u8 n).wf = true) : ∃ x : UInt8, n = (x.toNat : Nat) := by
  have := u8_in h
  refine ⟨UInt8.ofNat n.toNat, ?_⟩
  rw [UInt8.toNat_ofNat', Nat.mod_eq_of_lt (by omega)]
  omega
end Go.Proofs.YtdikgjbpjdnodaaGreat
