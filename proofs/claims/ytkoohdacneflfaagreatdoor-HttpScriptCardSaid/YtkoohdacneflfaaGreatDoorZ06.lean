/-
  The first line is read.
-/
import Derived.Test.YtkoohdacneflfaaGreatDoorZ05
import Derived.RegionTactic
import Derived.ChangeAlike
import Derived.BigRegion
import Derived.Laws.MakeOwn
import Derived.Deep.RegionHeld3
namespace Go.Proofs.YtkoohdacneflfaaGreatDoor
open Go.RowKit Go.Shelf
set_option linter.unusedVariables false
set_option linter.unusedSimpArgs false
set_option maxRecDepth 100000

theorem below_put4 {N q : Nat} {w w1 : World} (h : Below N w w1) (hq : N ≤ q) (b0 b1 b2 b3 : Value) : Below N w (put4 w1 q b0 b1 b2 b3) :=
  (((h.setCell (p := ⟨q, 0, none⟩) hq b0).setCell (p := ⟨q, 1, none⟩) hq b1).setCell (p := ⟨q, 2, none⟩) hq b2).setCell (p := ⟨q, 3, none⟩) hq b3
/-- Three words in a block. -/
def Tri (w : World) (g : Nat) (a b c : List UInt8) : Prop := w.cell? ⟨g, 0, none⟩ = some (.string (bs a)) ∧ w.cell? ⟨g, 1, none⟩ = some (.string (bs b)) ∧ w.cell? ⟨g, 2, none⟩ = some (.string (bs c))
theorem Tri.later {w w' : World} {g : Nat} {a b c : List UInt8} (h : Tri w g a b c) (hb : Below w.heap.size w w') (hg : g < w.heap.size) : Tri w' g a b c :=
  ⟨(hb.cell (p := ⟨g, 0, none⟩) hg).trans h.1, (hb.cell (p := ⟨g, 1, none⟩) hg).trans h.2.1, (hb.cell (p := ⟨g, 2, none⟩) hg).trans h.2.2⟩

set_option maxHeartbeats 4000000 in
theorem first_any {w : World} (l : List UInt8) (g : Nat) (hl : l.length ≤ 1000000) (hp : Pl w g) (hE : Env w) : Calls Tryz.prog 79 #[.pointer (some ⟨g, 0, none⟩), .string (bs l)] w (FstPost w l) := by
  obtain ⟨N, hN⟩ : ∃ N, w.heap.size = N := ⟨_, rfl⟩
  have hb0 : Below w.heap.size w (w.alloc (.cells #[.string ⟨#[]⟩, .string ⟨#[]⟩, .int .i64 0, .slice none 0 0] 42)) := (Below.refl _ _).alloc (Nat.le_refl _) _
  have hx := cel_new4 w (.string ⟨#[]⟩) (.string ⟨#[]⟩) (.int .i64 0) (.slice none 0 0) 42
  have hsz : (w.alloc (.cells #[.string ⟨#[]⟩, .string ⟨#[]⟩, .int .i64 0, .slice none 0 0] 42)).heap.size = N + 1 := by simp [hN]
  have HSp := Lib.hid (split_any l 32 (hE.later hb0) hl)
  have HP := Lib.hid (hp.later hb0)
  have HM := Lib.hid (spl_sum 32 l)
  have HL := Lib.hid hl
  have HLl := Lib.hid (show (spl 32 l).length ≤ 1000000 + 1 by
    have := spl_len 32 l
    rw [this]
    have := Lib.countB_le ⟨#[32]⟩ (Nat.le_refl 1) _ (bs l) (Nat.le_refl _)
    rw [bs_size] at this
    show Lib.countB (bs l) ⟨#[32]⟩ + 1 ≤ _
    omega)
  rw [hN] at hx hb0
  have HB0 := Lib.hid hb0
  have HX := Lib.hid hx
  obtain ⟨W, hW⟩ : ∃ W, w.alloc (.cells #[.string ⟨#[]⟩, .string ⟨#[]⟩, .int .i64 0, .slice none 0 0] 42) = W := ⟨_, rfl⟩
  rw [hW] at HB0 HX HSp HP hsz
  have HSZ := Lib.hid hsz
  obtain ⟨L, hL⟩ : ∃ L, spl 32 l = L := ⟨_, rfl⟩
  rw [hL] at HSp HM HLl
  have HW := Lib.hid hW
  have HNN := Lib.hid hN
  clear hp hE hb0 hx hsz hl
  by_cases h3 : L.length = 3
  · obtain ⟨a, b, c, rfl⟩ : ∃ a b c, L = [a, b, c] := by
      match L, h3 with
      | [a, b, c], _ => exact ⟨a, b, c, rfl⟩
    have HF3 := Lib.hid (fstL_3 hL)
    have hl1 := HM.out a (by simp)
    have hl2 := HM.out b (by simp)
    have hl3 := HM.out c (by simp)
    have hll := HL.out
    have ha9 : a.length ≤ 1000000 := by omega
    have hb9 : b.length ≤ 1000000 := by omega
    have hc9 : c.length ≤ 1000000 := by omega
    clear h3 hL hl1 hl2 hl3 hll
    unfold fst3 at HF3
    by_cases he : a = [] ∨ b = [] ∨ c = []
    · have HF := Lib.hid (HF3.out.trans (if_pos he))
      have hct : [a, b, c].contains [] = true := by
        rw [List.contains_iff_mem]
        rcases he with rfl | rfl | rfl <;> simp
      clear he HF3
      go_enter Tryz.func79, Tryz.ntmps79
      go_wp2_with fail
      refine (HSp.out).mono ?_; rintro e w1 ⟨rfl, hb1, hs1, hc1⟩
      have HB1 := Lib.hid (HB0.out.trans (hb1.mono (by have := HSZ.out; omega)))
      have HX1 := Lib.hid (HX.out.below (by simp) hb1)
      have HP1 := Lib.hid (HP.out.later hb1)
      have HSL1 := Lib.hid (show N + 1 < w1.heap.size by have := HSZ.out; omega)
      have HC1 := Lib.hid (show Tri w1 (N + 1) a b c from by
        rw [HSZ.out] at hc1
        exact ⟨hc1 0 (by simp), hc1 1 (by simp), hc1 2 (by simp)⟩)
      have HCt := Lib.hid (contE_any (w := w1) (g := N + 1) (off := 0) (c := 3) [a, b, c] rfl (by simp) (by rw [← HSZ.out]; exact hc1))
      rw [hct] at HCt
      rw [HSZ.out]
      clear hb1 hs1 hc1 hct
      obtain ⟨c0, c1, c2, c3⟩ := HX1.out.four
      have cf := HX1.out.fz
      go_wp2_with fail
      refine (HCt.out).mono ?_; rintro e w2 ⟨rfl, hw⟩
      subst hw
      go_wp2_with fail
      have HK := Lib.hid (cel_put4 HX1.out (.string ⟨#[]⟩) (.string ⟨#[]⟩) (.int .i64 0) (.slice none 0 0))
      have HBf := Lib.hid (below_put4 HB1.out (Nat.le_refl _) (.string ⟨#[]⟩) (.string ⟨#[]⟩) (.int .i64 0) (.slice none 0 0))
      obtain ⟨m0, m1, m2, m3⟩ := HK.out.four
      unfold put4 at HBf m0 m1 m2 m3
      refine bodyPost_ret (by simp [results, Tryz.results79, go_sem, m0, m1, m2, m3]; rfl) rfl ⟨by rw [HF.out]; rfl, by rw [HNN.out]; exact HBf.out⟩
    · have HF4 := Lib.hid (HF3.out.trans (if_neg he))
      have hct : [a, b, c].contains [] = false := by
        rw [Bool.eq_false_iff]
        intro h
        rw [List.contains_iff_mem] at h
        simp at h
        exact he (by rcases h with h | h | h <;> simp [h.symm])
      clear he HF3
      have HMe := Lib.hid (fun wx (hx : Pl wx g) => method_any a g (by omega) wx hx)
      have HVe := Lib.hid (fun wx => version_any c (by omega) wx)
      have HTa := Lib.hid (fun wx (hx : Pl wx g) => target_any b g (by omega) wx hx)
      obtain ⟨B1, hB1⟩ : ∃ B, wordL a 16 = B := ⟨_, rfl⟩
      obtain ⟨V1, hV1⟩ : ∃ B, (verL c).1 = B := ⟨_, rfl⟩
      obtain ⟨V2, hV2⟩ : ∃ B, (verL c).2 = B := ⟨_, rfl⟩
      obtain ⟨B2, hB2⟩ : ∃ B, tgtL b = B := ⟨_, rfl⟩
      simp only [hB1] at HMe
      simp only [hV1, hV2] at HVe
      simp only [hB2] at HTa
      rw [hB1, hV1, hV2, hB2] at HF4
      clear hB1 hV1 hV2 hB2
      cases B1 with
      | false =>
        have HF := Lib.hid (HF4.out.trans (if_pos rfl))
        clear HF4
        go_enter Tryz.func79, Tryz.ntmps79
        go_wp2_with fail
        refine (HSp.out).mono ?_; rintro e w1 ⟨rfl, hb1, hs1, hc1⟩
        have HB1 := Lib.hid (HB0.out.trans (hb1.mono (by have := HSZ.out; omega)))
        have HX1 := Lib.hid (HX.out.below (by simp) hb1)
        have HP1 := Lib.hid (HP.out.later hb1)
        have HSL1 := Lib.hid (show N + 1 < w1.heap.size by have := HSZ.out; omega)
        have HC1 := Lib.hid (show Tri w1 (N + 1) a b c from by
          rw [HSZ.out] at hc1
          exact ⟨hc1 0 (by simp), hc1 1 (by simp), hc1 2 (by simp)⟩)
        have HCt := Lib.hid (contE_any (w := w1) (g := N + 1) (off := 0) (c := 3) [a, b, c] rfl (by simp) (by rw [← HSZ.out]; exact hc1))
        rw [hct] at HCt
        rw [HSZ.out]
        have c0 := HC1.out.1
        clear hb1 hs1 hc1 hct
        go_wp2_with fail
        refine (HCt.out).mono ?_; rintro e w2 ⟨rfl, hw⟩
        subst hw
        go_wp2_with fail
        refine (HMe.out _ HP1.out).mono ?_; rintro e w2 ⟨rfl, hb2⟩
        have HB2 := Lib.hid (HB1.out.trans (hb2.mono (by have := HB1.out.size; have := HSZ.out; have := HSL1.out; omega)))
        have HSL2 := Lib.hid (Nat.le_trans HSL1.out hb2.size)
        have HX2 := Lib.hid (HX1.out.below (by simp) hb2)
        have HP2 := Lib.hid (HP1.out.later hb2)
        have HC2 := Lib.hid (HC1.out.later hb2 HSL1.out)
        clear hb2 c0
        obtain ⟨c0, c1, c2, c3⟩ := HX2.out.four
        have cf := HX2.out.fz
        go_wp2_with fail
        have HK := Lib.hid (cel_put4 HX2.out (.string ⟨#[]⟩) (.string ⟨#[]⟩) (.int .i64 0) (.slice none 0 0))
        have HBf := Lib.hid (below_put4 HB2.out (Nat.le_refl _) (.string ⟨#[]⟩) (.string ⟨#[]⟩) (.int .i64 0) (.slice none 0 0))
        obtain ⟨m0, m1, m2, m3⟩ := HK.out.four
        unfold put4 at HBf m0 m1 m2 m3
        refine bodyPost_ret (by simp [results, Tryz.results79, go_sem, m0, m1, m2, m3]; rfl) rfl ⟨by rw [HF.out]; rfl, by rw [HNN.out]; exact HBf.out⟩
      | true =>
        have HF5 := Lib.hid (HF4.out.trans (if_neg (by simp)))
        clear HF4
        by_cases hv : V2 = 200
        · subst hv
          have HF6 := Lib.hid (HF5.out.trans (if_neg (by simp)))
          clear HF5
          by_cases hbl : 2048 < b.length
          · have HF := Lib.hid (HF6.out.trans (if_pos hbl))
            have t1 : (2048 : Int) < b.length := by omega
            clear HF6 hbl
            go_enter Tryz.func79, Tryz.ntmps79
            go_wp2_with fail
            refine (HSp.out).mono ?_; rintro e w1 ⟨rfl, hb1, hs1, hc1⟩
            have HB1 := Lib.hid (HB0.out.trans (hb1.mono (by have := HSZ.out; omega)))
            have HX1 := Lib.hid (HX.out.below (by simp) hb1)
            have HP1 := Lib.hid (HP.out.later hb1)
            have HSL1 := Lib.hid (show N + 1 < w1.heap.size by have := HSZ.out; omega)
            have HC1 := Lib.hid (show Tri w1 (N + 1) a b c from by
              rw [HSZ.out] at hc1
              exact ⟨hc1 0 (by simp), hc1 1 (by simp), hc1 2 (by simp)⟩)
            have HCt := Lib.hid (contE_any (w := w1) (g := N + 1) (off := 0) (c := 3) [a, b, c] rfl (by simp) (by rw [← HSZ.out]; exact hc1))
            rw [hct] at HCt
            rw [HSZ.out]
            have c0 := HC1.out.1
            clear hb1 hs1 hc1 hct
            go_wp2_with fail
            refine (HCt.out).mono ?_; rintro e w2 ⟨rfl, hw⟩
            subst hw
            go_wp2_with fail
            refine (HMe.out _ HP1.out).mono ?_; rintro e w2 ⟨rfl, hb2⟩
            have HB2 := Lib.hid (HB1.out.trans (hb2.mono (by have := HB1.out.size; have := HSZ.out; have := HSL1.out; omega)))
            have HSL2 := Lib.hid (Nat.le_trans HSL1.out hb2.size)
            have HX2 := Lib.hid (HX1.out.below (by simp) hb2)
            have HP2 := Lib.hid (HP1.out.later hb2)
            have HC2 := Lib.hid (HC1.out.later hb2 HSL1.out)
            clear hb2 c0
            have c2 := HC2.out.2.2
            go_wp2_with fail
            refine (HVe.out _).mono ?_; rintro e w3 ⟨rfl, hb3⟩
            have HB3 := Lib.hid (HB2.out.trans (hb3.mono (by have := HB2.out.size; have := HSZ.out; have := HSL2.out; omega)))
            have HSL3 := Lib.hid (Nat.le_trans HSL2.out hb3.size)
            have HX3 := Lib.hid (HX2.out.below (by simp) hb3)
            have HP3 := Lib.hid (HP2.out.later hb3)
            have HC3 := Lib.hid (HC2.out.later hb3 HSL2.out)
            clear hb3 c2
            have c1 := HC3.out.2.1
            obtain ⟨d0, d1, d2, d3⟩ := HX3.out.four
            have cf := HX3.out.fz
            go_wp2_with fail
            have HK := Lib.hid (cel_put4 HX3.out (.string ⟨#[]⟩) (.string ⟨#[]⟩) (.int .i64 0) (.slice none 0 0))
            have HBf := Lib.hid (below_put4 HB3.out (Nat.le_refl _) (.string ⟨#[]⟩) (.string ⟨#[]⟩) (.int .i64 0) (.slice none 0 0))
            obtain ⟨m0, m1, m2, m3⟩ := HK.out.four
            unfold put4 at HBf m0 m1 m2 m3
            refine bodyPost_ret (by simp [results, Tryz.results79, go_sem, m0, m1, m2, m3]; rfl) rfl ⟨by rw [HF.out]; rfl, by rw [HNN.out]; exact HBf.out⟩
          · have HF7 := Lib.hid (HF6.out.trans (if_neg hbl))
            have t1 : ¬ ((2048 : Int) < b.length) := by omega
            clear HF6 hbl
            cases B2 with
            | false =>
              have HF := Lib.hid (HF7.out.trans (if_pos rfl))
              clear HF7
              go_enter Tryz.func79, Tryz.ntmps79
              go_wp2_with fail
              refine (HSp.out).mono ?_; rintro e w1 ⟨rfl, hb1, hs1, hc1⟩
              have HB1 := Lib.hid (HB0.out.trans (hb1.mono (by have := HSZ.out; omega)))
              have HX1 := Lib.hid (HX.out.below (by simp) hb1)
              have HP1 := Lib.hid (HP.out.later hb1)
              have HSL1 := Lib.hid (show N + 1 < w1.heap.size by have := HSZ.out; omega)
              have HC1 := Lib.hid (show Tri w1 (N + 1) a b c from by
                rw [HSZ.out] at hc1
                exact ⟨hc1 0 (by simp), hc1 1 (by simp), hc1 2 (by simp)⟩)
              have HCt := Lib.hid (contE_any (w := w1) (g := N + 1) (off := 0) (c := 3) [a, b, c] rfl (by simp) (by rw [← HSZ.out]; exact hc1))
              rw [hct] at HCt
              rw [HSZ.out]
              have c0 := HC1.out.1
              clear hb1 hs1 hc1 hct
              go_wp2_with fail
              refine (HCt.out).mono ?_; rintro e w2 ⟨rfl, hw⟩
              subst hw
              go_wp2_with fail
              refine (HMe.out _ HP1.out).mono ?_; rintro e w2 ⟨rfl, hb2⟩
              have HB2 := Lib.hid (HB1.out.trans (hb2.mono (by have := HB1.out.size; have := HSZ.out; have := HSL1.out; omega)))
              have HSL2 := Lib.hid (Nat.le_trans HSL1.out hb2.size)
              have HX2 := Lib.hid (HX1.out.below (by simp) hb2)
              have HP2 := Lib.hid (HP1.out.later hb2)
              have HC2 := Lib.hid (HC1.out.later hb2 HSL1.out)
              clear hb2 c0
              have c2 := HC2.out.2.2
              go_wp2_with fail
              refine (HVe.out _).mono ?_; rintro e w3 ⟨rfl, hb3⟩
              have HB3 := Lib.hid (HB2.out.trans (hb3.mono (by have := HB2.out.size; have := HSZ.out; have := HSL2.out; omega)))
              have HSL3 := Lib.hid (Nat.le_trans HSL2.out hb3.size)
              have HX3 := Lib.hid (HX2.out.below (by simp) hb3)
              have HP3 := Lib.hid (HP2.out.later hb3)
              have HC3 := Lib.hid (HC2.out.later hb3 HSL2.out)
              clear hb3 c2
              have c1 := HC3.out.2.1
              go_wp2_with fail
              refine (HTa.out _ HP3.out).mono ?_; rintro e w4 ⟨rfl, hb4⟩
              have HB4 := Lib.hid (HB3.out.trans (hb4.mono (by have := HB3.out.size; have := HSZ.out; have := HSL3.out; omega)))
              have HSL4 := Lib.hid (Nat.le_trans HSL3.out hb4.size)
              have HX4 := Lib.hid (HX3.out.below (by simp) hb4)
              have HP4 := Lib.hid (HP3.out.later hb4)
              have HC4 := Lib.hid (HC3.out.later hb4 HSL3.out)
              clear hb4 c1
              obtain ⟨c0, c1, c2, c3⟩ := HX4.out.four
              have cf := HX4.out.fz
              go_wp2_with fail
              have HK := Lib.hid (cel_put4 HX4.out (.string ⟨#[]⟩) (.string ⟨#[]⟩) (.int .i64 0) (.slice none 0 0))
              have HBf := Lib.hid (below_put4 HB4.out (Nat.le_refl _) (.string ⟨#[]⟩) (.string ⟨#[]⟩) (.int .i64 0) (.slice none 0 0))
              obtain ⟨m0, m1, m2, m3⟩ := HK.out.four
              unfold put4 at HBf m0 m1 m2 m3
              refine bodyPost_ret (by simp [results, Tryz.results79, go_sem, m0, m1, m2, m3]; rfl) rfl ⟨by rw [HF.out]; rfl, by rw [HNN.out]; exact HBf.out⟩
            | true =>
              have HF := Lib.hid (HF7.out.trans (if_neg (by simp)))
              clear HF7
              go_enter Tryz.func79, Tryz.ntmps79
              go_wp2_with fail
              refine (HSp.out).mono ?_; rintro e w1 ⟨rfl, hb1, hs1, hc1⟩
              have HB1 := Lib.hid (HB0.out.trans (hb1.mono (by have := HSZ.out; omega)))
              have HX1 := Lib.hid (HX.out.below (by simp) hb1)
              have HP1 := Lib.hid (HP.out.later hb1)
              have HSL1 := Lib.hid (show N + 1 < w1.heap.size by have := HSZ.out; omega)
              have HC1 := Lib.hid (show Tri w1 (N + 1) a b c from by
                rw [HSZ.out] at hc1
                exact ⟨hc1 0 (by simp), hc1 1 (by simp), hc1 2 (by simp)⟩)
              have HCt := Lib.hid (contE_any (w := w1) (g := N + 1) (off := 0) (c := 3) [a, b, c] rfl (by simp) (by rw [← HSZ.out]; exact hc1))
              rw [hct] at HCt
              rw [HSZ.out]
              have c0 := HC1.out.1
              clear hb1 hs1 hc1 hct
              go_wp2_with fail
              refine (HCt.out).mono ?_; rintro e w2 ⟨rfl, hw⟩
              subst hw
              go_wp2_with fail
              refine (HMe.out _ HP1.out).mono ?_; rintro e w2 ⟨rfl, hb2⟩
              have HB2 := Lib.hid (HB1.out.trans (hb2.mono (by have := HB1.out.size; have := HSZ.out; have := HSL1.out; omega)))
              have HSL2 := Lib.hid (Nat.le_trans HSL1.out hb2.size)
              have HX2 := Lib.hid (HX1.out.below (by simp) hb2)
              have HP2 := Lib.hid (HP1.out.later hb2)
              have HC2 := Lib.hid (HC1.out.later hb2 HSL1.out)
              clear hb2 c0
              have c2 := HC2.out.2.2
              go_wp2_with fail
              refine (HVe.out _).mono ?_; rintro e w3 ⟨rfl, hb3⟩
              have HB3 := Lib.hid (HB2.out.trans (hb3.mono (by have := HB2.out.size; have := HSZ.out; have := HSL2.out; omega)))
              have HSL3 := Lib.hid (Nat.le_trans HSL2.out hb3.size)
              have HX3 := Lib.hid (HX2.out.below (by simp) hb3)
              have HP3 := Lib.hid (HP2.out.later hb3)
              have HC3 := Lib.hid (HC2.out.later hb3 HSL2.out)
              clear hb3 c2
              have c1 := HC3.out.2.1
              go_wp2_with fail
              refine (HTa.out _ HP3.out).mono ?_; rintro e w4 ⟨rfl, hb4⟩
              have HB4 := Lib.hid (HB3.out.trans (hb4.mono (by have := HB3.out.size; have := HSZ.out; have := HSL3.out; omega)))
              have HSL4 := Lib.hid (Nat.le_trans HSL3.out hb4.size)
              have HX4 := Lib.hid (HX3.out.below (by simp) hb4)
              have HP4 := Lib.hid (HP3.out.later hb4)
              have HC4 := Lib.hid (HC3.out.later hb4 HSL3.out)
              clear hb4 c1
              obtain ⟨p0, p1, p2⟩ := HC4.out
              obtain ⟨c0, c1, c2, c3⟩ := HX4.out.four
              have cf := HX4.out.fz
              go_wp2_with fail
              go_region
              have HK := Lib.hid (cel_put4 HX4.out (.string (bs a)) (.string (bs b)) (.int .i64 V1) (.slice none 0 0))
              have HBf := Lib.hid (below_put4 HB4.out (Nat.le_refl _) (.string (bs a)) (.string (bs b)) (.int .i64 V1) (.slice none 0 0)).drew
              obtain ⟨m0, m1, m2, m3⟩ := HK.out.four
              unfold put4 at HBf m0 m1 m2 m3
              clear c0 c1 c2 c3 p0 p1 p2
              go_wp2_with fail
              refine bodyPost_ret (by simp [results, Tryz.results79, go_sem, m0, m1, m2, m3]; rfl) rfl ⟨by rw [HF.out]; rfl, by rw [HNN.out]; exact HBf.out⟩
        · have HF := Lib.hid (HF5.out.trans (if_pos hv))
          have t1 : (V2 != 200) = true := by rw [bne_iff_ne]; exact hv
          clear HF5 hv
          go_enter Tryz.func79, Tryz.ntmps79
          go_wp2_with fail
          refine (HSp.out).mono ?_; rintro e w1 ⟨rfl, hb1, hs1, hc1⟩
          have HB1 := Lib.hid (HB0.out.trans (hb1.mono (by have := HSZ.out; omega)))
          have HX1 := Lib.hid (HX.out.below (by simp) hb1)
          have HP1 := Lib.hid (HP.out.later hb1)
          have HSL1 := Lib.hid (show N + 1 < w1.heap.size by have := HSZ.out; omega)
          have HC1 := Lib.hid (show Tri w1 (N + 1) a b c from by
            rw [HSZ.out] at hc1
            exact ⟨hc1 0 (by simp), hc1 1 (by simp), hc1 2 (by simp)⟩)
          have HCt := Lib.hid (contE_any (w := w1) (g := N + 1) (off := 0) (c := 3) [a, b, c] rfl (by simp) (by rw [← HSZ.out]; exact hc1))
          rw [hct] at HCt
          rw [HSZ.out]
          have c0 := HC1.out.1
          clear hb1 hs1 hc1 hct
          go_wp2_with fail
          refine (HCt.out).mono ?_; rintro e w2 ⟨rfl, hw⟩
          subst hw
          go_wp2_with fail
          refine (HMe.out _ HP1.out).mono ?_; rintro e w2 ⟨rfl, hb2⟩
          have HB2 := Lib.hid (HB1.out.trans (hb2.mono (by have := HB1.out.size; have := HSZ.out; have := HSL1.out; omega)))
          have HSL2 := Lib.hid (Nat.le_trans HSL1.out hb2.size)
          have HX2 := Lib.hid (HX1.out.below (by simp) hb2)
          have HP2 := Lib.hid (HP1.out.later hb2)
          have HC2 := Lib.hid (HC1.out.later hb2 HSL1.out)
          clear hb2 c0
          have c2 := HC2.out.2.2
          go_wp2_with fail
          refine (HVe.out _).mono ?_; rintro e w3 ⟨rfl, hb3⟩
          have HB3 := Lib.hid (HB2.out.trans (hb3.mono (by have := HB2.out.size; have := HSZ.out; have := HSL2.out; omega)))
          have HSL3 := Lib.hid (Nat.le_trans HSL2.out hb3.size)
          have HX3 := Lib.hid (HX2.out.below (by simp) hb3)
          have HP3 := Lib.hid (HP2.out.later hb3)
          have HC3 := Lib.hid (HC2.out.later hb3 HSL2.out)
          clear hb3 c2
          obtain ⟨c0, c1, c2, c3⟩ := HX3.out.four
          have cf := HX3.out.fz
          go_wp2_with fail
          have HK := Lib.hid (cel_put4 HX3.out (.string ⟨#[]⟩) (.string ⟨#[]⟩) (.int .i64 0) (.slice none 0 0))
          have HBf := Lib.hid (below_put4 HB3.out (Nat.le_refl _) (.string ⟨#[]⟩) (.string ⟨#[]⟩) (.int .i64 0) (.slice none 0 0))
          obtain ⟨m0, m1, m2, m3⟩ := HK.out.four
          unfold put4 at HBf m0 m1 m2 m3
          refine bodyPost_ret (by simp [results, Tryz.results79, go_sem, m0, m1, m2, m3]; rfl) rfl ⟨by rw [HF.out]; rfl, by rw [HNN.out]; exact HBf.out⟩
  · have t3 : ((L.length : Int) != 3) = true := by rw [bne_iff_ne]; omega
    have HF := Lib.hid (show fstL l = (z0, 400) from fstL_no (by rw [hL]; exact h3))
    clear h3 hL
    go_enter Tryz.func79, Tryz.ntmps79
    go_wp2_with fail
    refine (HSp.out).mono ?_; rintro e w1 ⟨rfl, hb1, hs1, hc1⟩
    have HB1 := Lib.hid (HB0.out.trans (hb1.mono (by have := HSZ.out; omega)))
    have HX1 := Lib.hid (HX.out.below (by simp) hb1)
    have HP1 := Lib.hid (HP.out.later hb1)
    clear hb1 hs1 hc1
    obtain ⟨c0, c1, c2, c3⟩ := HX1.out.four
    have cf := HX1.out.fz
    go_wp2_with fail
    have HK := Lib.hid (cel_put4 HX1.out (.string ⟨#[]⟩) (.string ⟨#[]⟩) (.int .i64 0) (.slice none 0 0))
    have HBf := Lib.hid (below_put4 HB1.out (Nat.le_refl _) (.string ⟨#[]⟩) (.string ⟨#[]⟩) (.int .i64 0) (.slice none 0 0))
    obtain ⟨m0, m1, m2, m3⟩ := HK.out.four
    unfold put4 at HBf m0 m1 m2 m3
    refine bodyPost_ret (by simp [results, Tryz.results79, go_sem, m0, m1, m2, m3]; rfl) rfl ⟨by rw [HF.out]; rfl, by rw [HNN.out]; exact HBf.out⟩
end Go.Proofs.YtkoohdacneflfaaGreatDoor

/-
  The lines of fields are read.
-/
namespace Go.Proofs.YtkoohdacneflfaaGreatDoor
open Go.RowKit Go.Shelf
set_option linter.unusedVariables false
set_option linter.unusedSimpArgs false
set_option maxRecDepth 100000

theorem cutc_any {w : World} (l : List UInt8) (hE : Env w) (hl : l.length ≤ 1000000) : Calls Tryz.prog 102 #[.string (bs l), .string ⟨#[58]⟩] w (Tells w (.tuple #[.string (bs (ahd l)), .string (bs (bhd l)), .bool (l.contains 58)])) := by
  obtain ⟨m, hm⟩ := hE.mx
  refine (Tryz.strings_Cut (bs l) ⟨#[58]⟩ m w (by rw [bs_size]; omega) hm).mono ?_
  rintro e w' ⟨rfl, n, rfl⟩
  have e : Lib.cut (bs l).data.toList (⟨#[58]⟩ : ByteArray).data.toList = (ahd l, bhd l, l.contains 58) := cut_colon l
  rw [e]
  exact ⟨rfl, below_drewN (Below.refl _ _) n⟩
theorem ahd_len (l : List UInt8) : (ahd l).length ≤ l.length := by unfold ahd; exact (List.takeWhile_sublist _).length_le
theorem bhd_len (l : List UInt8) : (bhd l).length ≤ l.length := by
  unfold bhd
  rw [List.length_drop]
  have := (List.dropWhile_sublist (l := l) (· != 58)).length_le
  omega
def FldPost (w : World) (L : List (List UInt8)) (e : Ending) (w' : World) : Prop := ∃ v, e = .returned (.tuple #[v, .int .i64 (fldsA [] L).2]) ∧ OwnF w' w.heap.size v (fldsA [] L).1 ∧ Below w.heap.size w w'
theorem OwnF.nil (w : World) (B : Nat) : OwnF w B (.slice none 0 0) [] := World.ownsRow_nil _ _ _ _
section
variable {w w' : World} {B k n : Nat} {e : TypeId} {v : Value} {xs : List Value}
theorem row_aside {G : Nat → Prop} (h : w.ownsRow B e k v n xs) (ha : Aside G w w') (hG : ∀ b, v.ownBlock = some b → ¬ G b) : w'.ownsRow B e k v n xs := by
  have hlt := World.ownsRow.lt h
  refine ⟨h.1, ?_⟩
  rcases h.2 with h2 | ⟨g, cap, cur, hv, hg, hh, r⟩
  · exact .inl h2
  · exact .inr ⟨g, cap, cur, hv, hg, (ha.block g (by subst hv; exact (hlt g rfl).2) (hG g (by rw [hv]; rfl))).trans hh, r⟩
theorem row_below (h : w.ownsRow B e k v n xs) (hb : Below w.heap.size w w') : w'.ownsRow B e k v n xs := row_aside (G := fun _ => False) h (Aside.of_all hb) fun _ _ h => h
theorem row_base {B' : Nat} (h : w.ownsRow B e k v n xs) (hB : B' ≤ B) : w.ownsRow B' e k v n xs := by
  refine ⟨h.1, ?_⟩
  rcases h.2 with h2 | ⟨g, cap, cur, h2⟩
  · exact .inl h2
  · exact .inr ⟨g, cap, cur, h2.1, Nat.le_trans hB h2.2.1, h2.2.2⟩
end
theorem OwnF.below {w w' : World} {B : Nat} {v : Value} {l : List Fd} (h : OwnF w B v l) (hb : Below w.heap.size w w') : OwnF w' B v l := row_below h hb
theorem OwnF.shape {w : World} {B : Nat} {v : Value} {l : List Fd} (h : OwnF w B v l) : ∃ a c, v = .slice a l.length c := row_shape h

theorem fldsA_stop {acc : List Fd} {l : List UInt8} {r : List (List UInt8)} (h : acc.length = 32) : fldsA acc (l :: r) = ([], 431) := by rw [fldsA, if_pos h]
theorem fldsA_bad {acc : List Fd} {l : List UInt8} {r : List (List UInt8)} (h : acc.length ≠ 32) (hb : badF l = true) : fldsA acc (l :: r) = ([], 400) := by rw [fldsA, if_neg h, if_pos hb]
theorem fldsA_go {acc : List Fd} {l : List UInt8} {r : List (List UInt8)} (h : acc.length ≠ 32) (hb : badF l = false) : fldsA acc (l :: r) = fldsA (acc ++ [(ahd l, trimB (bhd l))]) r := by rw [fldsA, if_neg h, if_neg (by rw [hb]; simp)]

set_option maxHeartbeats 8000000 in
theorem fields_any {w : World} {lo hi c : Nat} {a : Option Addr} (L : List (List UInt8)) (g : Nat) (hs : St w lo hi (.slice a L.length c) L) (hhi : hi ≤ w.heap.size) (hp : Pl w g) (hE : Env w) (hL : L.length ≤ 100000) (hl : ∀ x ∈ L, x.length ≤ 1000000) :
    Calls Tryz.prog 80 #[.pointer (some ⟨g, 0, none⟩), .slice a L.length c] w (FldPost w L) := by
  obtain ⟨R, hR⟩ : ∃ R, fldsA [] L = R := ⟨_, rfl⟩
  unfold FldPost
  rw [hR]
  have HR := Lib.hid hR
  have HE := Lib.hid hE
  have HP := Lib.hid hp
  have HS := Lib.hid (st_at hs)
  have HLL := Lib.hid hl
  have HH := Lib.hid hhi
  have HB := Lib.hid (Below.refl w.heap.size w)
  clear hR hE hp hs hl hhi
  go_enter Tryz.func80, Tryz.ntmps80
  go_wp2_with fail
  go_loopg [6, 15] L.length (fun n v6 v15 wr => ∃ (k : Nat) (acc : List Fd), k + n = L.length ∧ v15 = .int .i64 k ∧ acc.length ≤ 32 ∧ Hid (OwnF wr w.heap.size v6 acc) ∧ Hid (fldsA acc (L.drop k) = R) ∧ Hid (Below w.heap.size w wr))
  case atStart => exact ⟨0, [], by omega, rfl, by simp, OwnF.nil _ _, HR, HB⟩
  case round =>
    clear HR HB
    obtain ⟨k, acc, hk, rfl, hacc, HO, HF, HB⟩ := hrel
    obtain ⟨a6, c6, rfl⟩ := HO.out.shape
    by_cases hlt : k < L.length
    · obtain ⟨b, off, rfl, _, hb, hc⟩ := HS.out (by omega)
      have p0 := (HB.out.cell (p := ⟨b, off + k, none⟩) (by have := HH.out; show b < w.heap.size; omega)).trans (hc k hlt)
      have hdr : L.drop k = L[k] :: L.drop (k + 1) := List.drop_eq_getElem_cons hlt
      have hxl := HLL.out L[k] (List.getElem_mem hlt)
      have hF := HF.out
      rw [hdr] at hF
      obtain ⟨x, hx⟩ : ∃ x, L[k] = x := ⟨_, rfl⟩
      rw [hx] at p0 hF hxl
      replace HF := Lib.hid hF
      clear hc hx hdr hF
      by_cases h32 : acc.length = 32
      · have HRR := Lib.hid (show ([], 431) = R by rw [← HF.out, fldsA_stop h32])
        have t1 : ((acc.length : Int) == 32) = true := by rw [h32]; rfl
        clear HF
        go_wp2_with fail
        go_ret2
        exact ⟨.slice none 0 0, by rw [← HRR.out]; rfl, by rw [← HRR.out]; exact OwnF.nil _ _, HB.out⟩
      · have t1 : ((acc.length : Int) == 32) = false := by rw [beq_eq_false_iff_ne]; omega
        have H32 := Lib.hid h32
        have HC := Lib.hid (cutc_any x (HE.out.later HB.out) hxl)
        have HBA := Lib.hid (fun w => bare_any (bhd x) (by have := bhd_len x; omega) w)
        have HNA := Lib.hid (fun w hp => name_any (ahd x) g (by have := ahd_len x; omega) w hp)
        have HVA := Lib.hid (fun w hp => value_any (trimB (bhd x)) g (by have := bhd_len x; have := trimB_len (bhd x); omega) w hp)
        have HBF := Lib.hid (show badF x = (!(x.contains 58) || (!(wordL (ahd x) 64) || !(valL (trimB (bhd x))))) from rfl)
        obtain ⟨K1, hK1⟩ : ∃ K, x.contains 58 = K := ⟨_, rfl⟩
        obtain ⟨K2, hK2⟩ : ∃ K, wordL (ahd x) 64 = K := ⟨_, rfl⟩
        obtain ⟨K3, hK3⟩ : ∃ K, valL (trimB (bhd x)) = K := ⟨_, rfl⟩
        rw [hK1] at HC HBF
        rw [hK2] at HBF
        rw [hK3] at HBF
        simp only [hK2] at HNA
        simp only [hK3] at HVA
        clear hK1 hK2 hK3 h32 hxl
        go_wp2_with fail
        refine (HC.out).mono ?_; rintro e w2 ⟨rfl, hb2⟩
        have HB2 := Lib.hid (bel_call HB.out hb2)
        have HO2 := Lib.hid (HO.out.below hb2)
        clear hb2 HO
        go_wp2_with fail
        refine (HBA.out _).mono ?_; rintro e w3 ⟨rfl, hb3⟩
        have HB3 := Lib.hid (bel_call HB2.out hb3)
        have HO3 := Lib.hid (HO2.out.below hb3)
        clear hb3 HO2
        cases K1 with
        | false =>
          have HRR := Lib.hid (show ([], 400) = R by rw [← HF.out, fldsA_bad H32.out (by rw [HBF.out]; rfl)])
          clear HF
          go_wp2_with fail
          go_ret2
          exact ⟨.slice none 0 0, by rw [← HRR.out]; rfl, by rw [← HRR.out]; exact OwnF.nil _ _, HB3.out⟩
        | true =>
          cases K2 with
          | false =>
            have HRR := Lib.hid (show ([], 400) = R by rw [← HF.out, fldsA_bad H32.out (by rw [HBF.out]; rfl)])
            clear HF
            go_wp2_with fail
            refine (HNA.out _ (HP.out.later HB3.out)).mono ?_; rintro e w4 ⟨rfl, hb4⟩
            have HB4 := Lib.hid (bel_call HB3.out hb4)
            clear hb4
            go_wp2_with fail
            go_ret2
            exact ⟨.slice none 0 0, by rw [← HRR.out]; rfl, by rw [← HRR.out]; exact OwnF.nil _ _, HB4.out⟩
          | true =>
            cases K3 with
            | false =>
              have HRR := Lib.hid (show ([], 400) = R by rw [← HF.out, fldsA_bad H32.out (by rw [HBF.out]; rfl)])
              clear HF
              go_wp2_with fail
              refine (HNA.out _ (HP.out.later HB3.out)).mono ?_; rintro e w4 ⟨rfl, hb4⟩
              have HB4 := Lib.hid (bel_call HB3.out hb4)
              clear hb4
              go_wp2_with fail
              refine (HVA.out _ (HP.out.later HB4.out)).mono ?_; rintro e w5 ⟨rfl, hb5⟩
              have HB5 := Lib.hid (bel_call HB4.out hb5)
              clear hb5
              go_wp2_with fail
              go_ret2
              exact ⟨.slice none 0 0, by rw [← HRR.out]; rfl, by rw [← HRR.out]; exact OwnF.nil _ _, HB5.out⟩
            | true =>
              have HFF := Lib.hid (show fldsA (acc ++ [(ahd x, trimB (bhd x))]) (L.drop (k + 1)) = R by rw [← HF.out, fldsA_go H32.out (by rw [HBF.out]; rfl)])
              clear HF
              go_wp2_with fail
              refine (HNA.out _ (HP.out.later HB3.out)).mono ?_; rintro e w4 ⟨rfl, hb4⟩
              have HB4 := Lib.hid (bel_call HB3.out hb4)
              have HO4 := Lib.hid (HO3.out.below hb4)
              clear hb4
              go_wp2_with fail
              refine (HVA.out _ (HP.out.later HB4.out)).mono ?_; rintro e w5 ⟨rfl, hb5⟩
              have HB5 := Lib.hid (bel_call HB4.out hb5)
              have HO5 := Lib.hid (HO4.out.below hb5)
              clear hb5
              go_wp2_with (at_builtin; refine wpList_appF rfl (.tmp 44) (.tmp 48) rfl rfl w.heap.size ?h1 _ _ acc [(ahd x, trimB (bhd x))] rfl rfl ?a1 ?b1 ?c1 ?d1 ?_)
              case h1 => exact w5.heap.size + 1
              case a1 => exact HO5.out.below ((Below.refl _ _).alloc (Nat.le_refl _) _)
              case b1 => exact sf_one w5 (ahd x, trimB (bhd x))
              case c1 => simp; omega
              case d1 => have := HB5.out.size; simp; omega
              intro a' c' w' HO6 hb6
              have HB6 := Lib.hid ((HB5.out.alloc HB5.out.size _).trans hb6.out)
              have hac2 : (acc ++ [(ahd x, trimB (bhd x))]).length ≤ 32 := by have := H32.out; simp; omega
              clear hb6
              go_wp2_with fail
              go_roundg (L.length - (k + 1))
              case measure => omega
              case rel => exact ⟨k + 1, acc ++ [(ahd x, trimB (bhd x))], by omega, by go_num, hac2, HO6, HFF, HB6⟩
    · have t1 : ¬ ((k : Int) < L.length) := by omega
      have HRR := Lib.hid (show (acc, 200) = R by rw [← HF.out, List.drop_of_length_le (by omega)]; rfl)
      clear HF
      go_wp2_with fail
      go_ret2
      exact ⟨.slice a6 acc.length c6, by rw [← HRR.out]; rfl, by rw [← HRR.out]; exact HO.out, HB.out⟩
end Go.Proofs.YtkoohdacneflfaaGreatDoor

/-
  Parse.
-/
namespace Go.Proofs.YtkoohdacneflfaaGreatDoor
open Go.RowKit Go.Shelf
set_option linter.unusedVariables false
set_option linter.unusedSimpArgs false
set_option maxRecDepth 100000

theorem scan_len : ∀ (b : List UInt8) (cr : Bool) (l : List UInt8) (ls : List (List UInt8)), scan cr l b = some ls → ls.length ≤ b.length ∧ ∀ x ∈ ls, x.length ≤ l.length + b.length
  | [], false, _, _, h => by simp [scan] at h
  | [], true, _, _, h => by simp [scan] at h
  | c :: r, false, l, ls, h => by
    rw [scan] at h
    split at h
    · obtain ⟨h1, h2⟩ := scan_len r _ _ _ h
      exact ⟨by simp; omega, fun x hx => by have := h2 x hx; simp; omega⟩
    · split at h
      · cases h
      · obtain ⟨h1, h2⟩ := scan_len r _ _ _ h
        exact ⟨by simp; omega, fun x hx => by have := h2 x hx; simp at this ⊢; omega⟩
  | c :: r, true, l, ls, h => by
    rw [scan] at h
    split at h
    · split at h
      · split at h
        · injection h with h; subst h; simp
        · cases h
      · cases hs : scan false [] r with
        | none => rw [hs] at h; cases h
        | some m =>
          rw [hs] at h
          injection h with h
          subst h
          obtain ⟨h1, h2⟩ := scan_len r _ _ _ hs
          refine ⟨by simp; omega, fun x hx => ?_⟩
          rcases List.mem_cons.mp hx with rfl | hx
          · simp
          · have := h2 x hx; simp at this ⊢; omega
    · cases h
theorem lines_len (b : List UInt8) : (linesB b).length ≤ b.length ∧ ∀ x ∈ linesB b, x.length ≤ b.length := by
  unfold linesB
  cases h : scan false [] b with
  | none => simp
  | some ls => simpa using scan_len b _ _ _ h

/-- A head whose row of fields is the call's own. -/
def Ho (w : World) (B : Nat) (v : Value) (h : Hd) : Prop := ∃ sl, v = .agg #[.string (bs h.m), .string (bs h.t), .int .i64 h.v, sl] ∧ OwnF w B sl h.fs
theorem ho_zero (w : World) (B : Nat) : Ho w B (hdv z0) z0 := ⟨_, rfl, OwnF.nil _ _⟩
theorem Ho.below {w w' : World} {B : Nat} {v : Value} {h : Hd} (hh : Ho w B v h) (hb : Below w.heap.size w w') : Ho w' B v h := by
  obtain ⟨sl, rfl, h1⟩ := hh
  exact ⟨sl, rfl, h1.below hb⟩
theorem Ho.hv {w : World} {B : Nat} {v : Value} {h : Hd} (hh : Ho w B v h) (hl : h.fs.length ≤ 1000000) : Hv w w.heap.size v h := by
  obtain ⟨sl, rfl, h1⟩ := hh
  exact ⟨sl, rfl, h1.sf hl⟩
theorem Ho.base {w : World} {B B' : Nat} {v : Value} {h : Hd} (hh : Ho w B v h) (hB : B' ≤ B) : Ho w B' v h := by
  obtain ⟨sl, rfl, h1⟩ := hh
  exact ⟨sl, rfl, row_base h1 hB⟩

/-- What Parse tells. -/
def HedPost (w : World) (X : Hd × Int) (e : Ending) (w' : World) : Prop := ∃ v, e = .returned (.tuple #[v, .int .i64 X.2]) ∧ Ho w' w.heap.size v X.1 ∧ Below w.heap.size w w'

theorem flds_len : ∀ (ls : List (List UInt8)) (acc : List Fd), acc.length ≤ 32 → (fldsA acc ls).1.length ≤ 32 ∧ (fldsA acc ls).1.length ≤ acc.length + ls.length
  | [], acc, h => by simpa [fldsA] using h
  | l :: r, acc, h => by
    rw [fldsA]
    split
    · simp
    · split
      · simp
      · rename_i h32 _
        obtain ⟨h1, h2⟩ := flds_len r (acc ++ [(ahd l, trimB (bhd l))]) (by simp; omega)
        refine ⟨h1, ?_⟩
        simp at h2 ⊢; omega
theorem flds_fits (M : Nat) : ∀ (ls : List (List UInt8)) (acc : List Fd), (∀ x ∈ ls, x.length ≤ M) → (∀ x ∈ acc, x.1.length ≤ M ∧ x.2.length ≤ M) → ∀ x ∈ (fldsA acc ls).1, x.1.length ≤ M ∧ x.2.length ≤ M
  | [], acc, _, h => by simpa [fldsA] using h
  | l :: r, acc, hl, h => by
    rw [fldsA]
    split
    · simp
    · split
      · simp
      · refine flds_fits M r _ (fun x hx => hl x (by simp [hx])) fun x hx => ?_
        rcases List.mem_append.mp hx with hx | hx
        · exact h x hx
        · simp only [List.mem_singleton] at hx
          subst hx
          have := hl l (by simp)
          have h1 := ahd_len l
          have h2 := bhd_len l
          have h3 := trimB_len (bhd l)
          exact ⟨by simp only; omega, by simp only; omega⟩

set_option maxHeartbeats 8000000 in
theorem parse_any {w : World} {v : Value} (b : List UInt8) (hs : Sl w 0 w.heap.size v (iz b)) (hE : Env w) (hl : b.length ≤ 1000000) : Calls Tryz.prog 50 #[v] w (HedPost w (parH b)) := by
  obtain ⟨N, hN⟩ : ∃ N, w.heap.size = N := ⟨_, rfl⟩
  have hb0 : Below w.heap.size w (w.alloc (.cells #[.string ⟨#[]⟩, .string ⟨#[]⟩, .int .i64 0, .slice none 0 0] 42)) := (Below.refl _ _).alloc (Nat.le_refl _) _
  have hx := cel_new4 w (.string ⟨#[]⟩) (.string ⟨#[]⟩) (.int .i64 0) (.slice none 0 0) 42
  have hsz : (w.alloc (.cells #[.string ⟨#[]⟩, .string ⟨#[]⟩, .int .i64 0, .slice none 0 0] 42)).heap.size = N + 1 := by simp [hN]
  have hs1 : Sl (w.alloc (.cells #[.string ⟨#[]⟩, .string ⟨#[]⟩, .int .i64 0, .slice none 0 0] 42)) 0 (w.alloc (.cells #[.string ⟨#[]⟩, .string ⟨#[]⟩, .int .i64 0, .slice none 0 0] 42)).heap.size v (iz b) := (hs.below hb0 (Nat.le_refl _)).wide (Nat.le_refl _) hb0.size
  obtain ⟨va, vc, rfl⟩ := sl_shape hs rfl
  have hE1 := hE.later hb0
  rw [hN] at hx hb0
  have HB0 := Lib.hid hb0
  have HX0 := Lib.hid hx
  obtain ⟨W, hW⟩ : ∃ W, w.alloc (.cells #[.string ⟨#[]⟩, .string ⟨#[]⟩, .int .i64 0, .slice none 0 0] 42) = W := ⟨_, rfl⟩
  rw [hW] at HB0 HX0 hs1 hsz hE1
  have HSZ := Lib.hid hsz
  have HD0 := Lib.hid (Below.refl W.heap.size W)
  have HE := Lib.hid hE1
  have HS := Lib.hid hs1
  have HNN := Lib.hid hN
  obtain ⟨X, hX⟩ : ∃ X, parH b = X := ⟨_, rfl⟩
  rw [hX]
  unfold parH at hX
  clear hb0 hx hsz hE1 hE hs hs1
  by_cases h4 : 4096 < b.length
  · have HF := Lib.hid (show X = (z0, 431) by rw [← hX, if_pos h4])
    have t1 : (4096 : Int) < b.length := by omega
    obtain ⟨c0, c1, c2, c3⟩ := HX0.out.four
    have cf := HX0.out.fz
    clear hX h4
    go_enter Tryz.func50, Tryz.ntmps50
    go_wp2_with fail
    have HB0 := Lib.hid (HB0.out.trans (HD0.out.mono (by have := HSZ.out; omega)))
    have HK := Lib.hid (cel_put4 HX0.out (.string ⟨#[]⟩) (.string ⟨#[]⟩) (.int .i64 0) (.slice none 0 0))
    have HBf := Lib.hid (below_put4 HB0.out (Nat.le_refl _) (.string ⟨#[]⟩) (.string ⟨#[]⟩) (.int .i64 0) (.slice none 0 0))
    obtain ⟨m0, m1, m2, m3⟩ := HK.out.four
    unfold put4 at HBf m0 m1 m2 m3
    refine bodyPost_ret (v := .tuple #[hdv z0, .int .i64 431]) (by simp [results, Tryz.results50, go_sem, m0, m1, m2, m3]; rfl) rfl ⟨hdv z0, by rw [HF.out], by rw [HF.out]; exact ho_zero _ _, by rw [HNN.out]; exact HBf.out⟩
  · have t1 : ¬ ((4096 : Int) < b.length) := by omega
    have HQ2 := Lib.hid (show par1 (linesB b) = X by rw [← hX, if_neg h4])
    have HLN := Lib.hid (lines_any b HS.out HE.out (by omega))
    have HLB := Lib.hid (show (linesB b).length ≤ 4096 ∧ ∀ x ∈ linesB b, x.length ≤ 4096 from by
      obtain ⟨q1, q2⟩ := lines_len b
      exact ⟨by omega, fun x hx => by have := q2 x hx; omega⟩)
    obtain ⟨L, hL⟩ : ∃ L, linesB b = L := ⟨_, rfl⟩
    rw [hL] at HQ2 HLN HLB
    clear hX h4 hL
    go_enter Tryz.func50, Tryz.ntmps50
    go_wp2_with fail
    refine (HLN.out).mono ?_; rintro e w1 ⟨v1, rfl, ho1, hb1⟩
    have HD1 := Lib.hid (bel_call HD0.out hb1)
    have HX1 := Lib.hid (HX0.out.below (by simp) hb1)
    have HO1 := Lib.hid ho1
    clear hb1 ho1
    obtain ⟨a1, c1, rfl⟩ := HO1.out.shape
    cases L with
    | nil =>
      have HF := Lib.hid (show X = (z0, 400) from HQ2.out.symm)
      obtain ⟨c0, c1, c2, c3⟩ := HX1.out.four
      have cf := HX1.out.fz
      go_wp2_with fail
      have HB1 := Lib.hid (HB0.out.trans (HD1.out.mono (by have := HSZ.out; omega)))
      have HK := Lib.hid (cel_put4 HX1.out (.string ⟨#[]⟩) (.string ⟨#[]⟩) (.int .i64 0) (.slice none 0 0))
      have HBf := Lib.hid (below_put4 HB1.out (Nat.le_refl _) (.string ⟨#[]⟩) (.string ⟨#[]⟩) (.int .i64 0) (.slice none 0 0))
      obtain ⟨m0, m1, m2, m3⟩ := HK.out.four
      unfold put4 at HBf m0 m1 m2 m3
      refine bodyPost_ret (v := .tuple #[hdv z0, .int .i64 400]) (by simp [results, Tryz.results50, go_sem, m0, m1, m2, m3]; rfl) rfl ⟨hdv z0, by rw [HF.out], by rw [HF.out]; exact ho_zero _ _, by rw [HNN.out]; exact HBf.out⟩
    | cons l0 ls =>
      have t2 : ((((l0 :: ls).length : Nat) : Int) == 0) = false := by rw [beq_eq_false_iff_ne, List.length_cons]; omega
      go_wp2_with fail
      refine (allPlaces_any w1).mono ?_; rintro e w2 ⟨g, rfl, hg2, hp2, hb2⟩
      have HD2 := Lib.hid (bel_call HD1.out hb2)
      have HX2 := Lib.hid (HX1.out.below (by simp) hb2)
      have HO2 := Lib.hid (HO1.out.below hb2)
      have HP2 := Lib.hid hp2
      have HG := Lib.hid hg2
      clear hb2 hp2 hg2 HO1
      obtain ⟨g1, o1, rfl, _, _, hc⟩ := st_at HO2.out.st (by simp)
      have q0 := hc 0 (by simp)
      simp only [Nat.add_zero, List.getElem_cons_zero] at q0
      have HFI := Lib.hid (first_any l0 g (by have := HLB.out.2 l0 (by simp); omega) HP2.out (HE.out.later HD2.out))
      clear hc
      obtain ⟨F, hF⟩ : ∃ F, fstL l0 = F := ⟨_, rfl⟩
      obtain ⟨⟨fm, ft, fv, ff⟩, st⟩ := F
      have hff : ff = [] := by have := fst_fs l0; rw [hF] at this; exact this
      subst hff
      have HQ3 := Lib.hid (show (if st ≠ 200 then (z0, st) else par2 ⟨fm, ft, fv, []⟩ ls) = X by rw [← HQ2.out, par1, hF])
      unfold FstPost at HFI
      rw [hF] at HFI
      unfold hdv at HFI
      simp only at HFI
      clear hF HQ2
      go_wp2_with fail
      refine (HFI.out).mono ?_; rintro e w3 ⟨rfl, hb3⟩
      have HD3 := Lib.hid (bel_call HD2.out hb3)
      have HX3 := Lib.hid (HX2.out.below (by simp) hb3)
      have HO3 := Lib.hid (HO2.out.below hb3)
      have HP3 := Lib.hid (HP2.out.later hb3)
      obtain ⟨w3a, hw3⟩ : ∃ wx, w3.alloc (.cells #[.string (bs fm), .string (bs ft), .int .i64 fv, .slice none 0 0] 42) = wx := ⟨_, rfl⟩
      have hba : Below w3.heap.size w3 w3a := by rw [← hw3]; exact (Below.refl _ _).alloc (Nat.le_refl _) _
      have HXh := Lib.hid (show Cel w3a w3.heap.size [.string (bs fm), .string (bs ft), .int .i64 fv, .slice none 0 0] by rw [← hw3]; exact cel_new4 w3 _ _ _ _ _)
      have HD3a := Lib.hid (bel_call HD3.out hba)
      have HX3a := Lib.hid (HX3.out.below (by simp) hba)
      have HO3a := Lib.hid (HO3.out.below hba)
      have HP3a := Lib.hid (HP3.out.later hba)
      have HSa := Lib.hid (show w3a.heap.size = w3.heap.size + 1 by rw [← hw3, World.size_alloc])
      have HHN := Lib.hid (show N < w3.heap.size by have := HD3.out.size; have := HSZ.out; omega)
      clear hb3 HO2 HP2 HO3 HP3 hba
      by_cases hst : st = 200
      · subst hst
        have HQ4 := Lib.hid (show par2 ⟨fm, ft, fv, []⟩ ls = X by rw [← HQ3.out, if_neg (by simp)])
        obtain ⟨sv, hsv, hst1⟩ := st_from (p := 1) HO3a.out.st (by simp)
        have hsv : ∀ wx, (Instr.slice 89 (.slice (some ⟨g1, o1, none⟩) (ls.length + 1) c1) (some (.int .i64 1)) none none).run Tryz.prog wx = .ok sv wx := hsv
        have hst1 : St w3a _ _ sv ls := hst1
        obtain ⟨ads, cs, rfl⟩ : ∃ ads cs, sv = .slice ads ls.length cs := by obtain ⟨ads, cs, e, _⟩ := hst1; exact ⟨ads, cs, e⟩
        have HFL := Lib.hid (fields_any ls g hst1 (Nat.le_refl _) HP3a.out (HE.out.later HD3a.out) (by have := HLB.out.1; rw [List.length_cons] at this; omega) (fun x hx => by have := HLB.out.2 x (by simp [hx]); omega))
        obtain ⟨Z, hZ⟩ : ∃ Z, fldsA [] ls = Z := ⟨_, rfl⟩
        obtain ⟨fs, fst⟩ := Z
        have HQ5 := Lib.hid (show (if fst ≠ 200 then (z0, fst) else if hostL fs fv = false then (z0, 400) else (⟨fm, ft, fv, fs⟩, 200)) = X by rw [← HQ4.out, par2, hZ])
        have HFN := Lib.hid (show fs.length ≤ 32 ∧ ∀ x ∈ fs, x.1.length ≤ 4096 ∧ x.2.length ≤ 4096 from by
          have q1 := (flds_len ls [] (by simp)).1
          have q2 := flds_fits 4096 ls [] (fun x hx => HLB.out.2 x (by simp [hx])) (by simp)
          rw [hZ] at q1 q2
          exact ⟨q1, q2⟩)
        unfold FldPost at HFL
        rw [hZ] at HFL
        clear hZ HQ3 HQ4 hst1
        have HW3 := Lib.hid hw3
        clear hw3
        go_wp2_with fail
        rw [HW3.out]
        refine (HFL.out).mono ?_; rintro e w4 ⟨v4, rfl, ho4, hb4⟩
        obtain ⟨a4, c4, rfl⟩ := OwnF.shape ho4
        have HD4 := Lib.hid (bel_call HD3a.out hb4)
        have HX4 := Lib.hid (HX3a.out.below (by simp) hb4)
        have HXh4 := Lib.hid (HXh.out.below (by simp) hb4)
        obtain ⟨h0, h1, h2, h3⟩ := HXh4.out.four
        have hf := HXh4.out.fz
        have hset : Aside (fun k => k = w3.heap.size) w4 (w4.setCell ⟨w3.heap.size, 3, none⟩ (.slice a4 fs.length c4)) := Aside.setCell w4 (p := ⟨w3.heap.size, 3, none⟩) _ rfl
        have HXh5 := Lib.hid (show Cel (w4.setCell ⟨w3.heap.size, 3, none⟩ (.slice a4 fs.length c4)) w3.heap.size [.string (bs fm), .string (bs ft), .int .i64 fv, .slice a4 fs.length c4] from HXh4.out.set (o := 3) (by simp) (.slice a4 fs.length c4))
        have HX5b := Lib.hid (HX4.out.aside (by simp) hset (by have := HHN.out; omega))
        have ho5 := row_aside ho4 hset (fun k hk hg => by have := (World.ownsRow.lt ho4 k hk).1; have := HSa.out; omega)
        have HO5 := Lib.hid (show OwnF (w4.setCell ⟨w3.heap.size, 3, none⟩ (.slice a4 fs.length c4)) w3a.heap.size (.slice a4 fs.length c4) fs from ho5)
        have HD5 := Lib.hid (show Below W.heap.size W (w4.setCell ⟨w3.heap.size, 3, none⟩ (.slice a4 fs.length c4)) from HD4.out.setCell (p := ⟨w3.heap.size, 3, none⟩) (by have := HD3.out.size; show W.heap.size ≤ w3.heap.size; omega) (.slice a4 fs.length c4))
        have HHs := Lib.hid (hosted_any (w := w4.setCell ⟨w3.heap.size, 3, none⟩ (.slice a4 fs.length c4)) (h := ⟨fm, ft, fv, fs⟩) ⟨.slice a4 fs.length c4, rfl, HO5.out.sf (by have := HFN.out.1; omega)⟩ (Nat.le_refl _) ⟨by have := HFN.out.1; simp only; omega, fun x hx => by have := HFN.out.2 x hx; omega⟩)
        clear hb4 ho4 HXh HX3a HX4 HXh4 hset ho5
        by_cases hfs : fst = 200
        · subst hfs
          have t5 : ((200 : Int) != 200) = false := rfl
          have HQ6 := Lib.hid (show (if hostL fs fv = false then (z0, 400) else (⟨fm, ft, fv, fs⟩, 200)) = X from (if_neg (fun h => h rfl)).symm.trans HQ5.out)
          clear HQ5
          obtain ⟨KH, hKH⟩ : ∃ K, hostL fs fv = K := ⟨_, rfl⟩
          simp only [hKH] at HHs
          rw [hKH] at HQ6
          clear hKH
          go_wp2_with fail
          refine (HHs.out).mono ?_; rintro e w6 ⟨rfl, hb6⟩
          have HD6 := Lib.hid (bel_call HD5.out hb6)
          have HX6 := Lib.hid (HX5b.out.below (by simp) hb6)
          have HXh6 := Lib.hid (HXh5.out.below (by simp) hb6)
          have HO6 := Lib.hid (HO5.out.below hb6)
          clear hb6 h0 h1 h2 h3 hf
          obtain ⟨c0, c1', c2, c3⟩ := HX6.out.four
          have cf := HX6.out.fz
          cases KH with
          | false =>
            have HF := Lib.hid (show X = (z0, 400) by rw [← HQ6.out, if_pos rfl])
            clear HQ6
            go_wp2_with fail
            have HB6 := Lib.hid (HB0.out.trans (HD6.out.mono (by have := HSZ.out; omega)))
            have HK := Lib.hid (cel_put4 HX6.out (.string ⟨#[]⟩) (.string ⟨#[]⟩) (.int .i64 0) (.slice none 0 0))
            have HBf := Lib.hid (below_put4 HB6.out (Nat.le_refl _) (.string ⟨#[]⟩) (.string ⟨#[]⟩) (.int .i64 0) (.slice none 0 0))
            obtain ⟨m0, m1, m2, m3⟩ := HK.out.four
            unfold put4 at HBf m0 m1 m2 m3
            refine bodyPost_ret (v := .tuple #[hdv z0, .int .i64 400]) (by simp [results, Tryz.results50, go_sem, m0, m1, m2, m3]; rfl) rfl ⟨hdv z0, by rw [HF.out], by rw [HF.out]; exact ho_zero _ _, by rw [HNN.out]; exact HBf.out⟩
          | true =>
            have HF := Lib.hid (show X = (⟨fm, ft, fv, fs⟩, 200) by rw [← HQ6.out, if_neg (by simp)])
            clear HQ6
            obtain ⟨h0, h1, h2, h3⟩ := HXh6.out.four
            go_wp2_with fail
            have HB6 := Lib.hid (HB0.out.trans (HD6.out.mono (by have := HSZ.out; omega)))
            have HK := Lib.hid (cel_put4 HX6.out (.string (bs fm)) (.string (bs ft)) (.int .i64 fv) (.slice a4 fs.length c4))
            have HBf := Lib.hid (below_put4 HB6.out (Nat.le_refl _) (.string (bs fm)) (.string (bs ft)) (.int .i64 fv) (.slice a4 fs.length c4))
            have HOf := Lib.hid (show OwnF (put4 w6 N (.string (bs fm)) (.string (bs ft)) (.int .i64 fv) (.slice a4 fs.length c4)) w.heap.size (.slice a4 fs.length c4) fs from by
              have hlt := World.ownsRow.lt HO6.out
              have := HD3a.out.size
              have := HSZ.out
              refine row_base (row_aside HO6.out (aside_put4 w6 N _ _ _ _) (fun k hk hg => ?_)) (by rw [HNN.out]; omega)
              have := (hlt k hk).1
              omega)
            obtain ⟨m0, m1, m2, m3⟩ := HK.out.four
            unfold put4 at HBf HOf m0 m1 m2 m3
            clear c0 c1' c2 c3 h0 h1 h2 h3 cf
            refine bodyPost_ret (v := .tuple #[.agg #[.string (bs fm), .string (bs ft), .int .i64 fv, .slice a4 fs.length c4], .int .i64 200]) (by simp [results, Tryz.results50, go_sem, m0, m1, m2, m3]) rfl ⟨_, by rw [HF.out], by rw [HF.out]; exact ⟨_, rfl, HOf.out⟩, by rw [HNN.out]; exact HBf.out⟩
        · have t5 : (fst != 200) = true := by rw [bne_iff_ne]; exact hfs
          have HF := Lib.hid (show X = (z0, fst) by rw [← HQ5.out, if_pos hfs])
          clear hfs HQ5 HHs
          obtain ⟨w5, hw5⟩ : ∃ wx, w4.setCell ⟨w3.heap.size, 3, none⟩ (.slice a4 fs.length c4) = wx := ⟨_, rfl⟩
          rw [hw5] at HX5b HD5
          obtain ⟨c0, c1', c2, c3⟩ := HX5b.out.four
          have cf := HX5b.out.fz
          go_wp2_with fail
          have HB5 := Lib.hid (HB0.out.trans (HD5.out.mono (by have := HSZ.out; omega)))
          have HK := Lib.hid (cel_put4 HX5b.out (.string ⟨#[]⟩) (.string ⟨#[]⟩) (.int .i64 0) (.slice none 0 0))
          have HBf := Lib.hid (below_put4 HB5.out (Nat.le_refl _) (.string ⟨#[]⟩) (.string ⟨#[]⟩) (.int .i64 0) (.slice none 0 0))
          obtain ⟨m0, m1, m2, m3⟩ := HK.out.four
          unfold put4 at HBf m0 m1 m2 m3
          refine bodyPost_ret (v := .tuple #[hdv z0, .int .i64 fst]) (by simp [results, Tryz.results50, go_sem, m0, m1, m2, m3]; rfl) rfl ⟨hdv z0, by rw [HF.out], by rw [HF.out]; exact ho_zero _ _, by rw [HNN.out]; exact HBf.out⟩
      · have t4 : (st != 200) = true := by rw [bne_iff_ne]; exact hst
        have HF := Lib.hid (show X = (z0, st) by rw [← HQ3.out, if_pos hst])
        clear hst HQ3
        have HW3 := Lib.hid hw3
        clear hw3
        rw [← HW3.out] at HX3a HD3a
        obtain ⟨c0, c1', c2, c3⟩ := HX3a.out.four
        have cf := HX3a.out.fz
        go_wp2_with fail
        have HB3a := Lib.hid (HB0.out.trans (HD3a.out.mono (by have := HSZ.out; omega)))
        have HK := Lib.hid (cel_put4 HX3a.out (.string ⟨#[]⟩) (.string ⟨#[]⟩) (.int .i64 0) (.slice none 0 0))
        have HBf := Lib.hid (below_put4 HB3a.out (Nat.le_refl _) (.string ⟨#[]⟩) (.string ⟨#[]⟩) (.int .i64 0) (.slice none 0 0))
        obtain ⟨m0, m1, m2, m3⟩ := HK.out.four
        unfold put4 at HBf m0 m1 m2 m3
        refine bodyPost_ret (v := .tuple #[hdv z0, .int .i64 st]) (by simp [results, Tryz.results50, go_sem, m0, m1, m2, m3]; rfl) rfl ⟨hdv z0, by rw [HF.out], by rw [HF.out]; exact ho_zero _ _, by rw [HNN.out]; exact HBf.out⟩
  end Go.Proofs.YtkoohdacneflfaaGreatDoor

/-
  Heads, as the statements compare, measure and copy them.
-/
namespace Go.Proofs.YtkoohdacneflfaaGreatDoor
open Go.RowKit Go.Shelf
set_option linter.unusedVariables false
set_option linter.unusedSimpArgs false
set_option maxRecDepth 100000

theorem neqF (x : Fd) (w : World) : (binOp .neq 71 (.agg #[.string (bs x.1), .string (bs x.2)]) (.agg #[.string (bs x.1), .string (bs x.2)])).run Tryz.prog w = .ok (.bool false) w := by
  have hS : Tryz.prog.underlying 71 = some (.struct (Tryz.prog.fieldsOf 71)) := by kernel_rfl
  have hI : Tryz.prog.stoodInHeld 71 = false := by kernel_rfl
  have u9 := Tryz.underlying9
  have a9 := Tryz.isAgg9
  have z9 := Tryz.sizeOf9
  rw [run_neq_struct, run_equalIn_agg _ _ _ _ _ hS hI]
  simp only [Program.fieldsOf, Tryz.underlying71]
  go_simp

set_option maxHeartbeats 1000000 in
theorem sameF_yes {w : World} {hi hi' : Nat} {u v : Value} {l : List Fd} (h : SF w hi u l) (h' : SF w hi' v l) (h1 : hi ≤ w.heap.size) (h2 : hi' ≤ w.heap.size) :
    Calls Tryz.prog 41 #[u, v] w (Tells w (.bool true)) := by
  have HN := Lib.hid (Lst.len h)
  obtain ⟨a, c, rfl⟩ := Lst.shape h
  obtain ⟨a', c', rfl⟩ := Lst.shape h'
  have HS := Lib.hid h
  have HS' := Lib.hid h'
  have HH := Lib.hid (And.intro h1 h2)
  have HB := Lib.hid (Below.refl w.heap.size w)
  clear h h' h1 h2
  go_enter Tryz.func41, Tryz.ntmps41
  go_wp2_with fail
  go_loopg [5] l.length (fun g v5 wr => ∃ k : Nat, k + g = l.length ∧ v5 = .int .i64 k ∧ Hid (Below w.heap.size w wr))
  case atStart => exact ⟨0, by omega, rfl, HB⟩
  case round =>
    clear HB
    obtain ⟨k, hk, rfl, HB⟩ := hrel
    have hlen := HN.out
    by_cases hlt : k < l.length
    · obtain ⟨b, off, c2, he, hb, hc⟩ := HS.out.at_ k hlt
      obtain ⟨b', off', c2', he', hb', hc'⟩ := HS'.out.at_ k hlt
      injection he with he hn3 hc3
      injection he' with he' hn3' hc3'
      clear hn3 hc3 hn3' hc3'
      subst he; subst he'
      obtain ⟨p0, p1⟩ := hc.keep fun o => HB.out.cell (p := ⟨b, o, none⟩) (by have := HH.out.1; show b < w.heap.size; omega)
      obtain ⟨q0, q1⟩ := hc'.keep fun o => HB.out.cell (p := ⟨b', o, none⟩) (by have := HH.out.2; show b' < w.heap.size; omega)
      have HE := fun wx => neqF l[k] wx
      obtain ⟨x, hx⟩ : ∃ x, l[k] = x := ⟨_, rfl⟩
      rw [hx] at p0 p1 q0 q1 HE
      have HB2 := Lib.hid (fun n => below_drewN HB.out n)
      clear hc hc' hx HB
      go_wp2_with fail
      go_quiet (fail)
      go_wp2_with fail
      go_roundg (l.length - (k + 1))
      case measure => omega
      case rel => exact ⟨k + 1, by omega, by go_num, HB2.out _⟩
    · have t1 : ¬ ((k : Int) < l.length) := by omega
      go_wp2_with fail
      go_ret
      exact ⟨rfl, HB.out⟩

set_option maxHeartbeats 1000000 in
theorem sameH_yes {w : World} {hi hi' : Nat} {u v : Value} {h : Hd} (hu : Hv w hi u h) (hv : Hv w hi' v h) (h1 : hi ≤ w.heap.size) (h2 : hi' ≤ w.heap.size) :
    Calls Tryz.prog 29 #[u, v] w (Tells w (.bool true)) := by
  obtain ⟨m, t, n, l⟩ := h
  obtain ⟨s, rfl, hs⟩ := hu
  obtain ⟨s', rfl, hs'⟩ := hv
  simp only at hs hs' ⊢
  have hb1 : Below w.heap.size w (w.alloc (.cells #[.string (bs m), .string (bs t), .int .i64 n, s] 42)) := (Below.refl _ _).alloc (Nat.le_refl _) _
  have hb2 : Below w.heap.size w ((w.alloc (.cells #[.string (bs m), .string (bs t), .int .i64 n, s] 42)).alloc (.cells #[.string (bs m), .string (bs t), .int .i64 n, s'] 42)) := hb1.alloc hb1.size _
  have HF := Lib.hid (sameF_yes (show SF _ hi s l from Lst.below hs hb2 h1) (show SF _ hi' s' l from Lst.below hs' hb2 h2) (Nat.le_trans h1 hb2.size) (Nat.le_trans h2 hb2.size))
  have HB2 := Lib.hid hb2
  clear hs hs' hb1 hb2
  go_enter Tryz.func29, Tryz.ntmps29
  go_wp2_with fail
  refine (HF.out).mono ?_; rintro e w2 ⟨rfl, hb3⟩
  have HB3 := Lib.hid (HB2.out.trans (hb3.mono HB2.out.size))
  clear hb3
  go_wp2_with fail
  go_ret
  exact ⟨rfl, HB3.out⟩

/-! ### how much -/
def szF (l : List Fd) : Nat := (l.map fun x => x.1.length + x.2.length).sum
/-- Each text within what memory has. -/
def Mem (h : Hd) : Prop := ∀ x ∈ h.fs, x.1.length ≤ 140737488351232 ∧ x.2.length ≤ 140737488351232
theorem szF_mem {l : List Fd} {x : Fd} (h : x ∈ l) : x.1.length + x.2.length ≤ szF l := by
  induction l with
  | nil => simp at h
  | cons y r ih =>
    have e : szF (y :: r) = (y.1.length + y.2.length) + szF r := by simp [szF]
    rcases List.mem_cons.mp h with rfl | h
    · omega
    · have := ih h; omega

end Go.Proofs.YtkoohdacneflfaaGreatDoor

/-
  The statements' own helpers: of, status; awake.
-/
namespace Go.Proofs.YtkoohdacneflfaaGreatDoor
open Go.RowKit Go.Shelf
set_option linter.unusedVariables false
set_option linter.unusedSimpArgs false
set_option maxRecDepth 100000

def mGet : List UInt8 := [71, 69, 84]
def tA : List UInt8 := [47, 97]
def hof (n : Int) (name value : List UInt8) : Hd := ⟨mGet, tA, n, [(name, value)]⟩

end Go.Proofs.YtkoohdacneflfaaGreatDoor

/-
  The statements' awake.
-/
namespace Go.Proofs.YtkoohdacneflfaaGreatDoor
open Go.RowKit Go.Shelf
set_option linter.unusedVariables false
set_option linter.unusedSimpArgs false
set_option maxRecDepth 100000

theorem Calls.at_world {P : Program} {f : Nat} {args : Array Value} {w w' : World} {R : Ending → World → Prop} (h : w = w') (hc : Calls P f args w' R) : Calls P f args w R := h ▸ hc

end Go.Proofs.YtkoohdacneflfaaGreatDoor
