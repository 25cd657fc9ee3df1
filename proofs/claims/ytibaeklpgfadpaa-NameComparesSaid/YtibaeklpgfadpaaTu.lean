/-
  The document's Compare.
-/
import Derived.Test.YtibaeklpgfadpaaTt
namespace Go.Proofs.Ytibaeklpgfadpaa
open Go.RowKit Go.Shelf
set_option linter.unusedVariables false
set_option linter.unusedSimpArgs false

set_option maxHeartbeats 4000000 in
theorem rcompare_any (a b : List UInt8) (ha : a.length ≤ 900000) (hb : b.length ≤ 900000) (w : World) : Calls Try.prog 31 #[.string (bs a), .string (bs b)] w (Tells w (.int .i64 (ncmp a b))) := by
  obtain ⟨ca, hca⟩ : ∃ c, chk (low a) = c := ⟨_, rfl⟩
  obtain ⟨cb, hcb⟩ : ∃ c, chk (low b) = c := ⟨_, rfl⟩
  obtain ⟨A, hA⟩ : ∃ A, lbs (low a) = A := ⟨_, rfl⟩
  obtain ⟨B, hB⟩ : ∃ B, lbs (low b) = B := ⟨_, rfl⟩
  have HLa := Lib.hid (rlabels_c (n := low a) (by rw [low_len]; exact ha) hca hA)
  have HLb := Lib.hid (rlabels_c (n := low b) (by rw [low_len]; exact hb) hcb hB)
  have HWa := Lib.hid (fun w => rlower_any a (by omega) w)
  have HWb := Lib.hid (fun w => rlower_any b (by omega) w)
  by_cases h1 : ca = 0
  · subst h1
    by_cases h2 : cb = 0
    · subst h2
      have hlA : A.length ≤ 900000 := by rw [← hA, lbs, if_pos hca]; have := labs_len (low a); rw [low_len] at this; omega
      have hlB : B.length ≤ 900000 := by rw [← hB, lbs, if_pos hcb]; have := labs_len (low b); rw [low_len] at this; omega
      have e : ncmp a b = cmpL A.reverse B.reverse := by
        unfold ncmp down
        rw [if_pos ⟨by rw [← chk_low]; exact hca, by rw [← chk_low]; exact hcb⟩, ← hA, ← hB, lbs, lbs, if_pos hca, if_pos hcb]
      rw [e]
      obtain ⟨R, hR⟩ : ∃ R, cmpL A.reverse B.reverse = R := ⟨_, rfl⟩
      rw [hR]
      have HR := Lib.hid hR
      clear e hca hcb hA hB hR
      go_enter Try.func31, Try.ntmps31
      go_wp2_with fail
      refine (HWa.out _).mono ?_; rintro e w1 ⟨rfl, hb1⟩; have HBw1 := Lib.hid hb1; clear hb1
      go_wp2_with fail
      refine (HLa.out _).mono ?_; rintro e w2 ⟨v1, rfl, ho, hb1⟩; have HBw2 := Lib.hid hb1; have HOw2 := Lib.hid ho; clear hb1 ho
      go_wp2_with fail
      refine (HWb.out _).mono ?_; rintro e w3 ⟨rfl, hb1⟩; have HBw3 := Lib.hid hb1; clear hb1
      go_wp2_with fail
      refine (HLb.out _).mono ?_; rintro e w4 ⟨v2, rfl, ho, hb1⟩; have HBw4 := Lib.hid hb1; have HOw4 := Lib.hid ho; clear hb1 ho
      obtain ⟨a1, c1, rfl⟩ := HOw2.out.shape
      obtain ⟨a2, c2, rfl⟩ := HOw4.out.shape
      have HS := Lib.hid ((HOw2.out.below (bel_call HBw3.out HBw4.out)).st)
      have HS' := Lib.hid HOw4.out.st
      have HBB := Lib.hid (bel_call (bel_call (bel_call HBw1.out HBw2.out) HBw3.out) HBw4.out)
      clear HOw2 HOw4
      go_wp2_with fail
      go_loopw [9] (fun i wr => ∃ k : Nat, k ≤ A.length ∧ k ≤ B.length ∧ i = .int .i64 ((k : Int) + 1) ∧ Hid (R = cmpL (A.reverse.drop k) (B.reverse.drop k)) ∧ Hid (Drawn w4 wr)) (fun i _ => A.length + 1 - (intOf i).toNat)
      case atStart => exact ⟨0, by omega, by omega, rfl, by simp [Hid, HR.out], Drawn.refl w4⟩
      case round =>
        obtain ⟨k, hk, hk', rfl, HL, HD⟩ := hrel
        have hend : ∀ r : Int, R = r → Hid (Tells w (.int .i64 R) (.returned (.int .i64 r)) wr ∧ Tells w (.int .i64 R) (.returned (.int .i64 r)) wr.drew) := fun r hr => ⟨⟨by rw [hr], HBB.out.trans (HD.out.below _)⟩, ⟨by rw [hr], HBB.out.trans (HD.out.drew.below _)⟩⟩
        by_cases hlt : k < A.length
        · by_cases hlt' : k < B.length
          · obtain ⟨b1, off, rfl, hb1, hb2, hcell⟩ := HS.out.cell (by omega)
            obtain ⟨b1', off', rfl, hb1', hb2', hcell'⟩ := HS'.out.cell (by omega)
            obtain ⟨p, hp⟩ : ∃ p : Nat, p = A.length - (k + 1) := ⟨_, rfl⟩
            obtain ⟨p', hp'⟩ : ∃ p : Nat, p = B.length - (k + 1) := ⟨_, rfl⟩
            have hc1 := (HD.out.cell _).trans (hcell p (by omega))
            have hc2 := (HD.out.cell _).trans (hcell' p' (by omega))
            have e1 : A.reverse.drop k = A.getD p [] :: A.reverse.drop (k + 1) := by
              rw [List.drop_eq_getElem_cons (by simpa using hlt), List.getElem_reverse, List.getD, List.getElem?_eq_getElem (by omega)]
              simp only [Option.getD_some]
              congr 2
              omega
            have e1' : B.reverse.drop k = B.getD p' [] :: B.reverse.drop (k + 1) := by
              rw [List.drop_eq_getElem_cons (by simpa using hlt'), List.getElem_reverse, List.getD, List.getElem?_eq_getElem (by omega)]
              simp only [Option.getD_some]
              congr 2
              omega
            obtain ⟨y, hy⟩ : ∃ y, A.getD p [] = y := ⟨_, rfl⟩
            obtain ⟨y', hy'⟩ : ∃ y, B.getD p' [] = y := ⟨_, rfl⟩
            rw [hy] at hc1 e1
            rw [hy'] at hc2 e1'
            have hcm := HL.out
            rw [e1, e1', cmpL] at hcm
            have i1 : IntKind.i64.wrap ((A.length : Int) - ((k : Int) + 1)) = (p : Int) := by rw [IntWalk.i64_in _ (by omega)]; omega
            have i2 : IntKind.i64.wrap ((B.length : Int) - ((k : Int) + 1)) = (p' : Int) := by rw [IntWalk.i64_in _ (by omega)]; omega
            have hpA : p < A.length := by omega
            have hpB : p' < B.length := by omega
            have t1 : decide (k + 1 ≤ A.length) = true := by simp; omega
            have t2 : decide (k + 1 ≤ B.length) = true := by simp; omega
            have l1 : Op.bytesLess (bs y).toList (bs y').toList = decide (cmpS y y' = -1) := by rw [bs_toList, bs_toList]; exact cmpS_less y y'
            have l2 : ((bs y).toList == (bs y').toList) = decide (cmpS y y' = 0) := by
              rw [bs_eq]; by_cases h : y = y'
              · rw [decide_eq_true h, decide_eq_true ((cmpS_zero y y').2 h)]
              · rw [decide_eq_false h, decide_eq_false (fun e => h ((cmpS_zero y y').1 e))]
            have l3 := cmpS_cases y y'
            obtain ⟨c, hc⟩ : ∃ c, cmpS y y' = c := ⟨_, rfl⟩
            rw [hc] at l1 l2 l3 hcm
            unfold tv at hc1 hc2
            clear hcell hcell' e1 e1' hy hy' hp hp' hc
            rcases l3 with rfl | rfl | rfl
            · have l1' : Op.bytesLess (bs y).toList (bs y').toList = true := by rw [l1]; rfl
              have HE := hend (-1) (by rw [hcm]; rfl)
              clear l1 l2 hcm hend
              go_wp2_with fail
              go_region
              go_wp2
              go_ret
              exact HE.out.2
            · have l1' : Op.bytesLess (bs y).toList (bs y').toList = false := by rw [l1]; rfl
              have l2' : ((bs y).toList == (bs y').toList) = true := by rw [l2]; rfl
              rw [if_pos rfl] at hcm
              have HE := Lib.hid hcm
              clear l1 l2 hcm hend
              go_wp2_with fail
              go_region
              go_wp2
              refine ⟨⟨k + 1, by omega, by omega, by go_num, HE, HD.out.drew⟩, ?_⟩
              simp [intOf]; omega
            · have l1' : Op.bytesLess (bs y).toList (bs y').toList = false := by rw [l1]; rfl
              have l2' : ((bs y).toList == (bs y').toList) = false := by rw [l2]; rfl
              have HE := hend 1 (by rw [hcm]; rfl)
              clear l1 l2 hcm hend
              go_wp2_with fail
              go_region
              go_wp2
              go_ret
              exact HE.out.2
          · have hcm := HL.out
            rw [show B.reverse.drop k = [] from List.drop_eq_nil_of_le (by rw [List.length_reverse]; omega)] at hcm
            have e1 : ∃ y r, A.reverse.drop k = y :: r := ⟨_, _, List.drop_eq_getElem_cons (by simpa using hlt)⟩
            obtain ⟨y, r, e1⟩ := e1
            rw [e1, cmpL] at hcm
            have HE := hend 1 hcm
            have t1 : decide (k + 1 ≤ A.length) = true := by simp; omega
            have t2 : decide (k + 1 ≤ B.length) = false := by simp; omega
            have t3 : decide (A.length < B.length) = false := by simp; omega
            have t4 : decide (B.length < A.length) = true := by simp; omega
            clear hcm hend e1
            go_wp2_with fail
            go_ret
            exact HE.out.1
        · have t1 : decide (k + 1 ≤ A.length) = false := by simp; omega
          have hcm := HL.out
          rw [show A.reverse.drop k = [] from List.drop_eq_nil_of_le (by rw [List.length_reverse]; omega), cmpL_end, List.length_drop, List.length_reverse] at hcm
          by_cases hll : A.length < B.length
          · have t3 : decide (A.length < B.length) = true := by simp; omega
            have HE := hend (-1) (by rw [hcm, if_pos (by omega)])
            clear hcm hend
            go_wp2_with fail
            go_ret
            exact HE.out.1
          · have t3 : decide (A.length < B.length) = false := by simp; omega
            have t4 : decide (B.length < A.length) = false := by simp; omega
            have HE := hend 0 (by rw [hcm, if_neg (by omega)])
            clear hcm hend
            go_wp2_with fail
            go_ret
            exact HE.out.1
    · have e : ncmp a b = 0 := by unfold ncmp; rw [if_neg (fun h => h2 (by rw [← hcb, chk_low]; exact h.2))]
      rw [e]
      have t2 : (cb != 0) = true := by simpa using h2
      clear e hca hcb hA hB h2
      go_enter Try.func31, Try.ntmps31
      go_wp2_with fail
      refine (HWa.out _).mono ?_; rintro e w1 ⟨rfl, hb1⟩; have HBw1 := Lib.hid hb1; clear hb1
      go_wp2_with fail
      refine (HLa.out _).mono ?_; rintro e w2 ⟨v1, rfl, ho, hb1⟩; have HBw2 := Lib.hid hb1; have HOw2 := Lib.hid ho; clear hb1 ho
      go_wp2_with fail
      refine (HWb.out _).mono ?_; rintro e w3 ⟨rfl, hb1⟩; have HBw3 := Lib.hid hb1; clear hb1
      go_wp2_with fail
      refine (HLb.out _).mono ?_; rintro e w4 ⟨v2, rfl, ho, hb1⟩; have HBw4 := Lib.hid hb1; have HOw4 := Lib.hid ho; clear hb1 ho
      go_wp2_with fail
      go_ret
      exact ⟨rfl, (bel_call (bel_call (bel_call HBw1.out HBw2.out) HBw3.out) HBw4.out)⟩
  · have e : ncmp a b = 0 := by unfold ncmp; rw [if_neg (fun h => h1 (by rw [← hca, chk_low]; exact h.1))]
    rw [e]
    have t2 : (ca != 0) = true := by simpa using h1
    clear e hca hcb hA hB h1
    go_enter Try.func31, Try.ntmps31
    go_wp2_with fail
    refine (HWa.out _).mono ?_; rintro e w1 ⟨rfl, hb1⟩; have HBw1 := Lib.hid hb1; clear hb1
    go_wp2_with fail
    refine (HLa.out _).mono ?_; rintro e w2 ⟨v1, rfl, ho, hb1⟩; have HBw2 := Lib.hid hb1; have HOw2 := Lib.hid ho; clear hb1 ho
    go_wp2_with fail
    refine (HWb.out _).mono ?_; rintro e w3 ⟨rfl, hb1⟩; have HBw3 := Lib.hid hb1; clear hb1
    go_wp2_with fail
    refine (HLb.out _).mono ?_; rintro e w4 ⟨v2, rfl, ho, hb1⟩; have HBw4 := Lib.hid hb1; have HOw4 := Lib.hid ho; clear hb1 ho
    go_wp2_with fail
    go_ret
    exact ⟨rfl, (bel_call (bel_call (bel_call HBw1.out HBw2.out) HBw3.out) HBw4.out)⟩
end Go.Proofs.Ytibaeklpgfadpaa
