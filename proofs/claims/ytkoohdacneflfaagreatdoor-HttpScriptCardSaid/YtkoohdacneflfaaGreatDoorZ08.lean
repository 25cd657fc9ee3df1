/-
  Check.
-/
import Derived.Test.YtkoohdacneflfaaGreatDoorZ07
namespace Go.Proofs.YtkoohdacneflfaaGreatDoor
open Go.RowKit Go.Shelf
set_option linter.unusedVariables false
set_option linter.unusedSimpArgs false
set_option maxRecDepth 100000

def chkH (h : Hd) : Int := if mayH h then 0 else 2
/-- All texts of a head within what memory has. -/
def Big (h : Hd) : Prop := h.m.length ≤ 140737488351232 ∧ h.t.length ≤ 140737488351232 ∧ Mem h
theorem pc_sum (l : List Fd) : (l.flatMap pcF).flatten.length = szF l + 4 * l.length := by
  induction l with
  | nil => rfl
  | cons x r ih =>
    have e : szF (x :: r) = (x.1.length + x.2.length) + szF r := by simp [szF]
    rw [List.flatMap_cons, List.flatten_append, List.length_append, ih, e]
    simp [pcF, crlf]
    omega
theorem dgt_len (v : Int) : (dgt v).length = 1 := by unfold dgt; split <;> rfl
theorem wrH_len (h : Hd) : (wrH h).length = h.m.length + h.t.length + szF h.fs + 4 * h.fs.length + 14 := by
  unfold wrH
  rw [pcs_eq, List.flatten_append, List.flatten_append, List.length_append, List.length_append, pc_sum]
  unfold pc0
  simp [htp, crlf, dgt_len]
  omega
theorem szF_max (l : List Fd) (h : ∀ x ∈ l, x.1.length ≤ 140737488351232 ∧ x.2.length ≤ 140737488351232) : szF l ≤ l.length * 281474976702464 := by
  induction l with
  | nil => simp [szF]
  | cons x r ih =>
    have e : szF (x :: r) = (x.1.length + x.2.length) + szF r := by simp [szF]
    have := ih fun y hy => h y (by simp [hy])
    have := h x (by simp)
    rw [e, List.length_cons, Nat.add_mul]
    omega
theorem pcs_len (h : Hd) : (pcs h).length = 4 * h.fs.length + 7 := by
  rw [pcs_eq, List.length_append, List.length_append, pcF_len]
  unfold pc0
  simp
  omega
theorem any_noF (l : List Fd) : l.any noF = !(l.all fun f => wordL f.1 64 && valL f.2) := by
  induction l with
  | nil => rfl
  | cons x r ih =>
    rw [List.any_cons, List.all_cons, ih]
    unfold noF
    cases wordL x.1 64 <;> cases valL x.2 <;> simp

theorem Hv.sf {w : World} {hi : Nat} {x y z sl : Value} {h : Hd} (hv : Hv w hi (.agg #[x, y, z, sl]) h) : SF w hi sl h.fs := by
  obtain ⟨s, e, h1⟩ := hv
  injection e with e
  have := congrArg (fun q : Array Value => q[3]?) e
  simp at this
  rw [this]; exact h1

set_option maxHeartbeats 8000000 in
theorem check_any {w : World} {hi : Nat} {u : Value} {h : Hd} (hh : Hv w hi u h) (h1 : hi ≤ w.heap.size) (hb : Big h) :
    Calls Tryz.prog 42 #[u] w (Tells w (.int .i64 (chkH h))) := by
  obtain ⟨m, t, v, l⟩ := h
  have HH := Lib.hid hh
  obtain ⟨sl, rfl, hs0⟩ := hh
  have HBG := Lib.hid hb
  simp only at hs0
  obtain ⟨a, c, rfl⟩ := Lst.shape hs0
  have hb0 : Below w.heap.size w (w.alloc (.cells #[.string (bs m), .string (bs t), .int .i64 v, .slice a l.length c] 42)) := (Below.refl _ _).alloc (Nat.le_refl _) _
  have hx := cel_new4 w (.string (bs m)) (.string (bs t)) (.int .i64 v) (.slice a l.length c) 42
  have hv0 : Hv (w.alloc (.cells #[.string (bs m), .string (bs t), .int .i64 v, .slice a l.length c] 42)) (w.alloc (.cells #[.string (bs m), .string (bs t), .int .i64 v, .slice a l.length c] 42)).heap.size (.agg #[.string (bs m), .string (bs t), .int .i64 v, .slice a l.length c]) ⟨m, t, v, l⟩ := ((HH.out.wide h1).later hb0)
  obtain ⟨N, hN⟩ : ∃ N, w.heap.size = N := ⟨_, rfl⟩
  rw [hN] at hx
  have HB0 := Lib.hid hb0
  have HX0 := Lib.hid hx
  have hsz : (w.alloc (.cells #[.string (bs m), .string (bs t), .int .i64 v, .slice a l.length c] 42)).heap.size = N + 1 := by simp [hN]
  obtain ⟨W, hW⟩ : ∃ W, w.alloc (.cells #[.string (bs m), .string (bs t), .int .i64 v, .slice a l.length c] 42) = W := ⟨_, rfl⟩
  rw [hW] at HB0 HX0 hsz hv0
  have HSZ := Lib.hid hsz
  have HD0 := Lib.hid (Below.refl W.heap.size W)
  have HV0 := Lib.hid hv0
  have HMD := Lib.hid (fun w (g : Nat) hp => method_any m g hb.1 w hp)
  have HTG := Lib.hid (fun w (g : Nat) hp => target_any t g hb.2.1 w hp)
  have HLEN := Lib.hid (wrH_len ⟨m, t, v, l⟩)
  have HC := Lib.hid (show chkH ⟨m, t, v, l⟩ = if (wordL m 16 && (tgtL t && ((v == 0 || v == 1) && (decide (l.length ≤ 32) && (l.all (fun f => wordL f.1 64 && valL f.2) && (hostL l v && decide ((wrH ⟨m, t, v, l⟩).length ≤ 4096))))))) = true then 0 else 2 from rfl)
  obtain ⟨B1, hB1⟩ : ∃ B, wordL m 16 = B := ⟨_, rfl⟩
  obtain ⟨B2, hB2⟩ : ∃ B, tgtL t = B := ⟨_, rfl⟩
  simp only [hB1] at HMD
  simp only [hB2] at HTG
  rw [hB1, hB2] at HC
  obtain ⟨R, hR⟩ : ∃ R, chkH ⟨m, t, v, l⟩ = R := ⟨_, rfl⟩
  rw [hR] at HC ⊢
  clear hs0 hb0 hx hsz hb hv0 hB1 hB2 hR
  cases B1 with
  | false =>
    have HR := Lib.hid (show R = 2 from HC.out.trans (if_neg (by simp)))
    clear HC
    go_enter Tryz.func42, Tryz.ntmps42
    go_wp2_with fail
    refine (allPlaces_any W).mono ?_; rintro e w0 ⟨g, rfl, hg1, hp1, hb1⟩
    have hba : Below w0.heap.size w0 (w0.alloc (.cells #[.pointer (some ⟨g, 0, none⟩)] 102)) := (Below.refl _ _).alloc (Nat.le_refl _) _
    have hXa := (HX0.out.below (by simp) hb1).below (by simp) hba
    obtain ⟨c0, c1, c2, c3⟩ := hXa.four
    go_wp2_with fail
    obtain ⟨w1, hW1⟩ : ∃ w1, w0.alloc (.cells #[.pointer (some ⟨g, 0, none⟩)] 102) = w1 := ⟨_, rfl⟩
    have HW1 := Lib.hid hW1
    have HQ0 := Lib.hid (cel_new1 w0 (.pointer (some ⟨g, 0, none⟩)) 102)
    rw [hW1] at HQ0 hba hXa ⊢
    obtain ⟨q, hq⟩ : ∃ q, w0.heap.size = q := ⟨_, rfl⟩
    rw [hq] at HQ0 ⊢
    have HQ1 := HQ0
    have HD1 := Lib.hid (bel_call (bel_call HD0.out hb1) hba)
    have HX1 := Lib.hid hXa
    have HV1 := Lib.hid ((HV0.out.later hb1).later hba)
    have HP1 := Lib.hid (hp1.later hba)
    clear hb1 hp1 hg1 hba hW1 hq hXa c0 c1 c2 c3 HQ0 HW1
    refine (HMD.out _ g HP1.out).mono ?_; rintro e w2 ⟨rfl, hb2⟩
    have HD2 := Lib.hid (bel_call HD1.out hb2)
    have HX2 := Lib.hid (HX1.out.below (by simp) hb2)
    have HV2 := Lib.hid (HV1.out.later hb2)
    have HP2 := Lib.hid (HP1.out.later hb2)
    have HQ2 := Lib.hid (HQ1.out.below (by simp) hb2)
    clear hb2
    obtain ⟨c0, c1, c2, c3⟩ := HX2.out.four
    have cq : w2.cell? ⟨q, 0, none⟩ = some (.pointer (some ⟨g, 0, none⟩)) := HQ2.out.c 0 (by simp)
    go_wp2_with fail
    go_ret
    exact ⟨by rw [HR.out]; rfl, HB0.out.trans (HD2.out.mono HB0.out.size)⟩
  | true =>
    cases B2 with
    | false =>
      have HR := Lib.hid (show R = 2 from HC.out.trans (if_neg (by simp)))
      clear HC
      go_enter Tryz.func42, Tryz.ntmps42
      go_wp2_with fail
      refine (allPlaces_any W).mono ?_; rintro e w0 ⟨g, rfl, hg1, hp1, hb1⟩
      have hba : Below w0.heap.size w0 (w0.alloc (.cells #[.pointer (some ⟨g, 0, none⟩)] 102)) := (Below.refl _ _).alloc (Nat.le_refl _) _
      have hXa := (HX0.out.below (by simp) hb1).below (by simp) hba
      obtain ⟨c0, c1, c2, c3⟩ := hXa.four
      go_wp2_with fail
      obtain ⟨w1, hW1⟩ : ∃ w1, w0.alloc (.cells #[.pointer (some ⟨g, 0, none⟩)] 102) = w1 := ⟨_, rfl⟩
      have HW1 := Lib.hid hW1
      have HQ0 := Lib.hid (cel_new1 w0 (.pointer (some ⟨g, 0, none⟩)) 102)
      rw [hW1] at HQ0 hba hXa ⊢
      obtain ⟨q, hq⟩ : ∃ q, w0.heap.size = q := ⟨_, rfl⟩
      rw [hq] at HQ0 ⊢
      have HQ1 := HQ0
      have HD1 := Lib.hid (bel_call (bel_call HD0.out hb1) hba)
      have HX1 := Lib.hid hXa
      have HV1 := Lib.hid ((HV0.out.later hb1).later hba)
      have HP1 := Lib.hid (hp1.later hba)
      clear hb1 hp1 hg1 hba hW1 hq hXa c0 c1 c2 c3 HQ0 HW1
      refine (HMD.out _ g HP1.out).mono ?_; rintro e w2 ⟨rfl, hb2⟩
      have HD2 := Lib.hid (bel_call HD1.out hb2)
      have HX2 := Lib.hid (HX1.out.below (by simp) hb2)
      have HV2 := Lib.hid (HV1.out.later hb2)
      have HP2 := Lib.hid (HP1.out.later hb2)
      have HQ2 := Lib.hid (HQ1.out.below (by simp) hb2)
      clear hb2
      obtain ⟨c0, c1, c2, c3⟩ := HX2.out.four
      have cq : w2.cell? ⟨q, 0, none⟩ = some (.pointer (some ⟨g, 0, none⟩)) := HQ2.out.c 0 (by simp)
      go_wp2_with fail
      refine (HTG.out _ g HP2.out).mono ?_; rintro e w3 ⟨rfl, hb3⟩
      have HD3 := Lib.hid (bel_call HD2.out hb3)
      have HX3 := Lib.hid (HX2.out.below (by simp) hb3)
      have HV3 := Lib.hid (HV2.out.later hb3)
      have HP3 := Lib.hid (HP2.out.later hb3)
      have HQ3 := Lib.hid (HQ2.out.below (by simp) hb3)
      clear hb3
      clear c0 c1 c2 c3 cq
      obtain ⟨c0, c1, c2, c3⟩ := HX3.out.four
      have cq : w3.cell? ⟨q, 0, none⟩ = some (.pointer (some ⟨g, 0, none⟩)) := HQ3.out.c 0 (by simp)
      go_wp2_with fail
      go_ret
      exact ⟨by rw [HR.out]; rfl, HB0.out.trans (HD3.out.mono HB0.out.size)⟩
    | true =>
      have hnn : Hid (∀ w3 : World, (0 : Int) = 0) := fun _ => rfl
      by_cases h3 : v = 0 ∨ v = 1
      · rcases h3 with rfl | rfl
        · have HC2 := Lib.hid (show R = if (decide (l.length ≤ 32) && (l.all (fun f => wordL f.1 64 && valL f.2) && (hostL l 0 && decide ((wrH ⟨m, t, 0, l⟩).length ≤ 4096)))) = true then 0 else 2 from HC.out)
          clear HC hnn
          by_cases h4 : l.length ≤ 32
          · have t4 : ¬ ((32 : Int) < l.length) := by omega
            have HC3 := Lib.hid (show R = if (l.all (fun f => wordL f.1 64 && valL f.2) && (hostL l 0 && decide ((wrH ⟨m, t, 0, l⟩).length ≤ 4096))) = true then 0 else 2 by rw [HC2.out, decide_eq_true h4]; rfl)
            have HMX := Lib.hid (show (wrH ⟨m, t, 0, l⟩).length ≤ 9000000000000000000 from by
              have h5 := szF_max l HBG.out.2.2
              have h6 := HBG.out.1
              have h7 := HBG.out.2.1
              rw [HLEN.out]
              simp only at h6 h7 ⊢
              have : l.length * 281474976702464 ≤ 32 * 281474976702464 := Nat.mul_le_mul_right _ h4
              omega)
            have HFA := Lib.hid (any_noF l)
            have HCF := Lib.hid (fun (w : World) (g q : Nat) (hp : Pl w g) (hv : Hv w w.heap.size (.agg #[.string (bs m), .string (bs t), .int .i64 0, .slice a l.length c]) ⟨m, t, 0, l⟩) (hq : w.cell? ⟨q, 0, none⟩ = some (.pointer (some ⟨g, 0, none⟩))) => containsF_any l q g hv.sf (Nat.le_refl _) HBG.out.2.2 hp hq)
            obtain ⟨K5, hK5⟩ : ∃ K, l.all (fun f => wordL f.1 64 && valL f.2) = K := ⟨_, rfl⟩
            obtain ⟨F5, hF5⟩ : ∃ K, l.any noF = K := ⟨_, rfl⟩
            rw [hK5] at HC3 HFA
            rw [hF5] at HFA
            simp only [hF5] at HCF
            clear HC2 hF5
            cases K5 with
            | false =>
              have hF : F5 = true := HFA.out
              subst hF
              clear HFA
              have HR := Lib.hid (show R = 2 from HC3.out.trans (if_neg (by simp)))
              clear HC3 hK5
              go_enter Tryz.func42, Tryz.ntmps42
              go_wp2_with fail
              refine (allPlaces_any W).mono ?_; rintro e w0 ⟨g, rfl, hg1, hp1, hb1⟩
              have hba : Below w0.heap.size w0 (w0.alloc (.cells #[.pointer (some ⟨g, 0, none⟩)] 102)) := (Below.refl _ _).alloc (Nat.le_refl _) _
              have hXa := (HX0.out.below (by simp) hb1).below (by simp) hba
              obtain ⟨c0, c1, c2, c3⟩ := hXa.four
              go_wp2_with fail
              obtain ⟨w1, hW1⟩ : ∃ w1, w0.alloc (.cells #[.pointer (some ⟨g, 0, none⟩)] 102) = w1 := ⟨_, rfl⟩
              have HW1 := Lib.hid hW1
              have HQ0 := Lib.hid (cel_new1 w0 (.pointer (some ⟨g, 0, none⟩)) 102)
              rw [hW1] at HQ0 hba hXa ⊢
              obtain ⟨q, hq⟩ : ∃ q, w0.heap.size = q := ⟨_, rfl⟩
              rw [hq] at HQ0 ⊢
              have HQ1 := HQ0
              have HD1 := Lib.hid (bel_call (bel_call HD0.out hb1) hba)
              have HX1 := Lib.hid hXa
              have HV1 := Lib.hid ((HV0.out.later hb1).later hba)
              have HP1 := Lib.hid (hp1.later hba)
              clear hb1 hp1 hg1 hba hW1 hq hXa c0 c1 c2 c3 HQ0 HW1
              refine (HMD.out _ g HP1.out).mono ?_; rintro e w2 ⟨rfl, hb2⟩
              have HD2 := Lib.hid (bel_call HD1.out hb2)
              have HX2 := Lib.hid (HX1.out.below (by simp) hb2)
              have HV2 := Lib.hid (HV1.out.later hb2)
              have HP2 := Lib.hid (HP1.out.later hb2)
              have HQ2 := Lib.hid (HQ1.out.below (by simp) hb2)
              clear hb2
              obtain ⟨c0, c1, c2, c3⟩ := HX2.out.four
              have cq : w2.cell? ⟨q, 0, none⟩ = some (.pointer (some ⟨g, 0, none⟩)) := HQ2.out.c 0 (by simp)
              go_wp2_with fail
              refine (HTG.out _ g HP2.out).mono ?_; rintro e w3 ⟨rfl, hb3⟩
              have HD3 := Lib.hid (bel_call HD2.out hb3)
              have HX3 := Lib.hid (HX2.out.below (by simp) hb3)
              have HV3 := Lib.hid (HV2.out.later hb3)
              have HP3 := Lib.hid (HP2.out.later hb3)
              have HQ3 := Lib.hid (HQ2.out.below (by simp) hb3)
              clear hb3
              clear c0 c1 c2 c3 cq
              obtain ⟨c0, c1, c2, c3⟩ := HX3.out.four
              have cq : w3.cell? ⟨q, 0, none⟩ = some (.pointer (some ⟨g, 0, none⟩)) := HQ3.out.c 0 (by simp)
              go_wp2_with fail
              refine (HCF.out _ g q HP3.out HV3.out cq).mono ?_; rintro e w4 ⟨rfl, hb4⟩
              have HD4 := Lib.hid (bel_call HD3.out hb4)
              have HX4 := Lib.hid (HX3.out.below (by simp) hb4)
              have HV4 := Lib.hid (HV3.out.later hb4)
              have HP4 := Lib.hid (HP3.out.later hb4)
              have HQ4 := Lib.hid (HQ3.out.below (by simp) hb4)
              clear hb4
              clear c0 c1 c2 c3 cq
              obtain ⟨c0, c1, c2, c3⟩ := HX4.out.four
              have cq : w4.cell? ⟨q, 0, none⟩ = some (.pointer (some ⟨g, 0, none⟩)) := HQ4.out.c 0 (by simp)
              go_wp2_with fail
              go_ret
              exact ⟨by rw [HR.out]; rfl, HB0.out.trans (HD4.out.mono HB0.out.size)⟩
            | true =>
              have hF : F5 = false := HFA.out
              subst hF
              clear HFA
              have HFT := Lib.hid (show Fits ⟨m, t, 0, l⟩ from ⟨by simp only; omega, fun x hx => by
                have h5 := HBG.out.2.2 x hx
                have h6 := List.all_eq_true.mp hK5 x hx
                have h7 : x.1.length ≤ 64 := by
                  simp only [Bool.and_eq_true] at h6
                  have := h6.1
                  unfold wordL at this
                  simp only [Bool.and_eq_true, decide_eq_true_eq] at this
                  exact this.2.1
                exact ⟨by omega, h5.2⟩⟩)
              have HHO := Lib.hid (fun (w : World) (hv : Hv w w.heap.size (.agg #[.string (bs m), .string (bs t), .int .i64 0, .slice a l.length c]) ⟨m, t, 0, l⟩) => hosted_any hv (Nat.le_refl _) HFT.out)
              have HC4 := Lib.hid (show R = if (hostL l 0 && decide ((wrH ⟨m, t, 0, l⟩).length ≤ 4096)) = true then 0 else 2 from HC3.out)
              obtain ⟨K6, hK6⟩ : ∃ K, hostL l 0 = K := ⟨_, rfl⟩
              rw [hK6] at HC4
              simp only [hK6] at HHO
              clear HC3 hK5 hK6
              cases K6 with
              | false =>
                have HR := Lib.hid (show R = 2 from HC4.out.trans (if_neg (by simp)))
                clear HC4
                go_enter Tryz.func42, Tryz.ntmps42
                go_wp2_with fail
                refine (allPlaces_any W).mono ?_; rintro e w0 ⟨g, rfl, hg1, hp1, hb1⟩
                have hba : Below w0.heap.size w0 (w0.alloc (.cells #[.pointer (some ⟨g, 0, none⟩)] 102)) := (Below.refl _ _).alloc (Nat.le_refl _) _
                have hXa := (HX0.out.below (by simp) hb1).below (by simp) hba
                obtain ⟨c0, c1, c2, c3⟩ := hXa.four
                go_wp2_with fail
                obtain ⟨w1, hW1⟩ : ∃ w1, w0.alloc (.cells #[.pointer (some ⟨g, 0, none⟩)] 102) = w1 := ⟨_, rfl⟩
                have HW1 := Lib.hid hW1
                have HQ0 := Lib.hid (cel_new1 w0 (.pointer (some ⟨g, 0, none⟩)) 102)
                rw [hW1] at HQ0 hba hXa ⊢
                obtain ⟨q, hq⟩ : ∃ q, w0.heap.size = q := ⟨_, rfl⟩
                rw [hq] at HQ0 ⊢
                have HQ1 := HQ0
                have HD1 := Lib.hid (bel_call (bel_call HD0.out hb1) hba)
                have HX1 := Lib.hid hXa
                have HV1 := Lib.hid ((HV0.out.later hb1).later hba)
                have HP1 := Lib.hid (hp1.later hba)
                clear hb1 hp1 hg1 hba hW1 hq hXa c0 c1 c2 c3 HQ0 HW1
                refine (HMD.out _ g HP1.out).mono ?_; rintro e w2 ⟨rfl, hb2⟩
                have HD2 := Lib.hid (bel_call HD1.out hb2)
                have HX2 := Lib.hid (HX1.out.below (by simp) hb2)
                have HV2 := Lib.hid (HV1.out.later hb2)
                have HP2 := Lib.hid (HP1.out.later hb2)
                have HQ2 := Lib.hid (HQ1.out.below (by simp) hb2)
                clear hb2
                obtain ⟨c0, c1, c2, c3⟩ := HX2.out.four
                have cq : w2.cell? ⟨q, 0, none⟩ = some (.pointer (some ⟨g, 0, none⟩)) := HQ2.out.c 0 (by simp)
                go_wp2_with fail
                refine (HTG.out _ g HP2.out).mono ?_; rintro e w3 ⟨rfl, hb3⟩
                have HD3 := Lib.hid (bel_call HD2.out hb3)
                have HX3 := Lib.hid (HX2.out.below (by simp) hb3)
                have HV3 := Lib.hid (HV2.out.later hb3)
                have HP3 := Lib.hid (HP2.out.later hb3)
                have HQ3 := Lib.hid (HQ2.out.below (by simp) hb3)
                clear hb3
                clear c0 c1 c2 c3 cq
                obtain ⟨c0, c1, c2, c3⟩ := HX3.out.four
                have cq : w3.cell? ⟨q, 0, none⟩ = some (.pointer (some ⟨g, 0, none⟩)) := HQ3.out.c 0 (by simp)
                go_wp2_with fail
                refine (HCF.out _ g q HP3.out HV3.out cq).mono ?_; rintro e w4 ⟨rfl, hb4⟩
                have HD4 := Lib.hid (bel_call HD3.out hb4)
                have HX4 := Lib.hid (HX3.out.below (by simp) hb4)
                have HV4 := Lib.hid (HV3.out.later hb4)
                have HP4 := Lib.hid (HP3.out.later hb4)
                have HQ4 := Lib.hid (HQ3.out.below (by simp) hb4)
                clear hb4
                clear c0 c1 c2 c3 cq
                obtain ⟨c0, c1, c2, c3⟩ := HX4.out.four
                have cq : w4.cell? ⟨q, 0, none⟩ = some (.pointer (some ⟨g, 0, none⟩)) := HQ4.out.c 0 (by simp)
                go_wp2_with fail
                refine (HHO.out _ HV4.out).mono ?_; rintro e w5 ⟨rfl, hb5⟩
                have HD5 := Lib.hid (bel_call HD4.out hb5)
                have HX5 := Lib.hid (HX4.out.below (by simp) hb5)
                have HV5 := Lib.hid (HV4.out.later hb5)
                have HP5 := Lib.hid (HP4.out.later hb5)
                have HQ5 := Lib.hid (HQ4.out.below (by simp) hb5)
                clear hb5
                clear c0 c1 c2 c3 cq
                obtain ⟨c0, c1, c2, c3⟩ := HX5.out.four
                have cq : w5.cell? ⟨q, 0, none⟩ = some (.pointer (some ⟨g, 0, none⟩)) := HQ5.out.c 0 (by simp)
                go_wp2_with fail
                go_ret
                exact ⟨by rw [HR.out]; rfl, HB0.out.trans (HD5.out.mono HB0.out.size)⟩
              | true =>
                have HC5 := Lib.hid (show R = if (decide ((wrH ⟨m, t, 0, l⟩).length ≤ 4096)) = true then 0 else 2 from HC4.out)
                clear HC4
                go_enter Tryz.func42, Tryz.ntmps42
                go_wp2_with fail
                refine (allPlaces_any W).mono ?_; rintro e w0 ⟨g, rfl, hg1, hp1, hb1⟩
                have hba : Below w0.heap.size w0 (w0.alloc (.cells #[.pointer (some ⟨g, 0, none⟩)] 102)) := (Below.refl _ _).alloc (Nat.le_refl _) _
                have hXa := (HX0.out.below (by simp) hb1).below (by simp) hba
                obtain ⟨c0, c1, c2, c3⟩ := hXa.four
                go_wp2_with fail
                obtain ⟨w1, hW1⟩ : ∃ w1, w0.alloc (.cells #[.pointer (some ⟨g, 0, none⟩)] 102) = w1 := ⟨_, rfl⟩
                have HW1 := Lib.hid hW1
                have HQ0 := Lib.hid (cel_new1 w0 (.pointer (some ⟨g, 0, none⟩)) 102)
                rw [hW1] at HQ0 hba hXa ⊢
                obtain ⟨q, hq⟩ : ∃ q, w0.heap.size = q := ⟨_, rfl⟩
                rw [hq] at HQ0 ⊢
                have HQ1 := HQ0
                have HD1 := Lib.hid (bel_call (bel_call HD0.out hb1) hba)
                have HX1 := Lib.hid hXa
                have HV1 := Lib.hid ((HV0.out.later hb1).later hba)
                have HP1 := Lib.hid (hp1.later hba)
                clear hb1 hp1 hg1 hba hW1 hq hXa c0 c1 c2 c3 HQ0 HW1
                refine (HMD.out _ g HP1.out).mono ?_; rintro e w2 ⟨rfl, hb2⟩
                have HD2 := Lib.hid (bel_call HD1.out hb2)
                have HX2 := Lib.hid (HX1.out.below (by simp) hb2)
                have HV2 := Lib.hid (HV1.out.later hb2)
                have HP2 := Lib.hid (HP1.out.later hb2)
                have HQ2 := Lib.hid (HQ1.out.below (by simp) hb2)
                clear hb2
                obtain ⟨c0, c1, c2, c3⟩ := HX2.out.four
                have cq : w2.cell? ⟨q, 0, none⟩ = some (.pointer (some ⟨g, 0, none⟩)) := HQ2.out.c 0 (by simp)
                go_wp2_with fail
                refine (HTG.out _ g HP2.out).mono ?_; rintro e w3 ⟨rfl, hb3⟩
                have HD3 := Lib.hid (bel_call HD2.out hb3)
                have HX3 := Lib.hid (HX2.out.below (by simp) hb3)
                have HV3 := Lib.hid (HV2.out.later hb3)
                have HP3 := Lib.hid (HP2.out.later hb3)
                have HQ3 := Lib.hid (HQ2.out.below (by simp) hb3)
                clear hb3
                clear c0 c1 c2 c3 cq
                obtain ⟨c0, c1, c2, c3⟩ := HX3.out.four
                have cq : w3.cell? ⟨q, 0, none⟩ = some (.pointer (some ⟨g, 0, none⟩)) := HQ3.out.c 0 (by simp)
                go_wp2_with fail
                refine (HCF.out _ g q HP3.out HV3.out cq).mono ?_; rintro e w4 ⟨rfl, hb4⟩
                have HD4 := Lib.hid (bel_call HD3.out hb4)
                have HX4 := Lib.hid (HX3.out.below (by simp) hb4)
                have HV4 := Lib.hid (HV3.out.later hb4)
                have HP4 := Lib.hid (HP3.out.later hb4)
                have HQ4 := Lib.hid (HQ3.out.below (by simp) hb4)
                clear hb4
                clear c0 c1 c2 c3 cq
                obtain ⟨c0, c1, c2, c3⟩ := HX4.out.four
                have cq : w4.cell? ⟨q, 0, none⟩ = some (.pointer (some ⟨g, 0, none⟩)) := HQ4.out.c 0 (by simp)
                go_wp2_with fail
                refine (HHO.out _ HV4.out).mono ?_; rintro e w5 ⟨rfl, hb5⟩
                have HD5 := Lib.hid (bel_call HD4.out hb5)
                have HX5 := Lib.hid (HX4.out.below (by simp) hb5)
                have HV5 := Lib.hid (HV4.out.later hb5)
                have HP5 := Lib.hid (HP4.out.later hb5)
                have HQ5 := Lib.hid (HQ4.out.below (by simp) hb5)
                clear hb5
                clear c0 c1 c2 c3 cq
                obtain ⟨c0, c1, c2, c3⟩ := HX5.out.four
                have cq : w5.cell? ⟨q, 0, none⟩ = some (.pointer (some ⟨g, 0, none⟩)) := HQ5.out.c 0 (by simp)
                go_wp2_with fail
                refine (pieces_any HV5.out (Nat.le_refl _) (by simp) (by simp only; omega)).mono ?_; rintro e w6 ⟨v6, rfl, ho6, hb6⟩
                have HD6 := Lib.hid (bel_call HD5.out hb6)
                have hst6 := ho6.st
                obtain ⟨a6, c6, rfl⟩ := ho6.shape
                have hpl := pcs_len ⟨m, t, 0, l⟩
                have HSI := Lib.hid (size_any (w := w6) (pcs ⟨m, t, 0, l⟩) hst6 (by rw [← List.length_flatten]; exact HMX.out) (by rw [hpl]; simp only; omega))
                rw [show (pcs ⟨m, t, 0, l⟩).flatten = wrH ⟨m, t, 0, l⟩ from rfl] at HSI
                obtain ⟨Z, hZ⟩ : ∃ Z, (wrH ⟨m, t, 0, l⟩).length = Z := ⟨_, rfl⟩
                rw [hZ] at HSI HC5
                clear hb6 ho6 hst6 hpl hZ HMX HLEN
                go_wp2_with fail
                refine (HSI.out).mono ?_; rintro e w7 ⟨rfl, hb7⟩
                have HD7 := Lib.hid (bel_call HD6.out hb7)
                clear hb7
                by_cases h7 : Z ≤ 4096
                · have HR := Lib.hid (show R = 0 by rw [HC5.out, decide_eq_true h7]; rfl)
                  have t7 : ¬ ((4096 : Int) < Z) := by omega
                  go_wp2_with fail
                  go_ret
                  exact ⟨by rw [HR.out]; rfl, HB0.out.trans (HD7.out.mono HB0.out.size)⟩
                · have HR := Lib.hid (show R = 2 by rw [HC5.out, decide_eq_false h7]; rfl)
                  have t7 : (4096 : Int) < Z := by omega
                  go_wp2_with fail
                  go_ret
                  exact ⟨by rw [HR.out]; rfl, HB0.out.trans (HD7.out.mono HB0.out.size)⟩
          · have HR := Lib.hid (show R = 2 from HC2.out.trans (if_neg (by simp; omega)))
            have t4 : (32 : Int) < l.length := by omega
            clear HC2 h4
            go_enter Tryz.func42, Tryz.ntmps42
            go_wp2_with fail
            refine (allPlaces_any W).mono ?_; rintro e w0 ⟨g, rfl, hg1, hp1, hb1⟩
            have hba : Below w0.heap.size w0 (w0.alloc (.cells #[.pointer (some ⟨g, 0, none⟩)] 102)) := (Below.refl _ _).alloc (Nat.le_refl _) _
            have hXa := (HX0.out.below (by simp) hb1).below (by simp) hba
            obtain ⟨c0, c1, c2, c3⟩ := hXa.four
            go_wp2_with fail
            obtain ⟨w1, hW1⟩ : ∃ w1, w0.alloc (.cells #[.pointer (some ⟨g, 0, none⟩)] 102) = w1 := ⟨_, rfl⟩
            have HW1 := Lib.hid hW1
            have HQ0 := Lib.hid (cel_new1 w0 (.pointer (some ⟨g, 0, none⟩)) 102)
            rw [hW1] at HQ0 hba hXa ⊢
            obtain ⟨q, hq⟩ : ∃ q, w0.heap.size = q := ⟨_, rfl⟩
            rw [hq] at HQ0 ⊢
            have HQ1 := HQ0
            have HD1 := Lib.hid (bel_call (bel_call HD0.out hb1) hba)
            have HX1 := Lib.hid hXa
            have HV1 := Lib.hid ((HV0.out.later hb1).later hba)
            have HP1 := Lib.hid (hp1.later hba)
            clear hb1 hp1 hg1 hba hW1 hq hXa c0 c1 c2 c3 HQ0 HW1
            refine (HMD.out _ g HP1.out).mono ?_; rintro e w2 ⟨rfl, hb2⟩
            have HD2 := Lib.hid (bel_call HD1.out hb2)
            have HX2 := Lib.hid (HX1.out.below (by simp) hb2)
            have HV2 := Lib.hid (HV1.out.later hb2)
            have HP2 := Lib.hid (HP1.out.later hb2)
            have HQ2 := Lib.hid (HQ1.out.below (by simp) hb2)
            clear hb2
            obtain ⟨c0, c1, c2, c3⟩ := HX2.out.four
            have cq : w2.cell? ⟨q, 0, none⟩ = some (.pointer (some ⟨g, 0, none⟩)) := HQ2.out.c 0 (by simp)
            go_wp2_with fail
            refine (HTG.out _ g HP2.out).mono ?_; rintro e w3 ⟨rfl, hb3⟩
            have HD3 := Lib.hid (bel_call HD2.out hb3)
            have HX3 := Lib.hid (HX2.out.below (by simp) hb3)
            have HV3 := Lib.hid (HV2.out.later hb3)
            have HP3 := Lib.hid (HP2.out.later hb3)
            have HQ3 := Lib.hid (HQ2.out.below (by simp) hb3)
            clear hb3
            clear c0 c1 c2 c3 cq
            obtain ⟨c0, c1, c2, c3⟩ := HX3.out.four
            have cq : w3.cell? ⟨q, 0, none⟩ = some (.pointer (some ⟨g, 0, none⟩)) := HQ3.out.c 0 (by simp)
            go_wp2_with fail
            go_ret
            exact ⟨by rw [HR.out]; rfl, HB0.out.trans (HD3.out.mono HB0.out.size)⟩
        · have HC2 := Lib.hid (show R = if (decide (l.length ≤ 32) && (l.all (fun f => wordL f.1 64 && valL f.2) && (hostL l 1 && decide ((wrH ⟨m, t, 1, l⟩).length ≤ 4096)))) = true then 0 else 2 from HC.out)
          clear HC hnn
          by_cases h4 : l.length ≤ 32
          · have t4 : ¬ ((32 : Int) < l.length) := by omega
            have HC3 := Lib.hid (show R = if (l.all (fun f => wordL f.1 64 && valL f.2) && (hostL l 1 && decide ((wrH ⟨m, t, 1, l⟩).length ≤ 4096))) = true then 0 else 2 by rw [HC2.out, decide_eq_true h4]; rfl)
            have HMX := Lib.hid (show (wrH ⟨m, t, 1, l⟩).length ≤ 9000000000000000000 from by
              have h5 := szF_max l HBG.out.2.2
              have h6 := HBG.out.1
              have h7 := HBG.out.2.1
              rw [HLEN.out]
              simp only at h6 h7 ⊢
              have : l.length * 281474976702464 ≤ 32 * 281474976702464 := Nat.mul_le_mul_right _ h4
              omega)
            have HFA := Lib.hid (any_noF l)
            have HCF := Lib.hid (fun (w : World) (g q : Nat) (hp : Pl w g) (hv : Hv w w.heap.size (.agg #[.string (bs m), .string (bs t), .int .i64 1, .slice a l.length c]) ⟨m, t, 1, l⟩) (hq : w.cell? ⟨q, 0, none⟩ = some (.pointer (some ⟨g, 0, none⟩))) => containsF_any l q g hv.sf (Nat.le_refl _) HBG.out.2.2 hp hq)
            obtain ⟨K5, hK5⟩ : ∃ K, l.all (fun f => wordL f.1 64 && valL f.2) = K := ⟨_, rfl⟩
            obtain ⟨F5, hF5⟩ : ∃ K, l.any noF = K := ⟨_, rfl⟩
            rw [hK5] at HC3 HFA
            rw [hF5] at HFA
            simp only [hF5] at HCF
            clear HC2 hF5
            cases K5 with
            | false =>
              have hF : F5 = true := HFA.out
              subst hF
              clear HFA
              have HR := Lib.hid (show R = 2 from HC3.out.trans (if_neg (by simp)))
              clear HC3 hK5
              go_enter Tryz.func42, Tryz.ntmps42
              go_wp2_with fail
              refine (allPlaces_any W).mono ?_; rintro e w0 ⟨g, rfl, hg1, hp1, hb1⟩
              have hba : Below w0.heap.size w0 (w0.alloc (.cells #[.pointer (some ⟨g, 0, none⟩)] 102)) := (Below.refl _ _).alloc (Nat.le_refl _) _
              have hXa := (HX0.out.below (by simp) hb1).below (by simp) hba
              obtain ⟨c0, c1, c2, c3⟩ := hXa.four
              go_wp2_with fail
              obtain ⟨w1, hW1⟩ : ∃ w1, w0.alloc (.cells #[.pointer (some ⟨g, 0, none⟩)] 102) = w1 := ⟨_, rfl⟩
              have HW1 := Lib.hid hW1
              have HQ0 := Lib.hid (cel_new1 w0 (.pointer (some ⟨g, 0, none⟩)) 102)
              rw [hW1] at HQ0 hba hXa ⊢
              obtain ⟨q, hq⟩ : ∃ q, w0.heap.size = q := ⟨_, rfl⟩
              rw [hq] at HQ0 ⊢
              have HQ1 := HQ0
              have HD1 := Lib.hid (bel_call (bel_call HD0.out hb1) hba)
              have HX1 := Lib.hid hXa
              have HV1 := Lib.hid ((HV0.out.later hb1).later hba)
              have HP1 := Lib.hid (hp1.later hba)
              clear hb1 hp1 hg1 hba hW1 hq hXa c0 c1 c2 c3 HQ0 HW1
              refine (HMD.out _ g HP1.out).mono ?_; rintro e w2 ⟨rfl, hb2⟩
              have HD2 := Lib.hid (bel_call HD1.out hb2)
              have HX2 := Lib.hid (HX1.out.below (by simp) hb2)
              have HV2 := Lib.hid (HV1.out.later hb2)
              have HP2 := Lib.hid (HP1.out.later hb2)
              have HQ2 := Lib.hid (HQ1.out.below (by simp) hb2)
              clear hb2
              obtain ⟨c0, c1, c2, c3⟩ := HX2.out.four
              have cq : w2.cell? ⟨q, 0, none⟩ = some (.pointer (some ⟨g, 0, none⟩)) := HQ2.out.c 0 (by simp)
              go_wp2_with fail
              refine (HTG.out _ g HP2.out).mono ?_; rintro e w3 ⟨rfl, hb3⟩
              have HD3 := Lib.hid (bel_call HD2.out hb3)
              have HX3 := Lib.hid (HX2.out.below (by simp) hb3)
              have HV3 := Lib.hid (HV2.out.later hb3)
              have HP3 := Lib.hid (HP2.out.later hb3)
              have HQ3 := Lib.hid (HQ2.out.below (by simp) hb3)
              clear hb3
              clear c0 c1 c2 c3 cq
              obtain ⟨c0, c1, c2, c3⟩ := HX3.out.four
              have cq : w3.cell? ⟨q, 0, none⟩ = some (.pointer (some ⟨g, 0, none⟩)) := HQ3.out.c 0 (by simp)
              go_wp2_with fail
              refine (HCF.out _ g q HP3.out HV3.out cq).mono ?_; rintro e w4 ⟨rfl, hb4⟩
              have HD4 := Lib.hid (bel_call HD3.out hb4)
              have HX4 := Lib.hid (HX3.out.below (by simp) hb4)
              have HV4 := Lib.hid (HV3.out.later hb4)
              have HP4 := Lib.hid (HP3.out.later hb4)
              have HQ4 := Lib.hid (HQ3.out.below (by simp) hb4)
              clear hb4
              clear c0 c1 c2 c3 cq
              obtain ⟨c0, c1, c2, c3⟩ := HX4.out.four
              have cq : w4.cell? ⟨q, 0, none⟩ = some (.pointer (some ⟨g, 0, none⟩)) := HQ4.out.c 0 (by simp)
              go_wp2_with fail
              go_ret
              exact ⟨by rw [HR.out]; rfl, HB0.out.trans (HD4.out.mono HB0.out.size)⟩
            | true =>
              have hF : F5 = false := HFA.out
              subst hF
              clear HFA
              have HFT := Lib.hid (show Fits ⟨m, t, 1, l⟩ from ⟨by simp only; omega, fun x hx => by
                have h5 := HBG.out.2.2 x hx
                have h6 := List.all_eq_true.mp hK5 x hx
                have h7 : x.1.length ≤ 64 := by
                  simp only [Bool.and_eq_true] at h6
                  have := h6.1
                  unfold wordL at this
                  simp only [Bool.and_eq_true, decide_eq_true_eq] at this
                  exact this.2.1
                exact ⟨by omega, h5.2⟩⟩)
              have HHO := Lib.hid (fun (w : World) (hv : Hv w w.heap.size (.agg #[.string (bs m), .string (bs t), .int .i64 1, .slice a l.length c]) ⟨m, t, 1, l⟩) => hosted_any hv (Nat.le_refl _) HFT.out)
              have HC4 := Lib.hid (show R = if (hostL l 1 && decide ((wrH ⟨m, t, 1, l⟩).length ≤ 4096)) = true then 0 else 2 from HC3.out)
              obtain ⟨K6, hK6⟩ : ∃ K, hostL l 1 = K := ⟨_, rfl⟩
              rw [hK6] at HC4
              simp only [hK6] at HHO
              clear HC3 hK5 hK6
              cases K6 with
              | false =>
                have HR := Lib.hid (show R = 2 from HC4.out.trans (if_neg (by simp)))
                clear HC4
                go_enter Tryz.func42, Tryz.ntmps42
                go_wp2_with fail
                refine (allPlaces_any W).mono ?_; rintro e w0 ⟨g, rfl, hg1, hp1, hb1⟩
                have hba : Below w0.heap.size w0 (w0.alloc (.cells #[.pointer (some ⟨g, 0, none⟩)] 102)) := (Below.refl _ _).alloc (Nat.le_refl _) _
                have hXa := (HX0.out.below (by simp) hb1).below (by simp) hba
                obtain ⟨c0, c1, c2, c3⟩ := hXa.four
                go_wp2_with fail
                obtain ⟨w1, hW1⟩ : ∃ w1, w0.alloc (.cells #[.pointer (some ⟨g, 0, none⟩)] 102) = w1 := ⟨_, rfl⟩
                have HW1 := Lib.hid hW1
                have HQ0 := Lib.hid (cel_new1 w0 (.pointer (some ⟨g, 0, none⟩)) 102)
                rw [hW1] at HQ0 hba hXa ⊢
                obtain ⟨q, hq⟩ : ∃ q, w0.heap.size = q := ⟨_, rfl⟩
                rw [hq] at HQ0 ⊢
                have HQ1 := HQ0
                have HD1 := Lib.hid (bel_call (bel_call HD0.out hb1) hba)
                have HX1 := Lib.hid hXa
                have HV1 := Lib.hid ((HV0.out.later hb1).later hba)
                have HP1 := Lib.hid (hp1.later hba)
                clear hb1 hp1 hg1 hba hW1 hq hXa c0 c1 c2 c3 HQ0 HW1
                refine (HMD.out _ g HP1.out).mono ?_; rintro e w2 ⟨rfl, hb2⟩
                have HD2 := Lib.hid (bel_call HD1.out hb2)
                have HX2 := Lib.hid (HX1.out.below (by simp) hb2)
                have HV2 := Lib.hid (HV1.out.later hb2)
                have HP2 := Lib.hid (HP1.out.later hb2)
                have HQ2 := Lib.hid (HQ1.out.below (by simp) hb2)
                clear hb2
                obtain ⟨c0, c1, c2, c3⟩ := HX2.out.four
                have cq : w2.cell? ⟨q, 0, none⟩ = some (.pointer (some ⟨g, 0, none⟩)) := HQ2.out.c 0 (by simp)
                go_wp2_with fail
                refine (HTG.out _ g HP2.out).mono ?_; rintro e w3 ⟨rfl, hb3⟩
                have HD3 := Lib.hid (bel_call HD2.out hb3)
                have HX3 := Lib.hid (HX2.out.below (by simp) hb3)
                have HV3 := Lib.hid (HV2.out.later hb3)
                have HP3 := Lib.hid (HP2.out.later hb3)
                have HQ3 := Lib.hid (HQ2.out.below (by simp) hb3)
                clear hb3
                clear c0 c1 c2 c3 cq
                obtain ⟨c0, c1, c2, c3⟩ := HX3.out.four
                have cq : w3.cell? ⟨q, 0, none⟩ = some (.pointer (some ⟨g, 0, none⟩)) := HQ3.out.c 0 (by simp)
                go_wp2_with fail
                refine (HCF.out _ g q HP3.out HV3.out cq).mono ?_; rintro e w4 ⟨rfl, hb4⟩
                have HD4 := Lib.hid (bel_call HD3.out hb4)
                have HX4 := Lib.hid (HX3.out.below (by simp) hb4)
                have HV4 := Lib.hid (HV3.out.later hb4)
                have HP4 := Lib.hid (HP3.out.later hb4)
                have HQ4 := Lib.hid (HQ3.out.below (by simp) hb4)
                clear hb4
                clear c0 c1 c2 c3 cq
                obtain ⟨c0, c1, c2, c3⟩ := HX4.out.four
                have cq : w4.cell? ⟨q, 0, none⟩ = some (.pointer (some ⟨g, 0, none⟩)) := HQ4.out.c 0 (by simp)
                go_wp2_with fail
                refine (HHO.out _ HV4.out).mono ?_; rintro e w5 ⟨rfl, hb5⟩
                have HD5 := Lib.hid (bel_call HD4.out hb5)
                have HX5 := Lib.hid (HX4.out.below (by simp) hb5)
                have HV5 := Lib.hid (HV4.out.later hb5)
                have HP5 := Lib.hid (HP4.out.later hb5)
                have HQ5 := Lib.hid (HQ4.out.below (by simp) hb5)
                clear hb5
                clear c0 c1 c2 c3 cq
                obtain ⟨c0, c1, c2, c3⟩ := HX5.out.four
                have cq : w5.cell? ⟨q, 0, none⟩ = some (.pointer (some ⟨g, 0, none⟩)) := HQ5.out.c 0 (by simp)
                go_wp2_with fail
                go_ret
                exact ⟨by rw [HR.out]; rfl, HB0.out.trans (HD5.out.mono HB0.out.size)⟩
              | true =>
                have HC5 := Lib.hid (show R = if (decide ((wrH ⟨m, t, 1, l⟩).length ≤ 4096)) = true then 0 else 2 from HC4.out)
                clear HC4
                go_enter Tryz.func42, Tryz.ntmps42
                go_wp2_with fail
                refine (allPlaces_any W).mono ?_; rintro e w0 ⟨g, rfl, hg1, hp1, hb1⟩
                have hba : Below w0.heap.size w0 (w0.alloc (.cells #[.pointer (some ⟨g, 0, none⟩)] 102)) := (Below.refl _ _).alloc (Nat.le_refl _) _
                have hXa := (HX0.out.below (by simp) hb1).below (by simp) hba
                obtain ⟨c0, c1, c2, c3⟩ := hXa.four
                go_wp2_with fail
                obtain ⟨w1, hW1⟩ : ∃ w1, w0.alloc (.cells #[.pointer (some ⟨g, 0, none⟩)] 102) = w1 := ⟨_, rfl⟩
                have HW1 := Lib.hid hW1
                have HQ0 := Lib.hid (cel_new1 w0 (.pointer (some ⟨g, 0, none⟩)) 102)
                rw [hW1] at HQ0 hba hXa ⊢
                obtain ⟨q, hq⟩ : ∃ q, w0.heap.size = q := ⟨_, rfl⟩
                rw [hq] at HQ0 ⊢
                have HQ1 := HQ0
                have HD1 := Lib.hid (bel_call (bel_call HD0.out hb1) hba)
                have HX1 := Lib.hid hXa
                have HV1 := Lib.hid ((HV0.out.later hb1).later hba)
                have HP1 := Lib.hid (hp1.later hba)
                clear hb1 hp1 hg1 hba hW1 hq hXa c0 c1 c2 c3 HQ0 HW1
                refine (HMD.out _ g HP1.out).mono ?_; rintro e w2 ⟨rfl, hb2⟩
                have HD2 := Lib.hid (bel_call HD1.out hb2)
                have HX2 := Lib.hid (HX1.out.below (by simp) hb2)
                have HV2 := Lib.hid (HV1.out.later hb2)
                have HP2 := Lib.hid (HP1.out.later hb2)
                have HQ2 := Lib.hid (HQ1.out.below (by simp) hb2)
                clear hb2
                obtain ⟨c0, c1, c2, c3⟩ := HX2.out.four
                have cq : w2.cell? ⟨q, 0, none⟩ = some (.pointer (some ⟨g, 0, none⟩)) := HQ2.out.c 0 (by simp)
                go_wp2_with fail
                refine (HTG.out _ g HP2.out).mono ?_; rintro e w3 ⟨rfl, hb3⟩
                have HD3 := Lib.hid (bel_call HD2.out hb3)
                have HX3 := Lib.hid (HX2.out.below (by simp) hb3)
                have HV3 := Lib.hid (HV2.out.later hb3)
                have HP3 := Lib.hid (HP2.out.later hb3)
                have HQ3 := Lib.hid (HQ2.out.below (by simp) hb3)
                clear hb3
                clear c0 c1 c2 c3 cq
                obtain ⟨c0, c1, c2, c3⟩ := HX3.out.four
                have cq : w3.cell? ⟨q, 0, none⟩ = some (.pointer (some ⟨g, 0, none⟩)) := HQ3.out.c 0 (by simp)
                go_wp2_with fail
                refine (HCF.out _ g q HP3.out HV3.out cq).mono ?_; rintro e w4 ⟨rfl, hb4⟩
                have HD4 := Lib.hid (bel_call HD3.out hb4)
                have HX4 := Lib.hid (HX3.out.below (by simp) hb4)
                have HV4 := Lib.hid (HV3.out.later hb4)
                have HP4 := Lib.hid (HP3.out.later hb4)
                have HQ4 := Lib.hid (HQ3.out.below (by simp) hb4)
                clear hb4
                clear c0 c1 c2 c3 cq
                obtain ⟨c0, c1, c2, c3⟩ := HX4.out.four
                have cq : w4.cell? ⟨q, 0, none⟩ = some (.pointer (some ⟨g, 0, none⟩)) := HQ4.out.c 0 (by simp)
                go_wp2_with fail
                refine (HHO.out _ HV4.out).mono ?_; rintro e w5 ⟨rfl, hb5⟩
                have HD5 := Lib.hid (bel_call HD4.out hb5)
                have HX5 := Lib.hid (HX4.out.below (by simp) hb5)
                have HV5 := Lib.hid (HV4.out.later hb5)
                have HP5 := Lib.hid (HP4.out.later hb5)
                have HQ5 := Lib.hid (HQ4.out.below (by simp) hb5)
                clear hb5
                clear c0 c1 c2 c3 cq
                obtain ⟨c0, c1, c2, c3⟩ := HX5.out.four
                have cq : w5.cell? ⟨q, 0, none⟩ = some (.pointer (some ⟨g, 0, none⟩)) := HQ5.out.c 0 (by simp)
                go_wp2_with fail
                refine (pieces_any HV5.out (Nat.le_refl _) (by simp) (by simp only; omega)).mono ?_; rintro e w6 ⟨v6, rfl, ho6, hb6⟩
                have HD6 := Lib.hid (bel_call HD5.out hb6)
                have hst6 := ho6.st
                obtain ⟨a6, c6, rfl⟩ := ho6.shape
                have hpl := pcs_len ⟨m, t, 1, l⟩
                have HSI := Lib.hid (size_any (w := w6) (pcs ⟨m, t, 1, l⟩) hst6 (by rw [← List.length_flatten]; exact HMX.out) (by rw [hpl]; simp only; omega))
                rw [show (pcs ⟨m, t, 1, l⟩).flatten = wrH ⟨m, t, 1, l⟩ from rfl] at HSI
                obtain ⟨Z, hZ⟩ : ∃ Z, (wrH ⟨m, t, 1, l⟩).length = Z := ⟨_, rfl⟩
                rw [hZ] at HSI HC5
                clear hb6 ho6 hst6 hpl hZ HMX HLEN
                go_wp2_with fail
                refine (HSI.out).mono ?_; rintro e w7 ⟨rfl, hb7⟩
                have HD7 := Lib.hid (bel_call HD6.out hb7)
                clear hb7
                by_cases h7 : Z ≤ 4096
                · have HR := Lib.hid (show R = 0 by rw [HC5.out, decide_eq_true h7]; rfl)
                  have t7 : ¬ ((4096 : Int) < Z) := by omega
                  go_wp2_with fail
                  go_ret
                  exact ⟨by rw [HR.out]; rfl, HB0.out.trans (HD7.out.mono HB0.out.size)⟩
                · have HR := Lib.hid (show R = 2 by rw [HC5.out, decide_eq_false h7]; rfl)
                  have t7 : (4096 : Int) < Z := by omega
                  go_wp2_with fail
                  go_ret
                  exact ⟨by rw [HR.out]; rfl, HB0.out.trans (HD7.out.mono HB0.out.size)⟩
          · have HR := Lib.hid (show R = 2 from HC2.out.trans (if_neg (by simp; omega)))
            have t4 : (32 : Int) < l.length := by omega
            clear HC2 h4
            go_enter Tryz.func42, Tryz.ntmps42
            go_wp2_with fail
            refine (allPlaces_any W).mono ?_; rintro e w0 ⟨g, rfl, hg1, hp1, hb1⟩
            have hba : Below w0.heap.size w0 (w0.alloc (.cells #[.pointer (some ⟨g, 0, none⟩)] 102)) := (Below.refl _ _).alloc (Nat.le_refl _) _
            have hXa := (HX0.out.below (by simp) hb1).below (by simp) hba
            obtain ⟨c0, c1, c2, c3⟩ := hXa.four
            go_wp2_with fail
            obtain ⟨w1, hW1⟩ : ∃ w1, w0.alloc (.cells #[.pointer (some ⟨g, 0, none⟩)] 102) = w1 := ⟨_, rfl⟩
            have HW1 := Lib.hid hW1
            have HQ0 := Lib.hid (cel_new1 w0 (.pointer (some ⟨g, 0, none⟩)) 102)
            rw [hW1] at HQ0 hba hXa ⊢
            obtain ⟨q, hq⟩ : ∃ q, w0.heap.size = q := ⟨_, rfl⟩
            rw [hq] at HQ0 ⊢
            have HQ1 := HQ0
            have HD1 := Lib.hid (bel_call (bel_call HD0.out hb1) hba)
            have HX1 := Lib.hid hXa
            have HV1 := Lib.hid ((HV0.out.later hb1).later hba)
            have HP1 := Lib.hid (hp1.later hba)
            clear hb1 hp1 hg1 hba hW1 hq hXa c0 c1 c2 c3 HQ0 HW1
            refine (HMD.out _ g HP1.out).mono ?_; rintro e w2 ⟨rfl, hb2⟩
            have HD2 := Lib.hid (bel_call HD1.out hb2)
            have HX2 := Lib.hid (HX1.out.below (by simp) hb2)
            have HV2 := Lib.hid (HV1.out.later hb2)
            have HP2 := Lib.hid (HP1.out.later hb2)
            have HQ2 := Lib.hid (HQ1.out.below (by simp) hb2)
            clear hb2
            obtain ⟨c0, c1, c2, c3⟩ := HX2.out.four
            have cq : w2.cell? ⟨q, 0, none⟩ = some (.pointer (some ⟨g, 0, none⟩)) := HQ2.out.c 0 (by simp)
            go_wp2_with fail
            refine (HTG.out _ g HP2.out).mono ?_; rintro e w3 ⟨rfl, hb3⟩
            have HD3 := Lib.hid (bel_call HD2.out hb3)
            have HX3 := Lib.hid (HX2.out.below (by simp) hb3)
            have HV3 := Lib.hid (HV2.out.later hb3)
            have HP3 := Lib.hid (HP2.out.later hb3)
            have HQ3 := Lib.hid (HQ2.out.below (by simp) hb3)
            clear hb3
            clear c0 c1 c2 c3 cq
            obtain ⟨c0, c1, c2, c3⟩ := HX3.out.four
            have cq : w3.cell? ⟨q, 0, none⟩ = some (.pointer (some ⟨g, 0, none⟩)) := HQ3.out.c 0 (by simp)
            go_wp2_with fail
            go_ret
            exact ⟨by rw [HR.out]; rfl, HB0.out.trans (HD3.out.mono HB0.out.size)⟩
      · have HR := Lib.hid (show R = 2 from HC.out.trans (if_neg (by simp; omega)))
        have n0 : (v != 0) = true := by rw [bne_iff_ne]; omega
        have n1 : (v != 1) = true := by rw [bne_iff_ne]; omega
        clear HC h3 hnn
        go_enter Tryz.func42, Tryz.ntmps42
        go_wp2_with fail
        refine (allPlaces_any W).mono ?_; rintro e w0 ⟨g, rfl, hg1, hp1, hb1⟩
        have hba : Below w0.heap.size w0 (w0.alloc (.cells #[.pointer (some ⟨g, 0, none⟩)] 102)) := (Below.refl _ _).alloc (Nat.le_refl _) _
        have hXa := (HX0.out.below (by simp) hb1).below (by simp) hba
        obtain ⟨c0, c1, c2, c3⟩ := hXa.four
        go_wp2_with fail
        obtain ⟨w1, hW1⟩ : ∃ w1, w0.alloc (.cells #[.pointer (some ⟨g, 0, none⟩)] 102) = w1 := ⟨_, rfl⟩
        have HW1 := Lib.hid hW1
        have HQ0 := Lib.hid (cel_new1 w0 (.pointer (some ⟨g, 0, none⟩)) 102)
        rw [hW1] at HQ0 hba hXa ⊢
        obtain ⟨q, hq⟩ : ∃ q, w0.heap.size = q := ⟨_, rfl⟩
        rw [hq] at HQ0 ⊢
        have HQ1 := HQ0
        have HD1 := Lib.hid (bel_call (bel_call HD0.out hb1) hba)
        have HX1 := Lib.hid hXa
        have HV1 := Lib.hid ((HV0.out.later hb1).later hba)
        have HP1 := Lib.hid (hp1.later hba)
        clear hb1 hp1 hg1 hba hW1 hq hXa c0 c1 c2 c3 HQ0 HW1
        refine (HMD.out _ g HP1.out).mono ?_; rintro e w2 ⟨rfl, hb2⟩
        have HD2 := Lib.hid (bel_call HD1.out hb2)
        have HX2 := Lib.hid (HX1.out.below (by simp) hb2)
        have HV2 := Lib.hid (HV1.out.later hb2)
        have HP2 := Lib.hid (HP1.out.later hb2)
        have HQ2 := Lib.hid (HQ1.out.below (by simp) hb2)
        clear hb2
        obtain ⟨c0, c1, c2, c3⟩ := HX2.out.four
        have cq : w2.cell? ⟨q, 0, none⟩ = some (.pointer (some ⟨g, 0, none⟩)) := HQ2.out.c 0 (by simp)
        go_wp2_with fail
        refine (HTG.out _ g HP2.out).mono ?_; rintro e w3 ⟨rfl, hb3⟩
        have HD3 := Lib.hid (bel_call HD2.out hb3)
        have HX3 := Lib.hid (HX2.out.below (by simp) hb3)
        have HV3 := Lib.hid (HV2.out.later hb3)
        have HP3 := Lib.hid (HP2.out.later hb3)
        have HQ3 := Lib.hid (HQ2.out.below (by simp) hb3)
        clear hb3
        clear c0 c1 c2 c3 cq
        obtain ⟨c0, c1, c2, c3⟩ := HX3.out.four
        have cq : w3.cell? ⟨q, 0, none⟩ = some (.pointer (some ⟨g, 0, none⟩)) := HQ3.out.c 0 (by simp)
        go_wp2_with fail
        go_ret
        exact ⟨by rw [HR.out]; rfl, HB0.out.trans (HD3.out.mono HB0.out.size)⟩
end Go.Proofs.YtkoohdacneflfaaGreatDoor

/-
  Write.
-/
namespace Go.Proofs.YtkoohdacneflfaaGreatDoor
open Go.RowKit Go.Shelf
set_option linter.unusedVariables false
set_option linter.unusedSimpArgs false
set_option maxRecDepth 100000

theorem join_flat (L : List (List UInt8)) : Lib.join L [] = L.flatten := by
  unfold Lib.join List.intercalate
  induction L with
  | nil => rfl
  | cons x r ih =>
    cases r with
    | nil => simp
    | cons y r => simp only [List.intersperse_cons_cons, List.flatten_cons, List.nil_append] at ih ⊢; rw [ih]
theorem joinE_any {w : World} {B : Nat} {v : Value} (L : List (List UInt8)) (ho : OwnT w B v L) (h0 : 0 < L.length) (hl : L.length ≤ 1000000) (hm : L.flatten.length ≤ 140737488355328) :
    Calls Tryz.prog 43 #[v, .string ⟨#[]⟩] w (Tells w (.string (bs L.flatten))) := by
  have hst := ho.st
  obtain ⟨a, c, rfl⟩ := ho.shape
  obtain ⟨b, off, rfl, _, hb, hc⟩ := st_at hst h0
  have hcap : L.length ≤ c := by
    obtain ⟨_, _, e, h, _⟩ := hst
    injection e with _ _ e3
    rw [e3]; exact h
  have e1 : (L.map bs).map (fun x : ByteArray => x.data.toList) = L := by
    rw [List.map_map]
    conv => rhs; rw [← List.map_id L]
    apply List.map_congr_left
    intro x _
    rfl
  have e2 : Lib.join ((L.map bs).map (fun x : ByteArray => x.data.toList)) (⟨#[]⟩ : ByteArray).data.toList = L.flatten := by rw [e1]; exact join_flat L
  have h := Tryz.strings_Join b off c (L.map bs) ⟨#[]⟩ w (fun j x hj => by
    rw [List.getElem?_map] at hj
    have hjl : j < L.length := by
      apply Classical.byContradiction
      intro hn
      rw [List.getElem?_eq_none (by omega)] at hj
      cases hj
    rw [List.getElem?_eq_getElem hjl] at hj
    injection hj with hj
    rw [hc j hjl, ← hj]) hb (by rw [List.length_map]; omega) (by rw [List.length_map]; exact hcap) (by rw [e2]; exact hm)
  rw [List.length_map] at h
  refine h.mono ?_
  rintro e w' ⟨rfl, hb⟩
  rw [e2]
  exact ⟨rfl, hb⟩

theorem mayH_parts {h : Hd} (hm : mayH h = true) : (h.m.length ≤ 16 ∧ h.t.length ≤ 2048) ∧ (h.v = 0 ∨ h.v = 1) ∧ h.fs.length ≤ 32 ∧ (wrH h).length ≤ 4096 := by
  unfold mayH wordL tgtL at hm
  simp only [Bool.and_eq_true, decide_eq_true_eq, Bool.or_eq_true, beq_iff_eq] at hm
  obtain ⟨⟨_, h1, _⟩, ⟨⟨_, h2, _⟩, _⟩, h3, h4, _, _, h5⟩ := hm
  exact ⟨⟨h1, h2⟩, h3, h4, h5⟩

/-- What Write tells. -/
def WrPost (w : World) (h : Hd) (e : Ending) (w' : World) : Prop := ∃ v, e = .returned (.tuple #[v, .int .i64 (chkH h)]) ∧ OwnB w' w.heap.size v (if mayH h = true then wrH h else []) ∧ Below w.heap.size w w'

set_option maxHeartbeats 4000000 in
theorem write_any {w : World} {hi : Nat} {u : Value} {h : Hd} (hh : Hv w hi u h) (h1 : hi ≤ w.heap.size) (hb : Big h) :
    Calls Tryz.prog 32 #[u] w (WrPost w h) := by
  obtain ⟨m, t, v, l⟩ := h
  have HH := Lib.hid hh
  obtain ⟨sl, rfl, hs0⟩ := hh
  simp only at hs0
  obtain ⟨a, c, rfl⟩ := Lst.shape hs0
  have hb0 : Below w.heap.size w (w.alloc (.cells #[.string (bs m), .string (bs t), .int .i64 v, .slice a l.length c] 42)) := (Below.refl _ _).alloc (Nat.le_refl _) _
  have hx := cel_new4 w (.string (bs m)) (.string (bs t)) (.int .i64 v) (.slice a l.length c) 42
  have hv0 : Hv (w.alloc (.cells #[.string (bs m), .string (bs t), .int .i64 v, .slice a l.length c] 42)) (w.alloc (.cells #[.string (bs m), .string (bs t), .int .i64 v, .slice a l.length c] 42)).heap.size (.agg #[.string (bs m), .string (bs t), .int .i64 v, .slice a l.length c]) ⟨m, t, v, l⟩ := ((HH.out.wide h1).later hb0)
  obtain ⟨N, hN⟩ : ∃ N, w.heap.size = N := ⟨_, rfl⟩
  rw [hN] at hx
  have HB0 := Lib.hid hb0
  have HX0 := Lib.hid hx
  obtain ⟨W, hW⟩ : ∃ W, w.alloc (.cells #[.string (bs m), .string (bs t), .int .i64 v, .slice a l.length c] 42) = W := ⟨_, rfl⟩
  rw [hW] at HB0 HX0 hv0
  have HV0 := Lib.hid hv0
  have HCK := Lib.hid (check_any hv0 (Nat.le_refl _) hb)
  have HMP := Lib.hid (fun hm => mayH_parts (h := ⟨m, t, v, l⟩) hm)
  have HPL := Lib.hid (pcs_len ⟨m, t, v, l⟩)
  have HWR := Lib.hid (show (pcs ⟨m, t, v, l⟩).flatten = wrH ⟨m, t, v, l⟩ from rfl)
  have HCD := Lib.hid (show chkH ⟨m, t, v, l⟩ = if mayH ⟨m, t, v, l⟩ = true then 0 else 2 from rfl)
  unfold WrPost
  obtain ⟨B, hB⟩ : ∃ B, mayH ⟨m, t, v, l⟩ = B := ⟨_, rfl⟩
  rw [hB] at HMP HCD ⊢
  rw [HCD.out] at HCK ⊢
  obtain ⟨c0, c1, c2, c3⟩ := HX0.out.four
  clear hs0 hb0 hx hv0 hb hB
  cases B with
  | false =>
    have HCK : Hid (Calls Tryz.prog 42 #[.agg #[.string (bs m), .string (bs t), .int .i64 v, .slice a l.length c]] W (Tells W (.int .i64 2))) := HCK
    go_enter Tryz.func32, Tryz.ntmps32
    go_wp2_with fail
    refine (HCK.out).mono ?_; rintro e w1 ⟨rfl, hb1⟩
    have HB1 := Lib.hid (HB0.out.trans (hb1.mono HB0.out.size))
    clear hb1
    go_wp2_with fail
    go_ret2
    exact ⟨_, rfl, OwnB.nil _ _, by rw [← hN]; exact HB1.out⟩
  | true =>
    have HCK : Hid (Calls Tryz.prog 42 #[.agg #[.string (bs m), .string (bs t), .int .i64 v, .slice a l.length c]] W (Tells W (.int .i64 0))) := HCK
    have hmp := HMP.out rfl
    go_enter Tryz.func32, Tryz.ntmps32
    go_wp2_with fail
    refine (HCK.out).mono ?_; rintro e w1 ⟨rfl, hb1⟩
    have HB1 := Lib.hid (HB0.out.trans (hb1.mono HB0.out.size))
    have HV1 := Lib.hid (HV0.out.later hb1)
    have HX1 := Lib.hid (HX0.out.below (by simp) hb1)
    clear hb1 c0 c1 c2 c3
    obtain ⟨c0, c1, c2, c3⟩ := HX1.out.four
    have HPC := Lib.hid (pieces_any HV1.out (Nat.le_refl _) hmp.2.1 (by have h6 := hmp.2.2.1; exact Nat.le_trans h6 (by omega)))
    have HMM := Lib.hid hmp
    clear hmp
    go_wp2_with fail
    refine (HPC.out).mono ?_; rintro e w2 ⟨v2, rfl, ho2, hb2⟩
    have HB2 := Lib.hid (HB1.out.trans (hb2.mono HB1.out.size))
    have HJ := Lib.hid (joinE_any (pcs ⟨m, t, v, l⟩) ho2 (by rw [HPL.out]; omega) (by rw [HPL.out]; have h6 : l.length ≤ 32 := HMM.out.2.2.1; show 4 * l.length + 7 ≤ 1000000; omega) (by rw [HWR.out]; have := HMM.out.2.2.2; omega))
    rw [HWR.out] at HJ
    obtain ⟨a2, k2, rfl⟩ := ho2.shape
    have HL4 := Lib.hid HMM.out.2.2.2
    obtain ⟨Z, hZ⟩ : ∃ Z, wrH ⟨m, t, v, l⟩ = Z := ⟨_, rfl⟩
    rw [hZ] at HJ HL4
    have HZ := Lib.hid hZ
    clear hb2 ho2 hZ c0 c1 c2 c3
    go_wp2_with fail
    refine (HJ.out).mono ?_; rintro e w3 ⟨rfl, hb3⟩
    have HB3 := Lib.hid (HB2.out.trans (hb3.mono HB2.out.size))
    clear hb3
    obtain ⟨cap, X, hcv, ho, hbX, _⟩ := conv_B w3 Z (by have := HL4.out; omega)
    have HOX := Lib.hid (ho.mono HB3.out.size)
    have HBX := Lib.hid (HB3.out.trans (hbX.mono HB3.out.size))
    clear ho hbX
    go_wp2_with fail
    go_ret2
    exact ⟨.slice (some ⟨w3.heap.size, 0, none⟩) Z.length cap, rfl, by simp only [if_true, HZ.out]; rw [← hN]; exact HOX.out, by rw [← hN]; exact HBX.out⟩
end Go.Proofs.YtkoohdacneflfaaGreatDoor

/-
  The document's bytes of a head.
-/
namespace Go.Proofs.YtkoohdacneflfaaGreatDoor
open Go.RowKit Go.Shelf
set_option linter.unusedVariables false
set_option linter.unusedSimpArgs false
set_option maxRecDepth 100000

theorem adds_run (a b : List UInt8) (ha : a.length ≤ 1000000) (hb : b.length ≤ 1000000) (w : World) : (Op.stringOp .add (bs a) (bs b)).run Tryz.prog w = .ok (.string (bs (a ++ b))) w := by
  have h1 := bs_size a
  have h2 := bs_size b
  rw [run_string_add_sum w _ _ (by omega)]
  congr 2
end Go.Proofs.YtkoohdacneflfaaGreatDoor

/-
  The statement HeadWrites.
-/
namespace Go.Proofs.YtkoohdacneflfaaGreatDoor
open Go.RowKit Go.Shelf
set_option linter.unusedVariables false
set_option linter.unusedSimpArgs false
set_option maxRecDepth 100000

theorem OwnF.lt {w : World} {B : Nat} {v : Value} {l : List Fd} (h : OwnF w B v l) : ∀ k, v.ownBlock = some k → B ≤ k ∧ k < w.heap.size := World.ownsRow.lt h
end Go.Proofs.YtkoohdacneflfaaGreatDoor
