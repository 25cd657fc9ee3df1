/-
  The document's own: a message's bytes (Write).
-/
import Derived.Test.YteegekpanadmkaaGreatU00
import Derived.Test.YteegekpanadmkaaGreatV07
import Derived.Test.YteegekpanadmkaaGreatV13
import Derived.Test.YteegekpanadmkaaGreatV15
import Derived.Test.YteegekpanadmkaaGreatV11
namespace Go.Proofs.YteegekpanadmkaaGreat
open Go.RowKit Go.Shelf
set_option linter.unusedVariables false
set_option linter.unusedSimpArgs false
set_option maxRecDepth 100000
set_option maxHeartbeats 4000000 in
theorem rwriteM_no {w : World} {hi : Nat} {u : Value} {m : Ms} (h : Mg w hi u m) (h1 : hi ≤ w.heap.size) (hf : m.Fine) (hE : chkM m ≠ 0) (hn : m.q.length + m.an.length + m.ns.length + m.ar.length ≤ 1100) :
    Calls Tryz.prog 37 #[u] w (MWPost w (none, chkM m)) := by
  have HC := Lib.hid (fun wx (hb : Below w.heap.size w wx) => rcheckM_any (h.below hb h1) (Nat.le_trans h1 hb.size) hf (by omega))
  obtain ⟨q, a, n, r, rfl, k1, k2, k3, k4⟩ := h
  obtain ⟨i0, hi0⟩ : ∃ i, m.id = i := ⟨_, rfl⟩
  obtain ⟨i1, hi1⟩ : ∃ i, m.fl = i := ⟨_, rfl⟩
  obtain ⟨E, hEE⟩ : ∃ E, chkM m = E := ⟨_, rfl⟩
  rw [hi0, hi1, hEE] at HC
  rw [hi0, hi1, hEE]
  rw [hEE] at hE
  have tE : (E != 0) = true := by simpa using hE
  have hb0 : Below w.heap.size w (w.alloc (.cells #[.int .i64 i0, .int .i64 i1, q, a, n, r] 25)) := (Below.refl _ _).alloc (Nat.le_refl _) _
  have HX := Lib.hid (cel_new6 w (.int .i64 i0) (.int .i64 i1) q a n r 25)
  have HB := Lib.hid hb0
  obtain ⟨c0, c1, c2, c3, c4, c5⟩ := HX.out.six
  clear k1 k2 k3 k4 hb0 hi0 hi1 hEE h1 hf
  go_enter Tryz.func37, Tryz.ntmps37
  go_wp2_with fail
  refine (HC.out _ HB.out).mono ?_; rintro e w1 ⟨rfl, hb⟩
  replace HB := Lib.hid (bel_call HB.out hb)
  clear hb c0 c1 c2 c3 c4 c5
  go_wp2_with fail
  go_ret2
  exact ⟨_, rfl, OwnB.nil _ _, HB.out⟩
theorem flat_next (L : List Int) (k : Nat) (hk : k < L.length) : (L.take (k + 1)).flatMap two = (L.take k).flatMap two ++ two L[k] := by
  rw [List.take_add_one, List.getElem?_eq_getElem hk, List.flatMap_append]
  simp
theorem flat_two (L : List Int) : (L.flatMap two).length = 2 * L.length := by
  induction L with
  | nil => rfl
  | cons a L ih => rw [List.flatMap_cons, List.length_append, ih, two_l, List.length_cons]; omega
set_option maxHeartbeats 16000000 in
theorem rwriteM_yes {w : World} {hi : Nat} {u : Value} {m : Ms} (h : Mg w hi u m) (h1 : hi ≤ w.heap.size) (hf : m.Fine) (h0 : chkM m = 0) (hn : m.q.length + m.an.length + m.ns.length + m.ar.length ≤ 1100) :
    Calls Tryz.prog 37 #[u] w (MWPost w (wrM m)) := by
  rw [wrM_fin h0]
  have HC := Lib.hid (fun wx (hb : Below w.heap.size w wx) => rcheckM_any (h.below hb h1) (Nat.le_trans h1 hb.size) hf (by omega))
  rw [h0] at HC
  obtain ⟨l0, l1, l2, l3, z0, z1, z2, z3, _⟩ := chkM_ok h0
  obtain ⟨q, a, n, r, rfl, k1, k2, k3, k4⟩ := h
  rw [its_parts]
  obtain ⟨hfq, hfa, hfn, hfr⟩ := hf
  clear h0
  obtain ⟨i0, i1, ql, al, nl, rl⟩ := m
  simp only at hfq hfa hfn hfr k1 k2 k3 k4 z0 z1 z2 z3 l0 l1 l2 l3 hn HC ⊢
  obtain ⟨qa, qc, rfl⟩ := Lst.shape k1
  obtain ⟨aa, ac, rfl⟩ := Lst.shape k2
  obtain ⟨na, nc, rfl⟩ := Lst.shape k3
  obtain ⟨ra, rc, rfl⟩ := Lst.shape k4
  obtain ⟨lq, hlq⟩ : ∃ i, ql.length = i := ⟨_, rfl⟩
  obtain ⟨la, hla⟩ : ∃ i, al.length = i := ⟨_, rfl⟩
  obtain ⟨ln, hln⟩ : ∃ i, nl.length = i := ⟨_, rfl⟩
  obtain ⟨lr, hlr⟩ : ∃ i, rl.length = i := ⟨_, rfl⟩
  obtain ⟨L, hL⟩ : ∃ L : List Int, [i0, i1, (lq : Int), (la : Int), (ln : Int), (lr : Int)] = L := ⟨_, rfl⟩
  have hhd : headM ⟨i0, i1, ql, al, nl, rl⟩ = L.flatMap two := by rw [← hL]; simp [headM, hlq, hla, hln, hlr]
  have hL6 : L.length = 6 := by rw [← hL]; rfl
  have hLb : ∀ x ∈ L, 0 ≤ x ∧ x ≤ 65535 := by
    rw [← hL]
    intro x hx
    simp only [List.mem_cons, List.not_mem_nil, or_false] at hx
    rcases hx with rfl | rfl | rfl | rfl | rfl | rfl <;> omega
  rw [hhd]
  rw [hlq, hla, hln, hlr] at hn HC ⊢
  obtain ⟨RO, hRO⟩ : ∃ x, wrIs ((ql.drop 0).map It.q ++ (al.map It.r ++ (nl.map It.r ++ (rl.map It.r ++ [])))) (L.flatMap two) [] 0 = x := ⟨_, rfl⟩
  rw [hRO]
  have HRO := Lib.hid hRO
  have HNS := Lib.hid hn
  have HL6 := Lib.hid hL6
  have HLB := Lib.hid hLb
  have HLL := Lib.hid hL
  have HFQ := Lib.hid (fun j (hj : j < ql.length) => hfq ql[j] (List.getElem_mem hj))
  have HFA := Lib.hid (fun j (hj : j < al.length) => hfa al[j] (List.getElem_mem hj))
  have HFN := Lib.hid (fun j (hj : j < nl.length) => hfn nl[j] (List.getElem_mem hj))
  have HFR := Lib.hid (fun j (hj : j < rl.length) => hfr rl[j] (List.getElem_mem hj))
  have HQ := Lib.hid (fun wx (hb : Below w.heap.size w wx) => (show SQ wx hi _ ql from Lst.below k1 hb h1))
  have HA := Lib.hid (fun wx (hb : Below w.heap.size w wx) => (show SR wx hi _ al from Lst.below k2 hb h1))
  have HN := Lib.hid (fun wx (hb : Below w.heap.size w wx) => (show SR wx hi _ nl from Lst.below k3 hb h1))
  have HR := Lib.hid (fun wx (hb : Below w.heap.size w wx) => (show SR wx hi _ rl from Lst.below k4 hb h1))
  rw [hlq] at HQ
  rw [hla] at HA
  rw [hln] at HN
  rw [hlr] at HR
  have HLQ := Lib.hid hlq
  have HLA := Lib.hid hla
  have HLN := Lib.hid hln
  have HLR := Lib.hid hlr
  have hb0 : Below w.heap.size w (w.alloc (.cells #[.int .i64 i0, .int .i64 i1, .slice qa lq qc, .slice aa la ac, .slice na ln nc, .slice ra lr rc] 25)) := (Below.refl _ _).alloc (Nat.le_refl _) _
  have hx := cel_new6 w (.int .i64 i0) (.int .i64 i1) (.slice qa lq qc) (.slice aa la ac) (.slice na ln nc) (.slice ra lr rc) 25
  obtain ⟨N, hN⟩ : ∃ N, w.heap.size = N := ⟨_, rfl⟩
  rw [hN] at hx
  have HX := Lib.hid hx
  have HB := Lib.hid hb0
  have HNW := Lib.hid hN
  obtain ⟨c0, c1, c2, c3, c4, c5⟩ := hx.six
  clear hRO hL6 hLb hL hhd hfq hfa hfn hfr k1 k2 k3 k4 h1 hlq hla hln hlr hb0 hx hn l0 l1 l2 l3 z0 z1 z2 z3
  go_enter Tryz.func37, Tryz.ntmps37
  go_wp2_with fail
  clear hN
  refine (HC.out _ HB.out).mono ?_; rintro e w1 ⟨rfl, hb⟩
  replace HB := Lib.hid (bel_call HB.out hb)
  replace HX := Lib.hid (HX.out.below (by simp) hb)
  clear hb c0 c1 c2 c3 c4 c5
  obtain ⟨c0, c1, c2, c3, c4, c5⟩ := HX.out.six
  go_wp2_with fail
  clear c0 c1 c2 c3 c4 c5
  obtain ⟨g1, hg1⟩ : ∃ g, w1.heap.size = g := ⟨_, rfl⟩
  have hal : Below w1.heap.size w1 (w1.alloc (.cells #[.int .i64 i0, .int .i64 i1, .int .i64 lq, .int .i64 la, .int .i64 ln, .int .i64 lr] 3)) := (Below.refl _ _).alloc (Nat.le_refl _) _
  have hbk : Blk (w1.alloc (.cells #[.int .i64 i0, .int .i64 i1, .int .i64 lq, .int .i64 la, .int .i64 ln, .int .i64 lr] 3)) w1.heap.size (L.map (Value.int .i64)) 3 := by rw [← HLL.out]; exact Blk.new _ _ _
  obtain ⟨W1, hW1⟩ : ∃ W, w1.alloc (.cells #[.int .i64 i0, .int .i64 i1, .int .i64 lq, .int .i64 la, .int .i64 ln, .int .i64 lr] 3) = W := ⟨_, rfl⟩
  rw [hW1] at hal hbk ⊢
  rw [hg1] at hbk ⊢
  replace HB := Lib.hid (bel_call HB.out hal)
  replace HX := Lib.hid (HX.out.below (by simp) hal)
  have HK := Lib.hid hbk
  clear hal hbk hW1 hg1
  go_loopg [5, 7] 6 (fun g v5 v7 wr => ∃ (k : Nat) (ab : Option Addr) (cb : Nat), k + g = 6 ∧ v7 = .int .i64 k ∧ v5 = .slice ab (2 * k) cb ∧ Hid (OwnB wr (N + 1) (.slice ab (2 * k) cb) ((L.take k).flatMap two)) ∧ Hid (Below w.heap.size w wr) ∧ Hid (Cel wr N [.int .i64 i0, .int .i64 i1, .slice qa lq qc, .slice aa la ac, .slice na ln nc, .slice ra lr rc]) ∧ Hid (Blk wr g1 (L.map (Value.int .i64)) 3))
  case atStart => exact ⟨0, none, 0, by omega, rfl, rfl, OwnB.nil _ _, HB, HX, HK⟩
  case round =>
    obtain ⟨k, ab, cb, hk, rfl, rfl, HO, HBr, HXr, HKr⟩ := hrel
    clear HB HX HK
    by_cases hlt : k < 6
    · have hkl : k < L.length := by rw [HL6.out]; exact hlt
      have hzb := HLB.out _ (List.getElem_mem hkl)
      have hck := HKr.out.cell k (.int .i64 L[k]) (by rw [List.getElem?_map, List.getElem?_eq_getElem hkl]; rfl)
      have hfn := flat_next L k hkl
      have hln := flat_two (L.take k)
      rw [List.length_take, HL6.out, Nat.min_eq_left (by omega)] at hln
      obtain ⟨z, hz⟩ : ∃ z, L[k] = z := ⟨_, rfl⟩
      rw [hz] at hzb hck hfn
      have hpt := fun wx => rput16_any z wx
      unfold RPost at hpt
      have e1 : putE 65535 z = 0 := by unfold putE; rw [if_pos hzb]
      rw [e1, ← iz_two z hzb.1 hzb.2] at hpt
      have HPT := Lib.hid hpt
      have HFN := Lib.hid hfn
      have HLN2 := Lib.hid hln
      clear hpt e1 hfn hz hkl hzb hln
      go_wp2_with fail
      refine (HPT.out _).mono ?_; rintro e w2 ⟨v8, rfl, ho, hb⟩
      replace HO := Lib.hid (HO.out.below hb)
      replace HBr := Lib.hid (bel_call HBr.out hb)
      replace HXr := Lib.hid (HXr.out.below (by simp) hb)
      replace HKr := Lib.hid (HKr.out.below hb)
      obtain ⟨a2, c2, w3, hrun, ho2, ha⟩ := run_appBs (N + 1) (.slice ab (2 * k) cb) v8 ((L.take k).flatMap two) (two z) HO.out ho.sl (by rw [HLN2.out, two_l]; omega) (HXr.out.lt (by simp))
      rw [HLN2.out, two_l, show 2 * k + 2 = 2 * (k + 1) by omega] at hrun ho2
      rw [← HFN.out] at ho2
      have hlt2 := HO.out.lt
      have HK3 := Lib.hid (HKr.out.app HO.out ha (by decide))
      have HX3 := Lib.hid (HXr.out.aside (by simp) ha (fun hg => by have := (hlt2 _ hg).1; omega))
      have HB3 := Lib.hid (below_aside HBr.out ha fun k hk => ⟨Nat.lt_of_lt_of_le hk HBr.out.size, fun hg => by have := (hlt2 _ hg).1; have := HNW.out; omega⟩)
      have HRUN := Lib.hid hrun
      have HO3 := Lib.hid ho2
      clear hb ho hrun ho2 ha hlt2 hck HO HBr HXr HKr HPT
      go_wp2_with (at_builtin; refine wpList_append_run (.tmp 55) (.tmp 56) 28 28 rfl rfl rfl rfl HRUN.out ?_)
      go_roundg (6 - (k + 1))
      case measure => omega
      case rel => exact ⟨k + 1, a2, c2, by omega, by go_num, rfl, HO3, HB3, HX3, HK3⟩
    · have hk6 : k = 6 := by omega
      subst hk6
      have HO2 := HO
      rw [show (L.take 6).flatMap two = L.flatMap two by rw [List.take_of_length_le (by rw [HL6.out]; exact Nat.le_refl _)]] at HO2
      have t1 : ¬ ((6 : Int) < 6) := by omega
      clear HO HKr hk hlt
      obtain ⟨c0, c1, c2, c3, c4, c5⟩ := HXr.out.six
      go_wp2_with fail
      clear c0 c1 c2 c3 c4 c5 t1
      have hal := bel_alloc (Below.refl wr.heap.size wr) (.cells #[.slice none 0 0, .int .i64 0] 110)
      have hpk : Rk (wr.alloc (.cells #[.slice none 0 0, .int .i64 0] 110)) (wr.heap.size + 1) wr.heap.size (.slice none 0 0) [] 0 := ⟨by simp [go_sem], by simp [go_sem], fun j => by simp [go_sem], OwnK.nil _ _, Nat.lt_succ_self _, by simp⟩
      have hv : V0 w (wr.alloc (.cells #[.slice none 0 0, .int .i64 0] 110)) N wr.heap.size [.int .i64 i0, .int .i64 i1, .slice qa lq qc, .slice aa la ac, .slice na ln nc, .slice ra lr rc] (.slice ab 12 cb) (.slice none 0 0) (L.flatMap two) [] 0 := ⟨HXr.out.below (by simp) hal, by simp, HO2.out.below hal, hpk, bel_call HBr.out hal, HNW.out, HXr.out.lt (by simp)⟩
      obtain ⟨q, hq⟩ : ∃ q, wr.heap.size = q := ⟨_, rfl⟩
      obtain ⟨W2, hW2⟩ : ∃ W, wr.alloc (.cells #[.slice none 0 0, .int .i64 0] 110) = W := ⟨_, rfl⟩
      rw [hq, hW2] at hv
      rw [hq, hW2]
      have HV := Lib.hid hv
      have HZ := Lib.hid (show (L.flatMap two).length = 12 by rw [flat_two, HL6.out])
      clear hal hpk hv hq hW2 HO2 HBr HXr
      go_loopg [5, 11] lq (fun g v5 vi wr => ∃ (k : Nat) (K : KK) (e : Nat) (vr : Value) (b : List UInt8) (z : Nat) (ab : Option Addr) (cb : Nat), k + g = lq ∧ vi = .int .i64 k ∧ v5 = .slice ab z cb ∧ Hid (V0 w wr N q [.int .i64 i0, .int .i64 i1, .slice qa lq qc, .slice aa la ac, .slice na ln nc, .slice ra lr rc] (.slice ab z cb) vr b K e) ∧ Hid (b.length = z) ∧ z ≤ 65535 ∧ K.length ≤ 600 * (0 + k) ∧ e ≤ 66000 ∧ Hid (GoodK K) ∧ Hid (wrIs ((ql.drop k).map It.q ++ (al.map It.r ++ (nl.map It.r ++ (rl.map It.r ++ [])))) b K e = RO))
      case atStart => exact ⟨0, [], 0, _, _, 12, _, _, by omega, rfl, rfl, HV, HZ, by omega, by simp, by omega, good_nil, HRO⟩
      case round =>
        obtain ⟨k, K, e, vr, b, z, ab, cb, hk, rfl, rfl, HV, HZ, hz, hKl, he66, HG, HW⟩ := hrel
        have hns := HNS.out
        by_cases hlt : k < lq
        · have hkl : k < ql.length := by rw [HLQ.out]; exact hlt
          obtain ⟨g0, off, cc, he, hb, hc⟩ := (HQ.out _ HV.out.bel).at_ k hkl
          injection he with he hn3 hc3
          clear hn3 hc3
          subst he
          obtain ⟨d0, d1, d2⟩ := hc
          have hfl := HFQ.out k hkl
          have hst := HW.out
          rw [wrIs_step It.q ql _ k hkl] at hst
          obtain ⟨x, hx⟩ : ∃ x, ql[k] = x := ⟨_, rfl⟩
          rw [hx] at d0 d1 d2 hfl hst
          obtain ⟨n, t, c⟩ := x
          simp only at d0 d1 d2 hfl
          have hnx := wrI_next b (It.q ⟨n, t, c⟩) HG.out he66
          have hwe : wrI b K e (It.q ⟨n, t, c⟩) = askW (z : Int) n t c K e := by rw [← HZ.out]; rfl
          rw [hwe] at hnx hst
          have hcl := rask_any HV.out.pk HG.out (by have := HNS.out; omega) (z : Int) n hfl t c
          unfold RAskPost at hcl
          obtain ⟨X, hX⟩ : ∃ X, askW (z : Int) n t c K e = X := ⟨_, rfl⟩
          rw [hX] at hcl hnx hst
          obtain ⟨out, cd, K', e'⟩ := X
          simp only at hcl hnx hst
          obtain ⟨hG', hK', he', ho66⟩ := hnx
          have HCL := Lib.hid hcl
          have HST := Lib.hid hst
          have HG' := Lib.hid hG'
          obtain ⟨lo, hlo⟩ : ∃ l, out.length = l := ⟨_, rfl⟩
          have HLO := Lib.hid hlo
          rw [List.length_append, HZ.out, hlo] at HST
          rw [hlo] at ho66
          clear hx hwe hcl hX hst hG' hlo hb hfl hkl HW
          obtain ⟨c0, c1, c2, c3, c4, c5⟩ := HV.out.x.six
          go_wp2_with fail
          clear c0 c1 c2 c3 c4 c5 d0 d1 d2
          refine HCL.out.mono ?_; rintro e0 w4 ⟨v1, v2, rfl, ho, hrk, has, hkp⟩
          have hv4 := HV.out.ask has hrk
          obtain ⟨a5, k5, w5, hrun, hv5, ha⟩ := hv4.app ho.sl (by rw [HZ.out, HLO.out]; omega)
          clear ho
          rw [HZ.out, HLO.out] at hrun hv5
          have HV5 := Lib.hid hv5
          have HRUN := Lib.hid hrun
          clear hrk has hkp hv4 hrun hv5 ha HCL HV
          by_cases hcd : cd = 0
          · subst hcd
            by_cases h65 : 65535 < z + lo
            · have HE := Lib.hid (show RO = none by rw [← HST.out, if_pos (.inr h65)])
              have t2 : decide ((65535 : Int) < ((z + lo : Nat) : Int)) = true := by simp; omega
              have t2b : decide ((65535 : Int) < (z : Int) + (lo : Int)) = true := by simp; omega
              go_wp2_with (at_builtin; refine wpList_append_run (.tmp 79) (.tmp 80) 28 28 rfl rfl rfl rfl HRUN.out ?_)
              go_ret2
              rw [HE.out]
              exact ⟨_, rfl, OwnB.nil _ _, HV5.out.bel⟩
            · have t2 : decide ((65535 : Int) < ((z + lo : Nat) : Int)) = false := by simp; omega
              have t2b : decide ((65535 : Int) < (z : Int) + (lo : Int)) = false := by simp; omega
              have HW2 := Lib.hid HST.out
              rw [if_neg (by rintro (h | h); exact h rfl; exact h65 h)] at HW2
              have HZ5 := Lib.hid (show (b ++ out).length = z + lo by rw [List.length_append, HZ.out, HLO.out])
              go_wp2_with (at_builtin; refine wpList_append_run (.tmp 79) (.tmp 80) 28 28 rfl rfl rfl rfl HRUN.out ?_)
              go_roundg (lq - (k + 1))
              case measure => omega
              case rel => exact ⟨k + 1, K', e', v2, b ++ out, z + lo, a5, k5, by omega, by go_num, rfl, HV5, HZ5, by omega, by omega, he', HG', HW2⟩
          · have tC : (cd != 0) = true := by simpa using hcd
            have HE := Lib.hid (show RO = none by rw [← HST.out, if_pos (.inl hcd)])
            go_wp2_with (at_builtin; refine wpList_append_run (.tmp 79) (.tmp 80) 28 28 rfl rfl rfl rfl HRUN.out ?_)
            go_ret2
            rw [HE.out]
            exact ⟨_, rfl, OwnB.nil _ _, HV5.out.bel⟩
        · have hke : k = lq := by omega
          have HW3 := Lib.hid HW.out
          rw [wrIs_end It.q ql _ k (by rw [HLQ.out]; omega)] at HW3
          have t1 : ¬ ((k : Int) < lq) := by omega
          clear HW
          obtain ⟨c0, c1, c2, c3, c4, c5⟩ := HV.out.x.six
          go_wp2_with fail
          clear c0 c1 c2 c3 c4 c5 t1
          have hal : Below wr.heap.size wr (wr.alloc (.cells #[.slice aa la ac, .slice na ln nc, .slice ra lr rc] 23)) := (Below.refl _ _).alloc (Nat.le_refl _) _
          have hbk : Blk (wr.alloc (.cells #[.slice aa la ac, .slice na ln nc, .slice ra lr rc] 23)) wr.heap.size [.slice aa la ac, .slice na ln nc, .slice ra lr rc] 23 := Blk.new _ _ _
          have hgq := HV.out.pk.size
          replace HV := Lib.hid (HV.out.later hal)
          obtain ⟨g2, hg2⟩ : ∃ g, wr.heap.size = g := ⟨_, rfl⟩
          obtain ⟨W3, hW3⟩ : ∃ W, wr.alloc (.cells #[.slice aa la ac, .slice na ln nc, .slice ra lr rc] 23) = W := ⟨_, rfl⟩
          rw [hW3] at hbk HV ⊢
          rw [hg2] at hbk hgq ⊢
          have HGQ := Lib.hid (show q < g2 by omega)
          have HY := Lib.hid hbk
          clear hal hbk hgq hg2 hW3
          refine wp_loop_rounds 4 ?_
          rw [rounds_succ]
          go_wp2_with fail
          have HW4 := Lib.hid (show wrIs ((al.drop 0).map It.r ++ (nl.map It.r ++ (rl.map It.r ++ []))) b K e = RO by rw [List.drop_zero]; exact HW3.out)
          go_loopg [5, 16] la (fun g v5 vi wr => ∃ (k : Nat) (K : KK) (e : Nat) (vr : Value) (b : List UInt8) (z : Nat) (ab : Option Addr) (cb : Nat), k + g = la ∧ vi = .int .i64 k ∧ v5 = .slice ab z cb ∧ Hid (V0 w wr N q [.int .i64 i0, .int .i64 i1, .slice qa lq qc, .slice aa la ac, .slice na ln nc, .slice ra lr rc] (.slice ab z cb) vr b K e) ∧ Hid (b.length = z) ∧ z ≤ 65535 ∧ K.length ≤ 600 * (lq + k) ∧ e ≤ 66000 ∧ Hid (GoodK K) ∧ Hid (wrIs ((al.drop k).map It.r ++ (nl.map It.r ++ (rl.map It.r ++ []))) b K e = RO) ∧ Hid (Blk wr g2 [.slice aa la ac, .slice na ln nc, .slice ra lr rc] 23))
          case atStart => exact ⟨0, K, e, vr, b, z, ab, cb, by omega, rfl, rfl, HV, HZ, hz, by omega, he66, HG, HW4, HY⟩
          case round =>
            obtain ⟨k, K, e, vr, b, z, ab, cb, hk, rfl, rfl, HV, HZ, hz, hKl, he66, HG, HW, HY⟩ := hrel
            have hns := HNS.out
            by_cases hlt : k < la
            · have hkl : k < al.length := by rw [HLA.out]; exact hlt
              obtain ⟨g0, off, cc, he, hb, hc⟩ := (HA.out _ HV.out.bel).at_ k hkl
              injection he with he hn3 hc3
              clear hn3 hc3
              subst he
              obtain ⟨d0, d1, d2, d3, d4⟩ := hc
              have hfl := HFA.out k hkl
              have hst := HW.out
              rw [wrIs_step It.r al _ k hkl] at hst
              obtain ⟨x, hx⟩ : ∃ x, al[k] = x := ⟨_, rfl⟩
              rw [hx] at d0 d1 d2 d3 d4 hfl hst
              obtain ⟨n, t, c, tl, d⟩ := x
              simp only at d0 d1 d2 d3 d4 hfl
              have hnx := wrI_next b (It.r ⟨n, t, c, tl, d⟩) HG.out he66
              have hwe : wrI b K e (It.r ⟨n, t, c, tl, d⟩) = wrC (z : Int) ⟨n, t, c, tl, d⟩ K e := by rw [← HZ.out]; rfl
              rw [hwe] at hnx hst
              have hcl := rwriteC_any HV.out.pk HG.out (by have := HNS.out; omega) (z : Int) n t c tl d hfl.1 hfl.2
              unfold RWrPost at hcl
              obtain ⟨X, hX⟩ : ∃ X, wrC (z : Int) ⟨n, t, c, tl, d⟩ K e = X := ⟨_, rfl⟩
              rw [hX] at hcl hnx hst
              obtain ⟨out, cd, K', e'⟩ := X
              simp only at hcl hnx hst
              obtain ⟨hG', hK', he', ho66⟩ := hnx
              have HCL := Lib.hid hcl
              have HST := Lib.hid hst
              have HG' := Lib.hid hG'
              obtain ⟨lo, hlo⟩ : ∃ l, out.length = l := ⟨_, rfl⟩
              have HLO := Lib.hid hlo
              rw [List.length_append, HZ.out, hlo] at HST
              rw [hlo] at ho66
              clear hx hwe hcl hX hst hG' hlo hb hfl hkl HW
              obtain ⟨c0, c1, c2, c3, c4, c5⟩ := HV.out.x.six
              have y0 := HY.out.cell 0 _ rfl
              go_wp2_with fail
              clear c0 c1 c2 c3 c4 c5 d0 d1 d2 d3 d4 y0
              refine HCL.out.mono ?_; rintro e0 w4 ⟨v1, v2, rfl, hsl, hrk, has, hkp, hhd⟩
              have hv4 := HV.out.wrote has hhd hrk
              obtain ⟨a5, k5, w5, hrun, hv5, ha⟩ := hv4.app hsl (by rw [HZ.out, HLO.out]; omega)
              have HY5 := Lib.hid ((HY.out.hold hhd (by have := HGQ.out; omega) (by decide)).app hv4.row ha (by decide))
              clear hsl hhd
              rw [HZ.out, HLO.out] at hrun hv5
              have HV5 := Lib.hid hv5
              have HRUN := Lib.hid hrun
              clear hrk has hkp hv4 hrun hv5 ha HCL HV HY
              by_cases hcd : cd = 0
              · subst hcd
                by_cases h65 : 65535 < z + lo
                · have HE := Lib.hid (show RO = none by rw [← HST.out, if_pos (.inr h65)])
                  have t2 : decide ((65535 : Int) < ((z + lo : Nat) : Int)) = true := by simp; omega
                  have t2b : decide ((65535 : Int) < (z : Int) + (lo : Int)) = true := by simp; omega
                  go_wp2_with (at_builtin; refine wpList_append_run (.tmp 123) (.tmp 124) 28 28 rfl rfl rfl rfl HRUN.out ?_)
                  go_ret2
                  rw [HE.out]
                  exact ⟨_, rfl, OwnB.nil _ _, HV5.out.bel⟩
                · have t2 : decide ((65535 : Int) < ((z + lo : Nat) : Int)) = false := by simp; omega
                  have t2b : decide ((65535 : Int) < (z : Int) + (lo : Int)) = false := by simp; omega
                  have HW2 := Lib.hid HST.out
                  rw [if_neg (by rintro (h | h); exact h rfl; exact h65 h)] at HW2
                  have HZ5 := Lib.hid (show (b ++ out).length = z + lo by rw [List.length_append, HZ.out, HLO.out])
                  go_wp2_with (at_builtin; refine wpList_append_run (.tmp 123) (.tmp 124) 28 28 rfl rfl rfl rfl HRUN.out ?_)
                  go_roundg (la - (k + 1))
                  case measure => omega
                  case rel => exact ⟨k + 1, K', e', v2, b ++ out, z + lo, a5, k5, by omega, by go_num, rfl, HV5, HZ5, by omega, by omega, he', HG', HW2, HY5⟩
              · have tC : (cd != 0) = true := by simpa using hcd
                have HE := Lib.hid (show RO = none by rw [← HST.out, if_pos (.inl hcd)])
                go_wp2_with (at_builtin; refine wpList_append_run (.tmp 123) (.tmp 124) 28 28 rfl rfl rfl rfl HRUN.out ?_)
                go_ret2
                rw [HE.out]
                exact ⟨_, rfl, OwnB.nil _ _, HV5.out.bel⟩
            · have hke : k = la := by omega
              have HW3 := Lib.hid HW.out
              rw [wrIs_end It.r al _ k (by rw [HLA.out]; omega)] at HW3
              have t1 : ¬ ((k : Int) < la) := by omega
              clear HW
              have y0 := HY.out.cell 0 _ rfl
              go_wp2_with fail
              clear y0 t1
              rw [rounds_succ]
              go_wp2_with fail
              have HW4 := Lib.hid (show wrIs ((nl.drop 0).map It.r ++ (rl.map It.r ++ [])) b K e = RO by rw [List.drop_zero]; exact HW3.out)
              go_loopg [5, 16] ln (fun g v5 vi wr => ∃ (k : Nat) (K : KK) (e : Nat) (vr : Value) (b : List UInt8) (z : Nat) (ab : Option Addr) (cb : Nat), k + g = ln ∧ vi = .int .i64 k ∧ v5 = .slice ab z cb ∧ Hid (V0 w wr N q [.int .i64 i0, .int .i64 i1, .slice qa lq qc, .slice aa la ac, .slice na ln nc, .slice ra lr rc] (.slice ab z cb) vr b K e) ∧ Hid (b.length = z) ∧ z ≤ 65535 ∧ K.length ≤ 600 * ((lq + la) + k) ∧ e ≤ 66000 ∧ Hid (GoodK K) ∧ Hid (wrIs ((nl.drop k).map It.r ++ (rl.map It.r ++ [])) b K e = RO) ∧ Hid (Blk wr g2 [.slice aa la ac, .slice na ln nc, .slice ra lr rc] 23))
              case atStart => exact ⟨0, K, e, vr, b, z, ab, cb, by omega, rfl, rfl, HV, HZ, hz, by omega, he66, HG, HW4, HY⟩
              case round =>
                obtain ⟨k, K, e, vr, b, z, ab, cb, hk, rfl, rfl, HV, HZ, hz, hKl, he66, HG, HW, HY⟩ := hrel
                have hns := HNS.out
                by_cases hlt : k < ln
                · have hkl : k < nl.length := by rw [HLN.out]; exact hlt
                  obtain ⟨g0, off, cc, he, hb, hc⟩ := (HN.out _ HV.out.bel).at_ k hkl
                  injection he with he hn3 hc3
                  clear hn3 hc3
                  subst he
                  obtain ⟨d0, d1, d2, d3, d4⟩ := hc
                  have hfl := HFN.out k hkl
                  have hst := HW.out
                  rw [wrIs_step It.r nl _ k hkl] at hst
                  obtain ⟨x, hx⟩ : ∃ x, nl[k] = x := ⟨_, rfl⟩
                  rw [hx] at d0 d1 d2 d3 d4 hfl hst
                  obtain ⟨n, t, c, tl, d⟩ := x
                  simp only at d0 d1 d2 d3 d4 hfl
                  have hnx := wrI_next b (It.r ⟨n, t, c, tl, d⟩) HG.out he66
                  have hwe : wrI b K e (It.r ⟨n, t, c, tl, d⟩) = wrC (z : Int) ⟨n, t, c, tl, d⟩ K e := by rw [← HZ.out]; rfl
                  rw [hwe] at hnx hst
                  have hcl := rwriteC_any HV.out.pk HG.out (by have := HNS.out; omega) (z : Int) n t c tl d hfl.1 hfl.2
                  unfold RWrPost at hcl
                  obtain ⟨X, hX⟩ : ∃ X, wrC (z : Int) ⟨n, t, c, tl, d⟩ K e = X := ⟨_, rfl⟩
                  rw [hX] at hcl hnx hst
                  obtain ⟨out, cd, K', e'⟩ := X
                  simp only at hcl hnx hst
                  obtain ⟨hG', hK', he', ho66⟩ := hnx
                  have HCL := Lib.hid hcl
                  have HST := Lib.hid hst
                  have HG' := Lib.hid hG'
                  obtain ⟨lo, hlo⟩ : ∃ l, out.length = l := ⟨_, rfl⟩
                  have HLO := Lib.hid hlo
                  rw [List.length_append, HZ.out, hlo] at HST
                  rw [hlo] at ho66
                  clear hx hwe hcl hX hst hG' hlo hb hfl hkl HW
                  obtain ⟨c0, c1, c2, c3, c4, c5⟩ := HV.out.x.six
                  have y1 := HY.out.cell 1 _ rfl
                  go_wp2_with fail
                  clear c0 c1 c2 c3 c4 c5 d0 d1 d2 d3 d4 y1
                  refine HCL.out.mono ?_; rintro e0 w4 ⟨v1, v2, rfl, hsl, hrk, has, hkp, hhd⟩
                  have hv4 := HV.out.wrote has hhd hrk
                  obtain ⟨a5, k5, w5, hrun, hv5, ha⟩ := hv4.app hsl (by rw [HZ.out, HLO.out]; omega)
                  have HY5 := Lib.hid ((HY.out.hold hhd (by have := HGQ.out; omega) (by decide)).app hv4.row ha (by decide))
                  clear hsl hhd
                  rw [HZ.out, HLO.out] at hrun hv5
                  have HV5 := Lib.hid hv5
                  have HRUN := Lib.hid hrun
                  clear hrk has hkp hv4 hrun hv5 ha HCL HV HY
                  by_cases hcd : cd = 0
                  · subst hcd
                    by_cases h65 : 65535 < z + lo
                    · have HE := Lib.hid (show RO = none by rw [← HST.out, if_pos (.inr h65)])
                      have t2 : decide ((65535 : Int) < ((z + lo : Nat) : Int)) = true := by simp; omega
                      have t2b : decide ((65535 : Int) < (z : Int) + (lo : Int)) = true := by simp; omega
                      go_wp2_with (at_builtin; refine wpList_append_run (.tmp 123) (.tmp 124) 28 28 rfl rfl rfl rfl HRUN.out ?_)
                      go_ret2
                      rw [HE.out]
                      exact ⟨_, rfl, OwnB.nil _ _, HV5.out.bel⟩
                    · have t2 : decide ((65535 : Int) < ((z + lo : Nat) : Int)) = false := by simp; omega
                      have t2b : decide ((65535 : Int) < (z : Int) + (lo : Int)) = false := by simp; omega
                      have HW2 := Lib.hid HST.out
                      rw [if_neg (by rintro (h | h); exact h rfl; exact h65 h)] at HW2
                      have HZ5 := Lib.hid (show (b ++ out).length = z + lo by rw [List.length_append, HZ.out, HLO.out])
                      go_wp2_with (at_builtin; refine wpList_append_run (.tmp 123) (.tmp 124) 28 28 rfl rfl rfl rfl HRUN.out ?_)
                      go_roundg (ln - (k + 1))
                      case measure => omega
                      case rel => exact ⟨k + 1, K', e', v2, b ++ out, z + lo, a5, k5, by omega, by go_num, rfl, HV5, HZ5, by omega, by omega, he', HG', HW2, HY5⟩
                  · have tC : (cd != 0) = true := by simpa using hcd
                    have HE := Lib.hid (show RO = none by rw [← HST.out, if_pos (.inl hcd)])
                    go_wp2_with (at_builtin; refine wpList_append_run (.tmp 123) (.tmp 124) 28 28 rfl rfl rfl rfl HRUN.out ?_)
                    go_ret2
                    rw [HE.out]
                    exact ⟨_, rfl, OwnB.nil _ _, HV5.out.bel⟩
                · have hke : k = ln := by omega
                  have HW3 := Lib.hid HW.out
                  rw [wrIs_end It.r nl _ k (by rw [HLN.out]; omega)] at HW3
                  have t1 : ¬ ((k : Int) < ln) := by omega
                  clear HW
                  have y1 := HY.out.cell 1 _ rfl
                  go_wp2_with fail
                  clear y1 t1
                  rw [rounds_succ]
                  go_wp2_with fail
                  have HW4 := Lib.hid (show wrIs ((rl.drop 0).map It.r ++ []) b K e = RO by rw [List.drop_zero]; exact HW3.out)
                  go_loopg [5, 16] lr (fun g v5 vi wr => ∃ (k : Nat) (K : KK) (e : Nat) (vr : Value) (b : List UInt8) (z : Nat) (ab : Option Addr) (cb : Nat), k + g = lr ∧ vi = .int .i64 k ∧ v5 = .slice ab z cb ∧ Hid (V0 w wr N q [.int .i64 i0, .int .i64 i1, .slice qa lq qc, .slice aa la ac, .slice na ln nc, .slice ra lr rc] (.slice ab z cb) vr b K e) ∧ Hid (b.length = z) ∧ z ≤ 65535 ∧ K.length ≤ 600 * ((lq + la + ln) + k) ∧ e ≤ 66000 ∧ Hid (GoodK K) ∧ Hid (wrIs ((rl.drop k).map It.r ++ []) b K e = RO) ∧ Hid (Blk wr g2 [.slice aa la ac, .slice na ln nc, .slice ra lr rc] 23))
                  case atStart => exact ⟨0, K, e, vr, b, z, ab, cb, by omega, rfl, rfl, HV, HZ, hz, by omega, he66, HG, HW4, HY⟩
                  case round =>
                    obtain ⟨k, K, e, vr, b, z, ab, cb, hk, rfl, rfl, HV, HZ, hz, hKl, he66, HG, HW, HY⟩ := hrel
                    have hns := HNS.out
                    by_cases hlt : k < lr
                    · have hkl : k < rl.length := by rw [HLR.out]; exact hlt
                      obtain ⟨g0, off, cc, he, hb, hc⟩ := (HR.out _ HV.out.bel).at_ k hkl
                      injection he with he hn3 hc3
                      clear hn3 hc3
                      subst he
                      obtain ⟨d0, d1, d2, d3, d4⟩ := hc
                      have hfl := HFR.out k hkl
                      have hst := HW.out
                      rw [wrIs_step It.r rl _ k hkl] at hst
                      obtain ⟨x, hx⟩ : ∃ x, rl[k] = x := ⟨_, rfl⟩
                      rw [hx] at d0 d1 d2 d3 d4 hfl hst
                      obtain ⟨n, t, c, tl, d⟩ := x
                      simp only at d0 d1 d2 d3 d4 hfl
                      have hnx := wrI_next b (It.r ⟨n, t, c, tl, d⟩) HG.out he66
                      have hwe : wrI b K e (It.r ⟨n, t, c, tl, d⟩) = wrC (z : Int) ⟨n, t, c, tl, d⟩ K e := by rw [← HZ.out]; rfl
                      rw [hwe] at hnx hst
                      have hcl := rwriteC_any HV.out.pk HG.out (by have := HNS.out; omega) (z : Int) n t c tl d hfl.1 hfl.2
                      unfold RWrPost at hcl
                      obtain ⟨X, hX⟩ : ∃ X, wrC (z : Int) ⟨n, t, c, tl, d⟩ K e = X := ⟨_, rfl⟩
                      rw [hX] at hcl hnx hst
                      obtain ⟨out, cd, K', e'⟩ := X
                      simp only at hcl hnx hst
                      obtain ⟨hG', hK', he', ho66⟩ := hnx
                      have HCL := Lib.hid hcl
                      have HST := Lib.hid hst
                      have HG' := Lib.hid hG'
                      obtain ⟨lo, hlo⟩ : ∃ l, out.length = l := ⟨_, rfl⟩
                      have HLO := Lib.hid hlo
                      rw [List.length_append, HZ.out, hlo] at HST
                      rw [hlo] at ho66
                      clear hx hwe hcl hX hst hG' hlo hb hfl hkl HW
                      obtain ⟨c0, c1, c2, c3, c4, c5⟩ := HV.out.x.six
                      have y2 := HY.out.cell 2 _ rfl
                      go_wp2_with fail
                      clear c0 c1 c2 c3 c4 c5 d0 d1 d2 d3 d4 y2
                      refine HCL.out.mono ?_; rintro e0 w4 ⟨v1, v2, rfl, hsl, hrk, has, hkp, hhd⟩
                      have hv4 := HV.out.wrote has hhd hrk
                      obtain ⟨a5, k5, w5, hrun, hv5, ha⟩ := hv4.app hsl (by rw [HZ.out, HLO.out]; omega)
                      have HY5 := Lib.hid ((HY.out.hold hhd (by have := HGQ.out; omega) (by decide)).app hv4.row ha (by decide))
                      clear hsl hhd
                      rw [HZ.out, HLO.out] at hrun hv5
                      have HV5 := Lib.hid hv5
                      have HRUN := Lib.hid hrun
                      clear hrk has hkp hv4 hrun hv5 ha HCL HV HY
                      by_cases hcd : cd = 0
                      · subst hcd
                        by_cases h65 : 65535 < z + lo
                        · have HE := Lib.hid (show RO = none by rw [← HST.out, if_pos (.inr h65)])
                          have t2 : decide ((65535 : Int) < ((z + lo : Nat) : Int)) = true := by simp; omega
                          have t2b : decide ((65535 : Int) < (z : Int) + (lo : Int)) = true := by simp; omega
                          go_wp2_with (at_builtin; refine wpList_append_run (.tmp 123) (.tmp 124) 28 28 rfl rfl rfl rfl HRUN.out ?_)
                          go_ret2
                          rw [HE.out]
                          exact ⟨_, rfl, OwnB.nil _ _, HV5.out.bel⟩
                        · have t2 : decide ((65535 : Int) < ((z + lo : Nat) : Int)) = false := by simp; omega
                          have t2b : decide ((65535 : Int) < (z : Int) + (lo : Int)) = false := by simp; omega
                          have HW2 := Lib.hid HST.out
                          rw [if_neg (by rintro (h | h); exact h rfl; exact h65 h)] at HW2
                          have HZ5 := Lib.hid (show (b ++ out).length = z + lo by rw [List.length_append, HZ.out, HLO.out])
                          go_wp2_with (at_builtin; refine wpList_append_run (.tmp 123) (.tmp 124) 28 28 rfl rfl rfl rfl HRUN.out ?_)
                          go_roundg (lr - (k + 1))
                          case measure => omega
                          case rel => exact ⟨k + 1, K', e', v2, b ++ out, z + lo, a5, k5, by omega, by go_num, rfl, HV5, HZ5, by omega, by omega, he', HG', HW2, HY5⟩
                      · have tC : (cd != 0) = true := by simpa using hcd
                        have HE := Lib.hid (show RO = none by rw [← HST.out, if_pos (.inl hcd)])
                        go_wp2_with (at_builtin; refine wpList_append_run (.tmp 123) (.tmp 124) 28 28 rfl rfl rfl rfl HRUN.out ?_)
                        go_ret2
                        rw [HE.out]
                        exact ⟨_, rfl, OwnB.nil _ _, HV5.out.bel⟩
                    · have hke : k = lr := by omega
                      have HW3 := Lib.hid HW.out
                      rw [wrIs_end It.r rl _ k (by rw [HLR.out]; omega)] at HW3
                      have t1 : ¬ ((k : Int) < lr) := by omega
                      clear HW
                      have y2 := HY.out.cell 2 _ rfl
                      go_wp2_with fail
                      clear y2 t1
                      rw [rounds_succ]
                      go_wp2_with fail
                      go_ret2
                      have HW4 := HW3.out
                      rw [show wrIs [] b K e = some b from rfl] at HW4
                      rw [← HW4]
                      exact ⟨_, rfl, HV.out.row.mono (by have := HNW.out; omega), HV.out.bel⟩
theorem rwriteM_any {w : World} {hi : Nat} {u : Value} {m : Ms} (h : Mg w hi u m) (h1 : hi ≤ w.heap.size) (hf : m.Fine) (hn : m.q.length + m.an.length + m.ns.length + m.ar.length ≤ 1100) :
    Calls Tryz.prog 37 #[u] w (MWPost w (wrM m)) := by
  by_cases h0 : chkM m = 0
  · exact rwriteM_yes h h1 hf h0 hn
  · rw [show wrM m = (none, chkM m) by unfold wrM; rw [if_pos h0]]
    exact rwriteM_no h h1 hf h0 hn
end Go.Proofs.YteegekpanadmkaaGreat
/-
  The document's own Fit: one entry after the other is left out.
-/
namespace Go.Proofs.YteegekpanadmkaaGreat
open Go.RowKit Go.Shelf
set_option linter.unusedVariables false
set_option linter.unusedSimpArgs false
set_option maxRecDepth 100000
structure Fq (w wr : World) (N : Nat) (m : Ms) (v0 v1 v2 v3 v4 v5 : Value) : Prop where
  bel : Below N w wr
  x : Cel wr N [v0, v1, v2, v3, v4, v5]
  g : ∀ W', Aside (fun k => k = N) wr W' → Mg W' W'.heap.size (.agg #[v0, v1, v2, v3, v4, v5]) m
  k : CapM (.agg #[v0, v1, v2, v3, v4, v5])
  size : N + 1 ≤ wr.heap.size
section
variable {w wr w' : World} {N : Nat} {m : Ms} {v0 v1 v2 v3 v4 v5 : Value}
theorem Fq.later (h : Fq w wr N m v0 v1 v2 v3 v4 v5) (hb : Below wr.heap.size wr w') : Fq w w' N m v0 v1 v2 v3 v4 v5 :=
  ⟨h.bel.trans (hb.mono (by have := h.size; omega)), h.x.below (by simp) hb, fun W' ha => h.g W' ((Aside.of_all hb).trans ha), h.k, Nat.le_trans h.size hb.size⟩
theorem Fq.mg (h : Fq w wr N m v0 v1 v2 v3 v4 v5) : Mg wr wr.heap.size (.agg #[v0, v1, v2, v3, v4, v5]) m := h.g wr (Aside.refl _ _)
end
theorem mg_shape {w : World} {hi : Nat} {u : Value} {m : Ms} (h : Mg w hi u m) : ∃ qa qc aa ac na nc ra rc, u = .agg #[.int .i64 m.id, .int .i64 m.fl, .slice qa m.q.length qc, .slice aa m.an.length ac, .slice na m.ns.length nc, .slice ra m.ar.length rc] := by
  obtain ⟨q, a, n, r, rfl, hq, ha, hn2, hr⟩ := h
  obtain ⟨qa, qc, rfl⟩ := Lst.shape hq
  obtain ⟨aa, ac, rfl⟩ := Lst.shape ha
  obtain ⟨na, nc, rfl⟩ := Lst.shape hn2
  obtain ⟨ra, rc, rfl⟩ := Lst.shape hr
  exact ⟨_, _, _, _, _, _, _, _, rfl⟩
theorem mg_fl {w : World} {hi : Nat} {v0 v1 v2 v3 v4 v5 : Value} {m : Ms} {f : Int} (h : Mg w hi (.agg #[v0, v1, v2, v3, v4, v5]) m) : Mg w hi (.agg #[v0, .int .i64 f, v2, v3, v4, v5]) { m with fl := f } := by
  obtain ⟨q, a, n, r, he, hq, ha, hn2, hr⟩ := h
  injection he with he
  simp only [Array.mk.injEq, List.cons.injEq, and_true] at he
  obtain ⟨rfl, _, rfl, rfl, rfl, rfl⟩ := he
  exact ⟨_, _, _, _, rfl, hq, ha, hn2, hr⟩
theorem capM_fl {v0 v1 v1' v2 v3 v4 v5 : Value} (h : CapM (.agg #[v0, v1, v2, v3, v4, v5])) : CapM (.agg #[v0, v1', v2, v3, v4, v5]) := by
  obtain ⟨_, _, _, _, _, _, _, _, _, _, _, _, _, _, he, h1, h2, h3, h4⟩ := h
  injection he with he
  simp only [Array.mk.injEq, List.cons.injEq, and_true] at he
  obtain ⟨rfl, _, rfl, rfl, rfl, rfl⟩ := he
  exact ⟨_, _, _, _, _, _, _, _, _, _, _, _, _, _, rfl, h1, h2, h3, h4⟩
set_option maxHeartbeats 16000000 in
theorem rFit_any {w : World} {hi : Nat} {u : Value} {m : Ms} (h : Mg w hi u m) (h1 : hi ≤ w.heap.size) (hf : m.Fine) (hn : totM m ≤ 1100) (hcap : CapM u) (size : Int) :
    Calls Tryz.prog 11 #[u, .int .i64 size] w (FitPost w (fitA m size)) := by
  obtain ⟨qa, qc, aa, ac, na, nc, ra, rc, rfl⟩ := mg_shape h
  obtain ⟨E, hE⟩ : ∃ E, chkM m = E := ⟨_, rfl⟩
  obtain ⟨N, hN⟩ : ∃ N, w.heap.size = N := ⟨_, rfl⟩
  obtain ⟨i0, hi0⟩ : ∃ i, m.id = i := ⟨_, rfl⟩
  obtain ⟨f0, hf0⟩ : ∃ i, m.fl = i := ⟨_, rfl⟩
  obtain ⟨lq, hlq⟩ : ∃ i, m.q.length = i := ⟨_, rfl⟩
  obtain ⟨la, hla⟩ : ∃ i, m.an.length = i := ⟨_, rfl⟩
  obtain ⟨ln, hln⟩ : ∃ i, m.ns.length = i := ⟨_, rfl⟩
  obtain ⟨lr, hlr⟩ : ∃ i, m.ar.length = i := ⟨_, rfl⟩
  rw [hi0, hf0, hlq, hla, hln, hlr] at h hcap ⊢
  obtain ⟨W1, hW1⟩ : ∃ X, w.alloc (.cells #[.int .i64 i0, .int .i64 f0, .slice qa lq qc, .slice aa la ac, .slice na ln nc, .slice ra lr rc] 25) = X := ⟨_, rfl⟩
  have hb1 : Below w.heap.size w W1 := by rw [← hW1]; exact (Below.refl _ _).alloc (Nat.le_refl _) _
  have hs1 : W1.heap.size = N + 1 := by rw [← hW1, World.size_alloc, hN]
  have hx : Cel W1 N [.int .i64 i0, .int .i64 f0, .slice qa lq qc, .slice aa la ac, .slice na ln nc, .slice ra lr rc] := by
    have := cel_new6 w (.int .i64 i0) (.int .i64 f0) (.slice qa lq qc) (.slice aa la ac) (.slice na ln nc) (.slice ra lr rc) 25
    rwa [hN, hW1] at this
  have HP := Lib.hid (show Fq w W1 N m (.int .i64 i0) (.int .i64 f0) (.slice qa lq qc) (.slice aa la ac) (.slice na ln nc) (.slice ra lr rc) from ⟨by rw [← hN]; exact hb1, hx, fun W' ha =>
    (h.below (below_aside hb1 ha (fun k hk => ⟨by omega, by omega⟩)) h1).wide (by have := ha.size; omega), hcap, by omega⟩)
  have HV := Lib.hid (And.intro hN (And.intro hs1 (And.intro h1 (And.intro hf hn))))
  have HCK := Lib.hid (rcheckM_any HP.out.mg (Nat.le_refl _) hf (by unfold totM at hn; omega))
  rw [hE] at HCK
  obtain ⟨x0, x1, x2, x3, x4, x5⟩ := hx.six
  clear h hcap hi0 hf0 hlq hla hln hlr hb1 hs1 hx h1 hf hn
  go_enter Tryz.func11, Tryz.ntmps11
  go_wp2_with fail
  clear hW1
  refine HCK.out.mono ?_; rintro e w2 ⟨rfl, hb⟩
  replace HP := Lib.hid (HP.out.later hb)
  clear hb HCK x0 x1 x2 x3 x4 x5
  by_cases hE0 : E = 0
  · subst hE0
    by_cases hs0 : size < 12
    · have hfa : fitA m size = (none, 0, 5) := by unfold fitA; rw [hE, if_neg (by simp), if_pos (.inl hs0)]
      have t1 : decide (size < 12) = true := by simpa using hs0
      go_wp2_with fail
      refine bodyPost_ret (v := .tuple #[.slice none 0 0, .int .i64 0, .int .i64 5]) (by simp [results, Tryz.results11, go_sem]) rfl ?_
      rw [hfa]
      exact ⟨_, rfl, OwnB.nil _ _, by have := HP.out.bel; rwa [← hN] at this⟩
    · have t1 : decide (size < 12) = false := by simpa using hs0
      by_cases hs1 : 65535 < size
      · have hfa : fitA m size = (none, 0, 5) := by unfold fitA; rw [hE, if_neg (by simp), if_pos (.inr hs1)]
        have t2 : decide (65535 < size) = true := by simpa using hs1
        go_wp2_with fail
        refine bodyPost_ret (v := .tuple #[.slice none 0 0, .int .i64 0, .int .i64 5]) (by simp [results, Tryz.results11, go_sem]) rfl ?_
        rw [hfa]
        exact ⟨_, rfl, OwnB.nil _ _, by have := HP.out.bel; rwa [← hN] at this⟩
      · have t2 : decide (65535 < size) = false := by simpa using hs1
        obtain ⟨F, hF⟩ : ∃ F, fitN m size = F := ⟨_, rfl⟩
        have hfa : fitA m size = ((wrM (mcut m F)).1, F, 0) := by unfold fitA; rw [hE, if_neg (by simp), if_neg (by omega), hF]
        obtain ⟨g1, g2, g3⟩ := fitN_facts hE (size := size) (by omega)
        rw [hF] at g1 g2 g3
        obtain ⟨_, _, b1, b2, _⟩ := chkM_ok hE
        have HF := Lib.hid (And.intro hfa (And.intro g1 (And.intro g2 (And.intro g3 (And.intro b1 (And.intro b2 (And.intro hE hF)))))))
        have hF6 : F ≤ 1100 := by have := HV.out.2.2.2.2; omega
        clear hfa g1 g2 g3 b1 b2 hE hF hs0 hs1
        go_wp2_with fail
        go_loopg [8] F (fun g v8 wr => ∃ (n : Nat) (i f : Int) (qa : Option Addr) (lq qc : Nat) (aa : Option Addr) (la ac : Nat) (na : Option Addr) (ln nc : Nat) (ra : Option Addr) (lr rc : Nat), n + g = F ∧ v8 = .int .i64 n ∧ Hid (Fq w wr N (mcut m n) (.int .i64 i) (.int .i64 f) (.slice qa lq qc) (.slice aa la ac) (.slice na ln nc) (.slice ra lr rc)))
        case atStart => exact ⟨0, _, _, _, _, _, _, _, _, _, _, _, _, _, _, by omega, rfl, by rw [cut_zero]; exact HP⟩
        case round =>
          clear HP
          obtain ⟨n, i, f, qa, lq, qc, aa, la, ac, na, ln, nc, ra, lr, rc, hg, rfl, HP⟩ := hrel
          have HWR := Lib.hid (rwriteM_any HP.out.mg (Nat.le_refl _) (cut_fine HV.out.2.2.2.1 n) (Nat.le_trans (cut_tot m n) HV.out.2.2.2.2))
          obtain ⟨x0, x1, x2, x3, x4, x5⟩ := HP.out.x.six
          rcases gk with _ | g
          · have hn : n = F := by omega
            subst hn
            obtain ⟨z, hz, hzl⟩ := fitW_len HF.out.2.1
            rw [hz] at HWR
            go_wp2_with fail
            refine HWR.out.mono ?_; rintro e w4 ⟨v4, rfl, ho, hb⟩
            obtain ⟨a4, c4, rfl⟩ := OwnB.shape ho
            have HO := Lib.hid ho
            have HP4 := Lib.hid (HP.out.later hb)
            have HSZ := Lib.hid HP.out.size
            have HFZ := Lib.hid (show fitA m size = (some z, n, 0) by rw [HF.out.1, hz])
            simp only [Option.getD_some] at HO ⊢
            obtain ⟨L, hL⟩ : ∃ L, z.length = L := ⟨_, rfl⟩
            rw [hL] at hzl HO ⊢
            have tl : decide ((L : Int) ≤ size) = true := by simpa using hzl
            clear ho hb HWR HF hz hg x0 x1 x2 x3 x4 x5
            go_wp2_with fail
            refine bodyPost_ret (v := .tuple #[.slice a4 L c4, .int .i64 n, .int .i64 0]) (by simp [results, Tryz.results11, go_sem]) rfl ?_
            rw [HFZ.out]
            exact ⟨_, rfl, by simp only [Option.getD_some]; exact HO.out.mono (by have := HSZ.out; omega), by have := HP4.out.bel; rwa [← hN] at this⟩
          · have hnF : n < F := by omega
            have hfw := HF.out.2.2.2.1 n hnF
            have h0t : 0 < totM (mcut m n) := by
              have hk := cut_kept m n
              have hAD := nA_nD m
              have e1 : (mcut m n).q.length = min (m.q.length - (n - (nA m + m.ns.length + m.an.length + nD m))) m.q.length := List.length_take
              have e2 : (mcut m n).an.length = min (m.an.length - (n - (nA m + m.ns.length))) m.an.length := List.length_take
              have e3 : (mcut m n).ns.length = min (m.ns.length - (n - nA m)) m.ns.length := List.length_take
              have e4 := HF.out.2.2.1
              have e5 := hk.2.1
              unfold totM at e4 ⊢
              omega
            have HLE := Lib.hid (fun wx (hb : Below wr.heap.size wr wx) => rLess_any (HP.out.later hb).mg (Nat.le_refl _) (Nat.le_trans (cut_tot m n) HV.out.2.2.2.2) h0t HP.out.k)
            have HST := Lib.hid (cut_step m n (by have := HF.out.2.2.1; omega) HF.out.2.2.2.2.1 HF.out.2.2.2.2.2.1)
            clear h0t
            rcases wrM_how (mcut m n) with ⟨z, hz⟩ | ⟨ec, hz, hec⟩
            · have hzl : size < (z.length : Int) := by unfold fitW at hfw; rw [hz] at hfw; simpa using hfw
              rw [hz] at HWR
              go_wp2_with fail
              refine HWR.out.mono ?_; rintro e w4 ⟨v4, rfl, ho, hb⟩
              obtain ⟨a4, c4, rfl⟩ := OwnB.shape ho
              simp only [Option.getD_some]
              obtain ⟨L, hL⟩ : ∃ L, z.length = L := ⟨_, rfl⟩
              rw [hL] at hzl ⊢
              have tl : decide ((L : Int) ≤ size) = false := by simpa using hzl
              have HB4 := Lib.hid hb
              have HL4 := Lib.hid (HLE.out w4 hb)
              clear x0 x1 x2 x3 x4 x5
              obtain ⟨x0, x1, x2, x3, x4, x5⟩ := (HP.out.later hb).x.six
              clear ho hb HWR hz hfw
              go_wp2_with fail
              refine HL4.out.mono ?_; rintro e w5 ⟨v5, rfl, hmk, hck, hb5⟩
              have hb45 := HB4.out.trans (hb5.mono HB4.out.size)
              obtain ⟨qb, qd, ab, ad, nb, nd, rb, rd', rfl⟩ := mg_shape (hmk (fun _ => False) w5 (Aside.refl _ _) (fun _ _ h => h) (HP.out.later hb45).mg)
              obtain ⟨LM, hLM⟩ : ∃ x, (lessM (mcut m n)).1 = x := ⟨_, rfl⟩
              obtain ⟨BT, hBT⟩ : ∃ x, (lessM (mcut m n)).2 = x := ⟨_, rfl⟩
              have HST2 := Lib.hid HST.out
              unfold stepM at HST2
              rw [hLM, hBT] at HST2
              rw [hLM] at hmk hck
              rw [hLM, hBT]
              obtain ⟨i1, hi1⟩ : ∃ i, LM.id = i := ⟨_, rfl⟩
              obtain ⟨f1, hf1⟩ : ∃ i, LM.fl = i := ⟨_, rfl⟩
              obtain ⟨kq, hkq⟩ : ∃ i, LM.q.length = i := ⟨_, rfl⟩
              obtain ⟨ka, hka⟩ : ∃ i, LM.an.length = i := ⟨_, rfl⟩
              obtain ⟨kn, hkn⟩ : ∃ i, LM.ns.length = i := ⟨_, rfl⟩
              obtain ⟨kr, hkr⟩ : ∃ i, LM.ar.length = i := ⟨_, rfl⟩
              rw [hi1, hf1, hkq, hka, hkn, hkr] at hmk hck ⊢
              obtain ⟨W6, hW6⟩ : ∃ X, w5.alloc (.cells #[.int .i64 i1, .int .i64 f1, .slice qb kq qd, .slice ab ka ad, .slice nb kn nd, .slice rb kr rd'] 25) = X := ⟨_, rfl⟩
              have hb6 : Below w5.heap.size w5 W6 := by rw [← hW6]; exact (Below.refl _ _).alloc (Nat.le_refl _) _
              have hb46 := hb45.trans (hb6.mono hb45.size)
              have HP6 := Lib.hid (HP.out.later hb46)
              have hst := aside_put6 W6 N (.int .i64 i1) (.int .i64 f1) (.slice qb kq qd) (.slice ab ka ad) (.slice nb kn nd) (.slice rb kr rd')
              have hk6 := cel_put6 HP6.out.x (.int .i64 i1) (.int .i64 f1) (.slice qb kq qd) (.slice ab ka ad) (.slice nb kn nd) (.slice rb kr rd')
              have hbel := below_aside HP6.out.bel hst (fun k hk => ⟨by have := HP6.out.size; omega, by omega⟩)
              have hsz : N < wr.heap.size := by have := HP.out.size; omega
              have hgg : ∀ W', Aside (fun k => k = N) (put6 W6 N (.int .i64 i1) (.int .i64 f1) (.slice qb kq qd) (.slice ab ka ad) (.slice nb kn nd) (.slice rb kr rd')) W' → Mg W' W'.heap.size (.agg #[.int .i64 i1, .int .i64 f1, .slice qb kq qd, .slice ab ka ad, .slice nb kn nd, .slice rb kr rd']) LM := fun W' ha => hmk (fun k => k = N) W' (((Aside.of_all hb6).trans hst).trans ha) (fun k hk he => by have := HB4.out.size; omega) (HP.out.g W' (((Aside.of_all hb46).trans hst).trans ha))
              have hx6 := HP6.out.x.six
              have hfz := HP6.out.x.fz
              have HSS := Lib.hid (show N + 1 ≤ (put6 W6 N (.int .i64 i1) (.int .i64 f1) (.slice qb kq qd) (.slice ab ka ad) (.slice nb kn nd) (.slice rb kr rd')).heap.size from Nat.le_trans HP6.out.size hst.size)
              clear x0 x1 x2 x3 x4 x5
              obtain ⟨x0, x1, x2, x3, x4, x5⟩ := hx6
              clear hb45 hb6 hb46 hsz HL4 HB4 hb5
              cases BT
              · have hcm : mcut m (n + 1) = LM := by rw [HST2.out, if_neg (by simp)]
                have HPN := Lib.hid (show Fq w (put6 W6 N (.int .i64 i1) (.int .i64 f1) (.slice qb kq qd) (.slice ab ka ad) (.slice nb kn nd) (.slice rb kr rd')) N (mcut m (n + 1)) (.int .i64 i1) (.int .i64 f1) (.slice qb kq qd) (.slice ab ka ad) (.slice nb kn nd) (.slice rb kr rd') from ⟨hbel, hk6, fun W' ha => by rw [hcm]; exact hgg W' ha, hck, HSS.out⟩)
                unfold put6 at HPN
                clear hcm hgg hbel hk6 hst hmk hck HP6 HSS HP HLE HST HST2 hi1 hf1 hkq hka hkn hkr hLM hBT
                subst hW6
                go_wp2_with fail
                go_roundg g
                case measure => omega
                case rel => exact ⟨n + 1, _, _, _, _, _, _, _, _, _, _, _, _, _, _, by omega, by go_num, HPN⟩
              · have hcm : mcut m (n + 1) = { LM with fl := tcG f1 } := by rw [HST2.out, if_pos rfl, hf1]
                have HPN := Lib.hid (show Fq w ((put6 W6 N (.int .i64 i1) (.int .i64 f1) (.slice qb kq qd) (.slice ab ka ad) (.slice nb kn nd) (.slice rb kr rd')).setCell ⟨N, 1, none⟩ (.int .i64 (bits .or .i64 f1 512))) N (mcut m (n + 1)) (.int .i64 i1) (.int .i64 (bits .or .i64 f1 512)) (.slice qb kq qd) (.slice ab ka ad) (.slice nb kn nd) (.slice rb kr rd') from ⟨below_aside hbel (Aside.setCell _ (p := ⟨N, 1, none⟩) _ rfl : Aside (fun k => k = N) _ _) (fun k hk => ⟨by have := HSS.out; omega, by omega⟩), hk6.set (o := 1) (by simp) _, fun W' ha => by rw [hcm]; exact mg_fl (hgg W' ((Aside.setCell _ (p := ⟨N, 1, none⟩) _ rfl : Aside (fun k => k = N) _ _).trans ha)), capM_fl hck, by simpa [World.setCell] using HSS.out⟩)
                unfold put6 at HPN
                clear hcm hgg hbel hk6 hst hmk hck HP6 HSS HP HLE HST HST2 hi1 hf1 hkq hka hkn hkr hLM hBT
                subst hW6
                go_wp2_with fail
                go_roundg g
                case measure => omega
                case rel => exact ⟨n + 1, _, _, _, _, _, _, _, _, _, _, _, _, _, _, by omega, by go_num, HPN⟩
            · rw [hz] at HWR
              go_wp2_with fail
              refine HWR.out.mono ?_; rintro e w4 ⟨v4, rfl, ho, hb⟩
              obtain ⟨a4, c4, rfl⟩ := OwnB.shape ho
              simp only [Option.getD_none, List.length_nil]
              have te : (ec == 0) = false := by simpa using hec
              have HB4 := Lib.hid hb
              have HL4 := Lib.hid (HLE.out w4 hb)
              clear x0 x1 x2 x3 x4 x5
              obtain ⟨x0, x1, x2, x3, x4, x5⟩ := (HP.out.later hb).x.six
              clear ho hb HWR hz hfw
              go_wp2_with fail
              refine HL4.out.mono ?_; rintro e w5 ⟨v5, rfl, hmk, hck, hb5⟩
              have hb45 := HB4.out.trans (hb5.mono HB4.out.size)
              obtain ⟨qb, qd, ab, ad, nb, nd, rb, rd', rfl⟩ := mg_shape (hmk (fun _ => False) w5 (Aside.refl _ _) (fun _ _ h => h) (HP.out.later hb45).mg)
              obtain ⟨LM, hLM⟩ : ∃ x, (lessM (mcut m n)).1 = x := ⟨_, rfl⟩
              obtain ⟨BT, hBT⟩ : ∃ x, (lessM (mcut m n)).2 = x := ⟨_, rfl⟩
              have HST2 := Lib.hid HST.out
              unfold stepM at HST2
              rw [hLM, hBT] at HST2
              rw [hLM] at hmk hck
              rw [hLM, hBT]
              obtain ⟨i1, hi1⟩ : ∃ i, LM.id = i := ⟨_, rfl⟩
              obtain ⟨f1, hf1⟩ : ∃ i, LM.fl = i := ⟨_, rfl⟩
              obtain ⟨kq, hkq⟩ : ∃ i, LM.q.length = i := ⟨_, rfl⟩
              obtain ⟨ka, hka⟩ : ∃ i, LM.an.length = i := ⟨_, rfl⟩
              obtain ⟨kn, hkn⟩ : ∃ i, LM.ns.length = i := ⟨_, rfl⟩
              obtain ⟨kr, hkr⟩ : ∃ i, LM.ar.length = i := ⟨_, rfl⟩
              rw [hi1, hf1, hkq, hka, hkn, hkr] at hmk hck ⊢
              obtain ⟨W6, hW6⟩ : ∃ X, w5.alloc (.cells #[.int .i64 i1, .int .i64 f1, .slice qb kq qd, .slice ab ka ad, .slice nb kn nd, .slice rb kr rd'] 25) = X := ⟨_, rfl⟩
              have hb6 : Below w5.heap.size w5 W6 := by rw [← hW6]; exact (Below.refl _ _).alloc (Nat.le_refl _) _
              have hb46 := hb45.trans (hb6.mono hb45.size)
              have HP6 := Lib.hid (HP.out.later hb46)
              have hst := aside_put6 W6 N (.int .i64 i1) (.int .i64 f1) (.slice qb kq qd) (.slice ab ka ad) (.slice nb kn nd) (.slice rb kr rd')
              have hk6 := cel_put6 HP6.out.x (.int .i64 i1) (.int .i64 f1) (.slice qb kq qd) (.slice ab ka ad) (.slice nb kn nd) (.slice rb kr rd')
              have hbel := below_aside HP6.out.bel hst (fun k hk => ⟨by have := HP6.out.size; omega, by omega⟩)
              have hsz : N < wr.heap.size := by have := HP.out.size; omega
              have hgg : ∀ W', Aside (fun k => k = N) (put6 W6 N (.int .i64 i1) (.int .i64 f1) (.slice qb kq qd) (.slice ab ka ad) (.slice nb kn nd) (.slice rb kr rd')) W' → Mg W' W'.heap.size (.agg #[.int .i64 i1, .int .i64 f1, .slice qb kq qd, .slice ab ka ad, .slice nb kn nd, .slice rb kr rd']) LM := fun W' ha => hmk (fun k => k = N) W' (((Aside.of_all hb6).trans hst).trans ha) (fun k hk he => by have := HB4.out.size; omega) (HP.out.g W' (((Aside.of_all hb46).trans hst).trans ha))
              have hx6 := HP6.out.x.six
              have hfz := HP6.out.x.fz
              have HSS := Lib.hid (show N + 1 ≤ (put6 W6 N (.int .i64 i1) (.int .i64 f1) (.slice qb kq qd) (.slice ab ka ad) (.slice nb kn nd) (.slice rb kr rd')).heap.size from Nat.le_trans HP6.out.size hst.size)
              clear x0 x1 x2 x3 x4 x5
              obtain ⟨x0, x1, x2, x3, x4, x5⟩ := hx6
              clear hb45 hb6 hb46 hsz HL4 HB4 hb5
              cases BT
              · have hcm : mcut m (n + 1) = LM := by rw [HST2.out, if_neg (by simp)]
                have HPN := Lib.hid (show Fq w (put6 W6 N (.int .i64 i1) (.int .i64 f1) (.slice qb kq qd) (.slice ab ka ad) (.slice nb kn nd) (.slice rb kr rd')) N (mcut m (n + 1)) (.int .i64 i1) (.int .i64 f1) (.slice qb kq qd) (.slice ab ka ad) (.slice nb kn nd) (.slice rb kr rd') from ⟨hbel, hk6, fun W' ha => by rw [hcm]; exact hgg W' ha, hck, HSS.out⟩)
                unfold put6 at HPN
                clear hcm hgg hbel hk6 hst hmk hck HP6 HSS HP HLE HST HST2 hi1 hf1 hkq hka hkn hkr hLM hBT
                subst hW6
                go_wp2_with fail
                go_roundg g
                case measure => omega
                case rel => exact ⟨n + 1, _, _, _, _, _, _, _, _, _, _, _, _, _, _, by omega, by go_num, HPN⟩
              · have hcm : mcut m (n + 1) = { LM with fl := tcG f1 } := by rw [HST2.out, if_pos rfl, hf1]
                have HPN := Lib.hid (show Fq w ((put6 W6 N (.int .i64 i1) (.int .i64 f1) (.slice qb kq qd) (.slice ab ka ad) (.slice nb kn nd) (.slice rb kr rd')).setCell ⟨N, 1, none⟩ (.int .i64 (bits .or .i64 f1 512))) N (mcut m (n + 1)) (.int .i64 i1) (.int .i64 (bits .or .i64 f1 512)) (.slice qb kq qd) (.slice ab ka ad) (.slice nb kn nd) (.slice rb kr rd') from ⟨below_aside hbel (Aside.setCell _ (p := ⟨N, 1, none⟩) _ rfl : Aside (fun k => k = N) _ _) (fun k hk => ⟨by have := HSS.out; omega, by omega⟩), hk6.set (o := 1) (by simp) _, fun W' ha => by rw [hcm]; exact mg_fl (hgg W' ((Aside.setCell _ (p := ⟨N, 1, none⟩) _ rfl : Aside (fun k => k = N) _ _).trans ha)), capM_fl hck, by simpa [World.setCell] using HSS.out⟩)
                unfold put6 at HPN
                clear hcm hgg hbel hk6 hst hmk hck HP6 HSS HP HLE HST HST2 hi1 hf1 hkq hka hkn hkr hLM hBT
                subst hW6
                go_wp2_with fail
                go_roundg g
                case measure => omega
                case rel => exact ⟨n + 1, _, _, _, _, _, _, _, _, _, _, _, _, _, _, by omega, by go_num, HPN⟩
  · have t1 : (E != 0) = true := by simpa using hE0
    have hfa : fitA m size = (none, 0, E) := by unfold fitA; rw [hE, if_pos hE0]
    go_wp2_with fail
    refine bodyPost_ret (v := .tuple #[.slice none 0 0, .int .i64 0, .int .i64 E]) (by simp [results, Tryz.results11, go_sem]) rfl ?_
    rw [hfa]
    exact ⟨_, rfl, OwnB.nil _ _, by have := HP.out.bel; rwa [← hN] at this⟩
end Go.Proofs.YteegekpanadmkaaGreat
/-
  The document's own Least.
-/
namespace Go.Proofs.YteegekpanadmkaaGreat
open Go.RowKit Go.Shelf
set_option linter.unusedVariables false
set_option linter.unusedSimpArgs false
set_option maxRecDepth 100000
def stL (s : Int × Bool) (x : Rc) : Int × Bool := if isO x = true ∨ (s.2 = true ∧ s.1 ≤ x.l) then s else (x.l, true)
theorem stL_no : ∀ (l : List Rc) (s : Int × Bool), l.foldl stL s = (noL l).foldl stL s
  | [], s => rfl
  | x :: t, s => by
    by_cases h : isO x = true
    · have e : noL (x :: t) = noL t := by unfold noL; rw [List.filter_cons_of_neg (by simp [h])]
      have e2 : stL s x = s := by unfold stL; rw [if_pos (.inl h)]
      rw [e, List.foldl_cons, e2]
      exact stL_no t s
    · have e : noL (x :: t) = x :: noL t := by unfold noL; rw [List.filter_cons_of_pos (by simp [h])]
      rw [e, List.foldl_cons, List.foldl_cons]
      exact stL_no t _
theorem stL_min : ∀ (l : List Rc) (y : Rc), (∀ x ∈ l, isO x = false) → l.foldl stL (y.l, true) = ((minR y l).l, true)
  | [], y, _ => rfl
  | x :: t, y, h => by
    have e : minR y (x :: t) = minR (if x.l < y.l then x else y) t := rfl
    have hx := h x (List.mem_cons_self ..)
    rw [e, List.foldl_cons]
    by_cases hl : x.l < y.l
    · have e2 : stL (y.l, true) x = (x.l, true) := by unfold stL; rw [if_neg (by rw [hx]; simp; omega)]
      rw [e2, if_pos hl]
      exact stL_min t x fun z hz => h z (List.mem_cons_of_mem _ hz)
    · have e2 : stL (y.l, true) x = (y.l, true) := by unfold stL; rw [if_pos (.inr ⟨rfl, by simp; omega⟩)]
      rw [e2, if_neg hl]
      exact stL_min t y fun z hz => h z (List.mem_cons_of_mem _ hz)
theorem noL_all (l : List Rc) : ∀ x ∈ noL l, isO x = false := fun x hx => by
  have := (List.mem_filter.mp hx).2
  simpa using this
theorem leastA_fold (m : Ms) : leastA m = (m.an ++ m.ns ++ m.ar).foldl stL (0, false) := by
  have e : noL (m.an ++ m.ns ++ m.ar) = noL m.an ++ noL m.ns ++ noL m.ar := by unfold noL; rw [List.filter_append, List.filter_append]
  rw [stL_no, e]
  unfold leastA
  have hall := noL_all (m.an ++ m.ns ++ m.ar)
  rw [e] at hall
  cases hL : noL m.an ++ noL m.ns ++ noL m.ar with
  | nil => rfl
  | cons x t =>
    rw [hL] at hall
    have hx := hall x (List.mem_cons_self ..)
    have e1 : stL (0, false) x = (x.l, true) := by unfold stL; rw [if_neg (by rw [hx]; simp)]
    have e2 : minR x (x :: t) = minR x t := by
      show t.foldl _ (if x.l < x.l then x else x) = _
      rw [if_neg (by omega)]
      rfl
    rw [List.foldl_cons, e1, stL_min t x fun z hz => hall z (List.mem_cons_of_mem _ hz)]
    show ((minR x (x :: t)).l, true) = _
    rw [e2]
set_option maxHeartbeats 8000000 in
theorem rLeast_any {w : World} {hi : Nat} {u : Value} {m : Ms} (h : Mg w hi u m) (h1 : hi ≤ w.heap.size) (hl : m.an.length + m.ns.length + m.ar.length ≤ 900000) :
    Calls Tryz.prog 13 #[u] w (fun e w' => e = .returned (.tuple #[.int .i64 (leastA m).1, .bool (leastA m).2]) ∧ Below w.heap.size w w') := by
  obtain ⟨q, a, n, r, rfl, hq, ha, hn, hr⟩ := h
  obtain ⟨qa, qc, rfl⟩ := Lst.shape hq
  obtain ⟨aa, ac, rfl⟩ := Lst.shape ha
  obtain ⟨na, nc, rfl⟩ := Lst.shape hn
  obtain ⟨ra, rc, rfl⟩ := Lst.shape hr
  obtain ⟨N, hN⟩ : ∃ N, w.heap.size = N := ⟨_, rfl⟩
  obtain ⟨W1, hW1⟩ : ∃ X, w.alloc (.cells #[.int .i64 m.id, .int .i64 m.fl, .slice qa m.q.length qc, .slice aa m.an.length ac, .slice na m.ns.length nc, .slice ra m.ar.length rc] 25) = X := ⟨_, rfl⟩
  have hb1 : Below w.heap.size w W1 := by rw [← hW1]; exact (Below.refl _ _).alloc (Nat.le_refl _) _
  have hs1 : W1.heap.size = N + 1 := by rw [← hW1, World.size_alloc, hN]
  have hx : Cel W1 N [.int .i64 m.id, .int .i64 m.fl, .slice qa m.q.length qc, .slice aa m.an.length ac, .slice na m.ns.length nc, .slice ra m.ar.length rc] := by
    have := cel_new6 w (.int .i64 m.id) (.int .i64 m.fl) (.slice qa m.q.length qc) (.slice aa m.an.length ac) (.slice na m.ns.length nc) (.slice ra m.ar.length rc) 25
    rwa [hN, hW1] at this
  obtain ⟨x0, x1, x2, x3, x4, x5⟩ := hx.six
  obtain ⟨W2, hW2⟩ : ∃ X, W1.alloc (.cells #[.slice aa m.an.length ac, .slice na m.ns.length nc, .slice ra m.ar.length rc] 23) = X := ⟨_, rfl⟩
  have hb2 : Below W1.heap.size W1 W2 := by rw [← hW2]; exact (Below.refl _ _).alloc (Nat.le_refl _) _
  have hs2 : W2.heap.size = N + 2 := by rw [← hW2, World.size_alloc, hs1]
  have c3 : Cel W2 (N + 1) [.slice aa m.an.length ac, .slice na m.ns.length nc, .slice ra m.ar.length rc] := by
    have := cel_new3 W1 (.slice aa m.an.length ac) (.slice na m.ns.length nc) (.slice ra m.ar.length rc) 23
    rwa [hW2, hs1] at this
  have hbl : Below N w W2 := by rw [← hN]; exact hb1.trans (hb2.mono (by omega))
  obtain ⟨ls, hls⟩ : ∃ ls, [m.an, m.ns, m.ar] = ls := ⟨_, rfl⟩
  have hn3 : ls.length = 3 := by rw [← hls]; rfl
  have HN3 := Lib.hid hn3
  have HC := Lib.hid (show ∀ j (h : j < ls.length), ∃ a c, W2.cell? ⟨N + 1, j, none⟩ = some (.slice a ls[j].length c) ∧ SR W2 N (.slice a ls[j].length c) ls[j] ∧ ls[j].length ≤ 900000 from fun j hj => by
    subst hls
    match j, hj with
    | 0, _ => exact ⟨aa, ac, c3.c 0 (by simp), Lst.wide (Lst.below ha (hbl.mono (by omega)) (by omega : hi ≤ hi)) (by omega), by show m.an.length ≤ _; omega⟩
    | 1, _ => exact ⟨na, nc, c3.c 1 (by simp), Lst.wide (Lst.below hn (hbl.mono (by omega)) (by omega : hi ≤ hi)) (by omega), by show m.ns.length ≤ _; omega⟩
    | 2, _ => exact ⟨ra, rc, c3.c 2 (by simp), Lst.wide (Lst.below hr (hbl.mono (by omega)) (by omega : hi ≤ hi)) (by omega), by show m.ar.length ≤ _; omega⟩)
  have HL := Lib.hid (show leastA m = ls.flatten.foldl stL (0, false) by rw [leastA_fold, ← hls]; simp)
  have HW := Lib.hid (And.intro hbl (And.intro hs2 hN))
  clear hq ha hn hr hb1 hx hb2 hs2 c3 hbl hls hn3 h1 hl
  go_enter Tryz.func13, Tryz.ntmps13
  go_wp2_with fail
  clear hW1 hW2 hN hs1 x0 x1 x2 x3 x4 x5
  go_loopg [4, 5, 7] 3 (fun g v4 v5 v7 wr => ∃ (j : Nat) (sl : Int) (si : Bool), j + g = 3 ∧ v7 = .int .i64 j ∧ v4 = .int .i64 sl ∧ v5 = .bool si ∧ Hid ((ls.take j).flatten.foldl stL (0, false) = (sl, si)) ∧ Hid (Below (N + 2) W2 wr))
  case atStart => exact ⟨0, 0, false, by omega, rfl, rfl, rfl, Lib.hid rfl, Lib.hid (Below.refl _ _)⟩
  case round =>
    obtain ⟨j, sl, si, hg, rfl, rfl, rfl, HF, HB⟩ := hrel
    by_cases hj : j < 3
    · have hj2 : j < ls.length := by rw [HN3.out]; exact hj
      obtain ⟨sa, sc, hcell, hsr, hlen⟩ := HC.out j hj2
      have HTK := Lib.hid (show (ls.take (j + 1)).flatten = (ls.take j).flatten ++ ls[j] from flatR_take hj2)
      obtain ⟨l, hl⟩ : ∃ l, ls[j] = l := ⟨_, rfl⟩
      rw [hl] at hcell hsr hlen HTK
      obtain ⟨n, hn⟩ : ∃ n, l.length = n := ⟨_, rfl⟩
      rw [hn] at hcell hsr hlen
      have HN := Lib.hid hn
      have HSR := Lib.hid hsr
      have HCJ := Lib.hid (fun (wx : World) (hb : Below (N + 2) W2 wx) => (hb.cell (p := ⟨N + 1, j, none⟩) (by show N + 1 < N + 2; omega)).trans hcell)
      have hj3 : (j : Int) < 3 := by omega
      clear hj2 hcell hsr hl hn
      go_wp2_with fail
      go_loopg [4, 5, 8] n (fun g v4 v5 v8 wr => ∃ (i : Nat) (tl : Int) (ti : Bool), i + g = n ∧ v8 = .int .i64 i ∧ v4 = .int .i64 tl ∧ v5 = .bool ti ∧ Hid ((l.take i).foldl stL ((ls.take j).flatten.foldl stL (0, false)) = (tl, ti)) ∧ Hid (Below (N + 2) W2 wr))
      case atStart => exact ⟨0, sl, si, by omega, rfl, rfl, rfl, HF, HB⟩
      case round =>
        clear HB
        obtain ⟨i, tl, ti, hgi, rfl, rfl, rfl, HF2, HB2⟩ := hrel
        have ccj := HCJ.out _ HB2.out
        by_cases hi3 : i < n
        · have hi2 : i < l.length := by rw [HN.out]; exact hi3
          obtain ⟨bb, off, cc, he, hbb, hc⟩ := HSR.out.at_ i hi2
          rw [HN.out] at he
          injection he with he hn3 hc3
          clear hn3 hc3
          subst he
          have HTI := Lib.hid (show l.take (i + 1) = l.take i ++ [l[i]] from List.take_succ_eq_append_getElem hi2)
          obtain ⟨x, hx⟩ : ∃ x, l[i] = x := ⟨_, rfl⟩
          rw [hx] at hc HTI
          obtain ⟨c0, c1, c2, c3, c4⟩ := hc.keep fun o => HB2.out.cell (p := ⟨bb, o, none⟩) (by show bb < N + 2; omega)
          have HST := Lib.hid (show (l.take (i + 1)).foldl stL ((ls.take j).flatten.foldl stL (0, false)) = stL (tl, ti) x by rw [HTI.out, List.foldl_append, HF2.out]; rfl)
          have hin : (i : Int) < (n : Int) := by omega
          clear hc hx hbb hi2 HTI
          have HBN := Lib.hid (HB2.out.alloc (by have := HB2.out.size; have := HW.out.2.1; omega) (.cells #[.string (bs x.n), .int .i64 x.t, .int .i64 x.c, .int .i64 x.l, .string (bs x.d)] 52))
          by_cases hp : x.t = 41
          · have HO := Lib.hid (show isO x = true by unfold isO; simp [hp])
            rw [hp] at c1 HBN
            clear hp
            go_wp2_with fail
            go_roundg (n - (i + 1))
            case measure => omega
            case rel => exact ⟨i + 1, tl, ti, by omega, by go_num, rfl, rfl, Lib.hid (by rw [HST.out]; unfold stL; rw [if_pos (.inl HO.out)]), HBN⟩
          · have HO := Lib.hid (show isO x = false by unfold isO; simp [hp])
            have t1 : (x.t == 41) = false := by simpa using hp
            cases ti with
            | false =>
              go_wp2_with fail
              go_roundg (n - (i + 1))
              case measure => omega
              case rel => exact ⟨i + 1, x.l, true, by omega, by go_num, rfl, rfl, Lib.hid (by rw [HST.out]; unfold stL; rw [if_neg (by rw [HO.out]; simp)]), HBN⟩
            | true =>
              by_cases hle : tl ≤ x.l
              · have t2 : decide (tl ≤ x.l) = true := by simpa using hle
                have HLE := Lib.hid hle
                clear hle
                go_wp2_with fail
                go_roundg (n - (i + 1))
                case measure => omega
                case rel => exact ⟨i + 1, tl, true, by omega, by go_num, rfl, rfl, Lib.hid (by rw [HST.out]; unfold stL; rw [if_pos (.inr ⟨rfl, HLE.out⟩)]), HBN⟩
              · have t2 : decide (tl ≤ x.l) = false := by simpa using hle
                have HLE := Lib.hid hle
                go_wp2_with fail
                go_roundg (n - (i + 1))
                case measure => omega
                case rel => exact ⟨i + 1, x.l, true, by omega, by go_num, rfl, rfl, Lib.hid (by rw [HST.out]; unfold stL; rw [if_neg (by rw [HO.out]; simp; have := HLE.out; omega)]), HBN⟩
        · have hie : i = n := by omega
          subst hie
          have t1 : ¬ ((i : Int) < (i : Int)) := by omega
          have HF3 := Lib.hid (show (ls.take (j + 1)).flatten.foldl stL (0, false) = (tl, ti) by rw [HTK.out, List.foldl_append, ← HF2.out, List.take_of_length_le (Nat.le_of_eq HN.out)])
          clear HF2 HF
          go_wp2_with fail
          go_roundg (3 - (j + 1))
          case measure => omega
          case rel => exact ⟨j + 1, tl, ti, by omega, by go_num, rfl, rfl, HF3, HB2⟩
    · have hje : j = 3 := by omega
      subst hje
      have HE := Lib.hid (show leastA m = (sl, si) by rw [HL.out, ← HF.out, List.take_of_length_le (Nat.le_of_eq HN3.out)])
      have HBE := Lib.hid (show Below w.heap.size w wr by rw [HW.out.2.2]; exact HW.out.1.trans (HB.out.mono (by omega)))
      clear HF HB
      go_wp2_with fail
      refine bodyPost_ret (v := .tuple #[.int .i64 sl, .bool si]) (by simp [results, Tryz.results13, go_sem]) rfl ⟨by rw [HE.out], HBE.out⟩
end Go.Proofs.YteegekpanadmkaaGreat
