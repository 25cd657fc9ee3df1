/-
  How long the body is.
-/
import Derived.Test.YtkoohdacneflfaaGreatDoorZ08
import Derived.Lib.ParseIntBCases
import Derived.Lib.ConvBytes
import Derived.RangeFuncNested
import Derived.RangeFuncBound
import Derived.RangeFuncCalls
import Derived.Shelf.Abstract
import Derived.Shelf.RegionOpen
import Derived.OwnWalkIn
import Derived.TacticsInMore
import Derived.LoopNIn
import Derived.LoopIn
import Derived.Outline
namespace Go.Proofs.YtkoohdacneflfaaGreatDoor
open Go.RowKit Go.Shelf
set_option linter.unusedVariables false
set_option linter.unusedSimpArgs false
set_option maxRecDepth 100000

def numA (a : Nat) (s : List UInt8) : Nat := s.foldl (fun n c => 10 * n + (c.toNat - 48)) a
theorem inD (n : Nat) : inR dR n = decide (48 ≤ n ∧ n ≤ 57) := by simp [inR, dR, Bool.decide_and]
theorem numA_lt : ∀ (s : List UInt8) (a : Nat), onlyR dR s = true → numA a s < (a + 1) * 10 ^ s.length
  | [], a, _ => by simp [numA]
  | c :: r, a, h => by
    unfold onlyR at h
    rw [List.all_cons, Bool.and_eq_true, inD, decide_eq_true_eq] at h
    have ih := numA_lt r (10 * a + (c.toNat - 48)) h.2
    have e : numA a (c :: r) = numA (10 * a + (c.toNat - 48)) r := rfl
    rw [e, List.length_cons, Nat.pow_succ]
    have h2 : (10 * a + (c.toNat - 48) + 1) * 10 ^ r.length ≤ ((a + 1) * 10) * 10 ^ r.length := Nat.mul_le_mul_right _ (by omega)
    have h3 : (a + 1) * (10 ^ r.length * 10) = ((a + 1) * 10) * 10 ^ r.length := by rw [Nat.mul_comm (10 ^ r.length) 10, Nat.mul_assoc]
    omega
theorem parse_num : ∀ (s : List UInt8) (a : Nat), onlyR dR s = true → (a + 1) * 10 ^ s.length ≤ 100000000000 → Lib.parseUintM (2 ^ 64 - 1) a s = .ok (numA a s)
  | [], a, _, _ => rfl
  | c :: r, a, h, hb => by
    have h0 := h
    unfold onlyR at h
    rw [List.all_cons, Bool.and_eq_true, inD, decide_eq_true_eq] at h
    rw [List.length_cons, Nat.pow_succ] at hb
    have h3 : (a + 1) * (10 ^ r.length * 10) = ((a + 1) * 10) * 10 ^ r.length := by rw [Nat.mul_comm (10 ^ r.length) 10, Nat.mul_assoc]
    have hp : 0 < 10 ^ r.length := Nat.pow_pos (by omega)
    have h4 : (a + 1) * 10 ≤ ((a + 1) * 10) * 10 ^ r.length := Nat.le_mul_of_pos_right _ hp
    have h2 : (10 * a + (c.toNat - 48) + 1) * 10 ^ r.length ≤ ((a + 1) * 10) * 10 ^ r.length := Nat.mul_le_mul_right _ (by omega)
    have e : numA a (c :: r) = numA (10 * a + (c.toNat - 48)) r := rfl
    rw [Lib.parseUintM, if_pos h.1, if_neg (by omega), if_neg (by omega), e, Nat.mul_comm a 10]
    exact parse_num r _ h.2 (by omega)
theorem parse_dec (s : List UInt8) (h0 : s ≠ []) (h : onlyR dR s = true) (hl : s.length ≤ 10) : Lib.parseIntB 64 s = .ok ((num s : Nat) : Int) ∧ num s < 10000000000 := by
  have hp : 10 ^ s.length ≤ 10 ^ 10 := Nat.pow_le_pow_right (by omega) hl
  have h1 := parse_num s 0 h (by omega)
  have h2 : num s < (0 + 1) * 10 ^ s.length := numA_lt s 0 h
  have e : numA 0 s = num s := rfl
  rw [e] at h1
  have hn : num s < 10000000000 := by omega
  refine ⟨?_, hn⟩
  cases s with
  | nil => exact absurd rfl h0
  | cons c r =>
    have hd := h
    unfold onlyR at hd
    rw [List.all_cons, Bool.and_eq_true, inD, decide_eq_true_eq] at hd
    rw [Lib.parseIntB_plain 64 c r (by omega) (by omega)]
    unfold Lib.parseUintB
    rw [if_neg (by simp), h1]
    unfold Lib.signlessC
    simp only
    rw [if_neg (by omega)]
theorem parseInt_any (s : List UInt8) (h0 : s ≠ []) (h : onlyR dR s = true) (hl : s.length ≤ 10) (w : World) : Calls Tryz.prog 84 #[.string (bs s), .int .i64 10, .int .i64 64] w (Tells w (.tuple #[.int .i64 (num s : Nat), .nilIface])) := by
  refine (Tryz.strconv_ParseInt_10_at64_ok (bs s) (by rw [bs_size]; omega) _ (parse_dec s h0 h hl).1 w).mono ?_
  rintro e w' ⟨rfl, hw⟩
  refine ⟨rfl, ?_⟩
  rcases hw with rfl | ⟨t, rfl⟩
  · exact Below.refl _ _
  · exact ⟨rfl, rfl, rfl, by rw [Lib.bytesWorld_size]; omega, fun j hj => Lib.bytesWorld_at_old w _ t j hj⟩

set_option maxHeartbeats 8000000 in
theorem length_any {w : World} {hi : Nat} {u : Value} {h : Hd} (hh : Hv w hi u h) (h1 : hi ≤ w.heap.size) (hf : Fits h) :
    Calls Tryz.prog 52 #[u] w (Tells w (.tuple #[.int .i64 (lenH h.fs).1, .int .i64 (lenH h.fs).2])) := by
  obtain ⟨m, t, v, l⟩ := h
  have HH := Lib.hid hh
  obtain ⟨sl, rfl, hs0⟩ := hh
  simp only at hs0 ⊢
  obtain ⟨a, c, rfl⟩ := Lst.shape hs0
  have hb0 : Below w.heap.size w (w.alloc (.cells #[.string (bs m), .string (bs t), .int .i64 v, .slice a l.length c] 42)) := (Below.refl _ _).alloc (Nat.le_refl _) _
  have hx := cel_new4 w (.string (bs m)) (.string (bs t)) (.int .i64 v) (.slice a l.length c) 42
  have hv0 : Hv (w.alloc (.cells #[.string (bs m), .string (bs t), .int .i64 v, .slice a l.length c] 42)) (w.alloc (.cells #[.string (bs m), .string (bs t), .int .i64 v, .slice a l.length c] 42)).heap.size (.agg #[.string (bs m), .string (bs t), .int .i64 v, .slice a l.length c]) ⟨m, t, v, l⟩ := ((HH.out.wide h1).later hb0)
  obtain ⟨N, hN⟩ : ∃ N, w.heap.size = N := ⟨_, rfl⟩
  rw [hN] at hx
  have HB0 := Lib.hid hb0
  have HX0 := Lib.hid hx
  obtain ⟨W, hW⟩ : ∃ W, w.alloc (.cells #[.string (bs m), .string (bs t), .int .i64 v, .slice a l.length c] 42) = W := ⟨_, rfl⟩
  rw [hW] at HB0 HX0 hv0
  have HV1 := Lib.hid (values_any nTra hv0 (Nat.le_refl _) hf.1 hf.n)
  have HV2 := Lib.hid (fun (wx : World) (hb : Below W.heap.size W wx) => values_any nLen (hv0.later hb) (Nat.le_refl _) hf.1 hf.n)
  have HMM := Lib.hid (fun x (hx : x ∈ vals l nLen) => vals_mem hx)
  have HFF := Lib.hid hf
  have HLV := Lib.hid (vals_len l nLen)
  have HE := Lib.hid (show lenH l = if vals l nTra = [] then lenV (vals l nLen) else (0, 501) from rfl)
  obtain ⟨R, hR⟩ : ∃ R, lenH l = R := ⟨_, rfl⟩
  simp only at HV1 HV2
  rw [hR] at HE ⊢
  obtain ⟨L1, hL1⟩ : ∃ L, vals l nTra = L := ⟨_, rfl⟩
  obtain ⟨L, hL⟩ : ∃ L, vals l nLen = L := ⟨_, rfl⟩
  rw [hL1] at HV1 HE
  rw [hL] at HE HMM HLV
  simp only [hL] at HV2
  obtain ⟨c0, c1, c2, c3⟩ := HX0.out.four
  clear hs0 hb0 hx hv0 hf hR hL1 hL
  go_enter Tryz.func52, Tryz.ntmps52
  go_wp2_with fail
  refine (HV1.out).mono ?_; rintro e w1 ⟨v1, rfl, ho1, hb1⟩
  obtain ⟨a1, k1, rfl⟩ := ho1.shape
  have HD1 := Lib.hid hb1
  have HX1 := Lib.hid (HX0.out.below (by simp) hb1)
  clear hb1 ho1 c0 c1 c2 c3
  cases L1 with
  | cons y r =>
    have HR := Lib.hid (show R = (0, 501) from HE.out.trans (if_neg (by simp)))
    have t1 : (0 : Int) < ((y :: r).length : Nat) := by rw [List.length_cons]; omega
    go_wp2_with fail
    go_ret2
    exact ⟨by rw [HR.out]; rfl, HB0.out.trans (HD1.out.mono HB0.out.size)⟩
  | nil =>
    have HE2 := Lib.hid (show R = lenV L from HE.out.trans (if_pos rfl))
    clear HE
    obtain ⟨c0, c1, c2, c3⟩ := HX1.out.four
    go_wp2_with fail
    refine (HV2.out _ HD1.out).mono ?_; rintro e w2 ⟨v2, rfl, ho2, hb2⟩
    obtain ⟨a2, k2, rfl⟩ := ho2.shape
    have HD2 := Lib.hid (bel_call HD1.out hb2)
    have HS2 := Lib.hid (st_at ho2.st)
    clear hb2 ho2 c0 c1 c2 c3
    cases L with
    | nil =>
      have HR := Lib.hid (show R = (-1, 200) from HE2.out)
      go_wp2_with fail
      go_ret2
      exact ⟨by rw [HR.out]; rfl, HB0.out.trans (HD2.out.mono HB0.out.size)⟩
    | cons f r =>
      obtain ⟨L, hL⟩ : ∃ L, f :: r = L := ⟨_, rfl⟩
      have HE3 := Lib.hid (show R = if L.any (badN f) then (0, 400) else if 65535 < num f then (0, 413) else (((num f : Nat) : Int), 200) by rw [HE2.out, ← hL]; rfl)
      have hl0 : 0 < L.length := by rw [← hL]; simp
      have H0 := Lib.hid (show L[0]? = some f by rw [← hL]; rfl)
      have HFM := Lib.hid (show f ∈ L by rw [← hL]; simp)
      rw [hL] at HMM HLV HS2 ⊢
      obtain ⟨g2, o2, rfl, _, _, hc⟩ := HS2.out hl0
      have HC := Lib.hid hc
      have t1 : ((L.length : Int) == 0) = false := by rw [beq_eq_false_iff_ne]; omega
      have HL0 := Lib.hid hl0
      have hq0 : w2.cell? ⟨g2, o2, none⟩ = some (.string (bs f)) := by
        have h5 := hc 0 hl0
        have h6 := H0.out
        rw [List.getElem?_eq_getElem hl0] at h6
        injection h6 with h6
        rw [h6, Nat.add_zero] at h5
        exact h5
      have HQ0 := Lib.hid hq0
      clear hL HE2 HS2 hc hl0 hq0
      go_wp2_with fail
      clear t1
      go_loopg [20] L.length (fun n v20 wr => ∃ k : Nat, k + n = L.length ∧ v20 = .int .i64 k ∧ Hid ((L.take k).any (badN f) = false) ∧ Hid (Below w2.heap.size w2 wr))
      case atStart => exact ⟨0, by omega, rfl, Lib.hid rfl, Lib.hid (Below.refl _ _)⟩
      case round =>
        obtain ⟨k, hk, rfl, HA, HB⟩ := hrel
        have hkb : k ≤ 900000 := by have := HLV.out; have := HFF.out.1; simp only at this; omega
        have p00 := cell_later HB.out HQ0.out
        by_cases hlt : k < L.length
        · have p0 := cell_later HB.out (HC.out k hlt)
          have htk : L.take (k + 1) = L.take k ++ [L[k]] := by rw [List.take_add_one, List.getElem?_eq_getElem hlt]; rfl
          have HAY := Lib.hid (show badN f L[k] = false → (L.take (k + 1)).any (badN f) = false from fun h => by rw [htk, List.any_append, HA.out]; simp [h])
          have HAN := Lib.hid (show badN f L[k] = true → R = (0, 400) from fun h => by
            rw [HE3.out, if_pos (List.any_eq_true.mpr ⟨_, List.getElem_mem hlt, h⟩)])
          have hbx : L[k].length ≤ 140737488351232 := by
            obtain ⟨y, hy, e⟩ := HMM.out L[k] (List.getElem_mem hlt)
            rw [e]; exact (HFF.out.2 y hy).2
          obtain ⟨x, hx⟩ : ∃ x, L[k] = x := ⟨_, rfl⟩
          rw [hx] at p0 HAY HAN hbx
          have HBN := Lib.hid (show badN f x = (x == [] || (decide (10 < x.length) || (!(onlyR dR x) || x != f))) from rfl)
          have HDG := Lib.hid (fun w => digits_any x hbx w)
          obtain ⟨K1, hK1⟩ : ∃ K, onlyR dR x = K := ⟨_, rfl⟩
          rw [hK1] at HBN
          simp only [hK1] at HDG
          have q1 : ((bs x).toList == []) = (x == []) := by rw [bs_toList]
          have q2 : (!((bs x).toList == (bs f).toList)) = (x != f) := by rw [bs_toList, bs_toList]; rfl
          obtain ⟨E1, hE1⟩ : ∃ K, (x == []) = K := ⟨_, rfl⟩
          obtain ⟨E2, hE2⟩ : ∃ K, (x != f) = K := ⟨_, rfl⟩
          rw [hE1] at q1 HBN
          rw [hE2] at q2 HBN
          clear hx htk hK1 hE1 hE2
          cases E1 with
          | true =>
            have HR := Lib.hid (HAN.out (by rw [HBN.out]; rfl))
            go_wp2_with fail
            go_ret2
            exact ⟨by rw [HR.out]; rfl, HB0.out.trans ((bel_call HD2.out HB.out).mono HB0.out.size)⟩
          | false =>
            by_cases h10 : 10 < x.length
            · have HR := Lib.hid (HAN.out (by rw [HBN.out, decide_eq_true h10]; rfl))
              have t1 : (10 : Int) < x.length := by omega
              clear h10 hbx
              go_wp2_with fail
              go_ret2
              exact ⟨by rw [HR.out]; rfl, HB0.out.trans ((bel_call HD2.out HB.out).mono HB0.out.size)⟩
            · have t1 : ¬ ((10 : Int) < x.length) := by omega
              rw [decide_eq_false h10] at HBN
              clear h10 hbx
              cases K1 with
              | false =>
                have HR := Lib.hid (HAN.out (by rw [HBN.out]; rfl))
                go_wp2_with fail
                refine (HDG.out _).mono ?_; rintro e w3 ⟨rfl, hb3⟩
                have HB3 := Lib.hid (bel_call HB.out hb3)
                clear hb3
                go_wp2_with fail
                go_ret2
                exact ⟨by rw [HR.out]; rfl, HB0.out.trans ((bel_call HD2.out HB3.out).mono HB0.out.size)⟩
              | true =>
                have P0 := Lib.hid p00
                go_wp2_with fail
                refine (HDG.out _).mono ?_; rintro e w3 ⟨rfl, hb3⟩
                have HB3 := Lib.hid (bel_call HB.out hb3)
                have p3 := cell_later hb3 P0.out
                clear hb3 p0 p00
                cases E2 with
                | true =>
                  have HR := Lib.hid (HAN.out (by rw [HBN.out]; rfl))
                  go_wp2_with fail
                  go_ret2
                  exact ⟨by rw [HR.out]; rfl, HB0.out.trans ((bel_call HD2.out HB3.out).mono HB0.out.size)⟩
                | false =>
                  have HAA := Lib.hid (HAY.out (by rw [HBN.out]; rfl))
                  go_wp2_with fail
                  go_roundg (L.length - (k + 1))
                  case measure => omega
                  case rel => exact ⟨k + 1, by omega, by go_num, HAA, HB3⟩
        · have t1 : ¬ ((k : Int) < L.length) := by omega
          have hany : L.any (badN f) = false := by
            have := HA.out
            rwa [List.take_of_length_le (by omega)] at this
          have HE4 := Lib.hid (show R = if 65535 < num f then (0, 413) else (((num f : Nat) : Int), 200) by rw [HE3.out, hany]; rfl)
          have hff := List.any_eq_false.mp hany f HFM.out
          have hff2 : f ≠ [] ∧ onlyR dR f = true ∧ f.length ≤ 10 := by
            unfold badN at hff
            simp at hff
            exact ⟨hff.1, hff.2.2, hff.2.1⟩
          have HPI := Lib.hid (parseInt_any f hff2.1 hff2.2.1 hff2.2.2 wr)
          have HNM := Lib.hid (parse_dec f hff2.1 hff2.2.1 hff2.2.2).2
          have hl0 : (0 : Int) < L.length := by have := HL0.out; omega
          obtain ⟨M, hM⟩ : ∃ M, num f = M := ⟨_, rfl⟩
          rw [hM] at HE4 HPI HNM
          clear hany hff hff2 hM HE3
          go_wp2_with fail
          refine (HPI.out).mono ?_; rintro e w3 ⟨rfl, hb3⟩
          have HB3 := Lib.hid (bel_call HB.out hb3)
          clear hb3
          by_cases h6 : 65535 < M
          · have HR := Lib.hid (show R = (0, 413) from HE4.out.trans (if_pos h6))
            have t6 : (65535 : Int) < M := by omega
            go_wp2_with fail
            go_ret2
            exact ⟨by rw [HR.out]; rfl, HB0.out.trans ((bel_call HD2.out HB3.out).mono HB0.out.size)⟩
          · have HR := Lib.hid (show R = (((M : Nat) : Int), 200) from HE4.out.trans (if_neg h6))
            have t6 : ¬ ((65535 : Int) < M) := by omega
            go_wp2_with fail
            go_ret2
            exact ⟨by rw [HR.out]; rfl, HB0.out.trans ((bel_call HD2.out HB3.out).mono HB0.out.size)⟩
end Go.Proofs.YtkoohdacneflfaaGreatDoor

/-
  The document's Length.
-/
namespace Go.Proofs.YtkoohdacneflfaaGreatDoor
open Go.RowKit Go.Shelf
set_option linter.unusedVariables false
set_option linter.unusedSimpArgs false
set_option maxRecDepth 100000

theorem any_bad (f : List UInt8) (r : List (List UInt8)) : (f :: r).any (badN f) = ((f :: r).any (fun v => v != f) || (f == [] || (decide (10 < f.length) || !(onlyR dR f)))) := by
  have hb : ∀ v, badN f v = (v == [] || (decide (10 < v.length) || (!(onlyR dR v) || v != f))) := fun _ => rfl
  rw [Bool.eq_iff_iff]
  constructor
  · intro h
    obtain ⟨v, hv, h⟩ := List.any_eq_true.mp h
    by_cases e : v = f
    · subst e
      rw [hb] at h
      simp only [Bool.or_eq_true, bne_self_eq_false, Bool.or_false] at h ⊢
      exact .inr h
    · rw [Bool.or_eq_true]
      exact .inl (List.any_eq_true.mpr ⟨v, hv, by simpa using e⟩)
  · intro h
    rw [Bool.or_eq_true] at h
    rcases h with h | h
    · obtain ⟨v, hv, h⟩ := List.any_eq_true.mp h
      refine List.any_eq_true.mpr ⟨v, hv, ?_⟩
      rw [hb, h]
      simp
    · refine List.any_eq_true.mpr ⟨f, by simp, ?_⟩
      rw [hb]
      simp only [Bool.or_eq_true] at h ⊢
      rcases h with h | h | h
      · exact .inl h
      · exact .inr (.inl h)
      · exact .inr (.inr (.inl h))
theorem numA_step (s : List UInt8) (k : Nat) (hk : k < s.length) : numA 0 (s.take (k + 1)) = 10 * numA 0 (s.take k) + (s[k].toNat - 48) := by
  rw [List.take_add_one, List.getElem?_eq_getElem hk]
  unfold numA
  rw [List.foldl_append]
  rfl
theorem onlyD_step (s : List UInt8) (k : Nat) (hk : k < s.length) : onlyR dR (s.take (k + 1)) = (onlyR dR (s.take k) && inR dR s[k].toNat) := by
  rw [List.take_add_one, List.getElem?_eq_getElem hk]
  unfold onlyR
  rw [List.all_append]
  simp
theorem onlyD_no (s : List UInt8) (k : Nat) (hk : k < s.length) (h : inR dR s[k].toNat = false) : onlyR dR s = false := by
  unfold onlyR
  rw [← Bool.not_eq_true, List.all_eq_true]
  intro h2
  have := h2 _ (List.getElem_mem hk)
  rw [h] at this; cases this

set_option maxHeartbeats 8000000 in
theorem rlength_any {w : World} {hi : Nat} {u : Value} {h : Hd} (hh : Hv w hi u h) (h1 : hi ≤ w.heap.size) (hf : Fits h) :
    Calls Tryz.prog 39 #[u] w (Tells w (.tuple #[.int .i64 (lenH h.fs).1, .int .i64 (lenH h.fs).2])) := by
  obtain ⟨m, t, v, l⟩ := h
  have HH := Lib.hid hh
  obtain ⟨sl, rfl, hs0⟩ := hh
  simp only at hs0 ⊢
  obtain ⟨a, c, rfl⟩ := Lst.shape hs0
  have hb0 : Below w.heap.size w (w.alloc (.cells #[.string (bs m), .string (bs t), .int .i64 v, .slice a l.length c] 42)) := (Below.refl _ _).alloc (Nat.le_refl _) _
  have hx := cel_new4 w (.string (bs m)) (.string (bs t)) (.int .i64 v) (.slice a l.length c) 42
  have hv0 : Hv (w.alloc (.cells #[.string (bs m), .string (bs t), .int .i64 v, .slice a l.length c] 42)) (w.alloc (.cells #[.string (bs m), .string (bs t), .int .i64 v, .slice a l.length c] 42)).heap.size (.agg #[.string (bs m), .string (bs t), .int .i64 v, .slice a l.length c]) ⟨m, t, v, l⟩ := ((HH.out.wide h1).later hb0)
  obtain ⟨N, hN⟩ : ∃ N, w.heap.size = N := ⟨_, rfl⟩
  rw [hN] at hx
  have HB0 := Lib.hid hb0
  have HX0 := Lib.hid hx
  obtain ⟨W, hW⟩ : ∃ W, w.alloc (.cells #[.string (bs m), .string (bs t), .int .i64 v, .slice a l.length c] 42) = W := ⟨_, rfl⟩
  rw [hW] at HB0 HX0 hv0
  have HV0 := Lib.hid hv0
  have HF1 := Lib.hid (rfield_any nTra hv0 (Nat.le_refl _) hf)
  have HF2 := Lib.hid (fun (wx : World) (hb : Below W.heap.size W wx) => rfield_any nLen (hv0.later hb) (Nat.le_refl _) hf)
  have HFF := Lib.hid hf
  have HLN := Lib.hid (show l.length ≤ 900000 from hf.1)
  have HE := Lib.hid (show lenH l = if vals l nTra = [] then lenV (vals l nLen) else (0, 501) from rfl)
  have HVV := Lib.hid (fun k (hk : k < l.length) => vals_step l nLen k hk)
  obtain ⟨R, hR⟩ : ∃ R, lenH l = R := ⟨_, rfl⟩
  unfold fldH at HF1 HF2
  simp only at HF1 HF2
  rw [hR] at HE ⊢
  obtain ⟨L1, hL1⟩ : ∃ L, vals l nTra = L := ⟨_, rfl⟩
  obtain ⟨L, hL⟩ : ∃ L, vals l nLen = L := ⟨_, rfl⟩
  have HVL := Lib.hid hL
  rw [hL1] at HF1 HE
  rw [hL] at HE
  simp only [hL] at HF2
  obtain ⟨c0, c1, c2, c3⟩ := HX0.out.four
  clear hs0 hb0 hx hv0 hf hR hL1 hL
  go_enter Tryz.func39, Tryz.ntmps39
  go_wp2_with fail
  refine (HF1.out).mono ?_; rintro e w1 ⟨rfl, hb1⟩
  have HD1 := Lib.hid hb1
  have HX1 := Lib.hid (HX0.out.below (by simp) hb1)
  clear hb1 c0 c1 c2 c3
  cases L1 with
  | cons y r =>
    have HR := Lib.hid (show R = (0, 501) from HE.out.trans (if_neg (by simp)))
    have t1 : (0 : Int) < ((y :: r).length : Nat) := by rw [List.length_cons]; omega
    go_wp2_with fail
    go_ret2
    exact ⟨by rw [HR.out]; rfl, HB0.out.trans (HD1.out.mono HB0.out.size)⟩
  | nil =>
    have HE2 := Lib.hid (show R = lenV L from HE.out.trans (if_pos rfl))
    clear HE
    obtain ⟨c0, c1, c2, c3⟩ := HX1.out.four
    go_wp2_with fail
    refine (HF2.out _ HD1.out).mono ?_; rintro e w2 ⟨rfl, hb2⟩
    have HD2 := Lib.hid (bel_call HD1.out hb2)
    have HX2 := Lib.hid (HX1.out.below (by simp) hb2)
    have HV2 := Lib.hid (HV0.out.later (bel_call HD1.out hb2))
    clear hb2 c0 c1 c2 c3
    cases L with
    | nil =>
      have HR := Lib.hid (show R = (-1, 200) from HE2.out)
      go_wp2_with fail
      go_ret2
      exact ⟨by rw [HR.out]; rfl, HB0.out.trans (HD2.out.mono HB0.out.size)⟩
    | cons f r =>
      have HE3 := Lib.hid (show R = if ((vals l nLen).any (fun v => v != f) || (f == [] || (decide (10 < f.length) || !(onlyR dR f)))) = true then (0, 400) else if 65535 < num f then (0, 413) else (((num f : Nat) : Int), 200) by rw [HE2.out, HVL.out, ← any_bad]; rfl)
      have t1 : ((((f :: r).length : Nat) : Int) == 0) = false := by rw [beq_eq_false_iff_ne, List.length_cons]; omega
      have hfd : (f :: r).headD [] = f := rfl
      clear HE2
      go_wp2_with fail
      clear t1
      go_loopg [8] l.length (fun n v8 wr => ∃ k : Nat, k + n = l.length ∧ v8 = .int .i64 k ∧ Hid ((vals (l.take k) nLen).any (fun v => v != f) = false) ∧ Hid (Below w2.heap.size w2 wr))
      case atStart => exact ⟨0, by omega, rfl, Lib.hid rfl, Lib.hid (Below.refl _ _)⟩
      case round =>
        obtain ⟨k, hk, rfl, HA, HB⟩ := hrel
        have hkb : k ≤ 900000 := by have := HLN.out; omega
        obtain ⟨c0, c1, c2, c3⟩ := (HX2.out.below (by simp) HB.out).four
        by_cases hlt : k < l.length
        · obtain ⟨b, off, c2', he, hb, hc⟩ := (HV2.out.later HB.out).sf.at_ k hlt
          injection he with he hn3 hc3
          clear hn3 hc3
          subst he
          have HAT := Lib.hid (And.intro hc (show b < wr.heap.size from hb))
          obtain ⟨p0, p1⟩ := hc
          have hvs := HVV.out k hlt
          have hln := HFF.out.2 l[k] (List.getElem_mem hlt)
          have HMM := Lib.hid (show sameN l[k].1 nLen = true → l[k].2 ∈ vals l nLen from fun h => by
            unfold vals
            exact List.mem_map.mpr ⟨l[k], List.mem_filter.mpr ⟨List.getElem_mem hlt, h⟩, rfl⟩)
          obtain ⟨x, hx⟩ : ∃ x, l[k] = x := ⟨_, rfl⟩
          rw [hx] at p0 p1 hvs hln HAT HMM
          have HSM := Lib.hid (rsame_any x.1 nLen (by omega) wr)
          obtain ⟨S, hS⟩ : ∃ S, sameN x.1 nLen = S := ⟨_, rfl⟩
          rw [hS] at HSM hvs HMM
          have HVS := Lib.hid hvs
          clear hS hvs hln hx hb
          go_wp2_with fail
          refine (HSM.out).mono ?_; rintro e w3 ⟨rfl, hb3⟩
          have HB3 := Lib.hid (bel_call HB.out hb3)
          obtain ⟨q0, q1⟩ := HAT.out.1.keep fun o => hb3.cell (p := ⟨b, o, none⟩) HAT.out.2
          clear hb3 c0 c1 c2 c3 p0 p1
          obtain ⟨c0, c1, c2, c3⟩ := (HX2.out.below (by simp) HB3.out).four
          cases S with
          | true =>
            have q2 : (!((bs x.2).toList == (bs f).toList)) = (x.2 != f) := by rw [bs_toList, bs_toList]; rfl
            obtain ⟨E2, hE2⟩ : ∃ K, (x.2 != f) = K := ⟨_, rfl⟩
            rw [hE2] at q2
            cases E2 with
            | true =>
              have HR := Lib.hid (show R = (0, 400) by
                rw [HE3.out, List.any_eq_true.mpr ⟨x.2, HMM.out rfl, hE2⟩]; rfl)
              clear hE2
              go_wp2_with fail
              go_ret2
              exact ⟨by rw [HR.out]; rfl, HB0.out.trans ((bel_call HD2.out HB3.out).mono HB0.out.size)⟩
            | false =>
              have HAA := Lib.hid (show (vals (l.take (k + 1)) nLen).any (fun v => v != f) = false by rw [HVS.out, List.any_append, HA.out]; simp [hE2])
              clear hE2
              go_wp2_with fail
              go_roundg (l.length - (k + 1))
              case measure => omega
              case rel => exact ⟨k + 1, by omega, by go_num, HAA, HB3⟩
          | false =>
            have HAA := Lib.hid (show (vals (l.take (k + 1)) nLen).any (fun v => v != f) = false by rw [HVS.out, List.any_append, HA.out]; simp)
            go_wp2_with fail
            go_roundg (l.length - (k + 1))
            case measure => omega
            case rel => exact ⟨k + 1, by omega, by go_num, HAA, HB3⟩
        · have t1 : ¬ ((k : Int) < l.length) := by omega
          have hany : (vals l nLen).any (fun v => v != f) = false := by
            have := HA.out
            rwa [List.take_of_length_le (by omega)] at this
          have HE4 := Lib.hid (show R = if (f == [] || (decide (10 < f.length) || !(onlyR dR f))) = true then (0, 400) else if 65535 < num f then (0, 413) else (((num f : Nat) : Int), 200) by rw [HE3.out, hany]; rfl)
          clear hany HE3
          by_cases f0 : f.length < 1
          · have HR := Lib.hid (show R = (0, 400) by
              have : f = [] := List.eq_nil_of_length_eq_zero (by omega)
              rw [HE4.out, this]; rfl)
            have t2 : (f.length : Int) < 1 := by omega
            clear f0
            go_wp2_with fail
            go_ret2
            exact ⟨by rw [HR.out]; rfl, HB0.out.trans ((bel_call HD2.out HB.out).mono HB0.out.size)⟩
          · have t2 : decide ((f.length : Int) < 1) = false := by simp; omega
            have hfe : (f == []) = false := by
              rw [beq_eq_false_iff_ne]
              intro e; rw [e] at f0; simp at f0
            by_cases f1 : 10 < f.length
            · have HR := Lib.hid (show R = (0, 400) by rw [HE4.out, decide_eq_true f1]; simp)
              have t3 : (10 : Int) < f.length := by omega
              clear f0 f1 hfe
              go_wp2_with fail
              go_ret2
              exact ⟨by rw [HR.out]; rfl, HB0.out.trans ((bel_call HD2.out HB.out).mono HB0.out.size)⟩
            · have t3 : ¬ ((10 : Int) < f.length) := by omega
              have HE5 := Lib.hid (show R = if (!(onlyR dR f)) = true then (0, 400) else if 65535 < num f then (0, 413) else (((num f : Nat) : Int), 200) by rw [HE4.out, hfe, decide_eq_false f1]; rfl)
              have HF10 := Lib.hid (show f.length ≤ 10 by omega)
              clear f0 f1 hfe HE4
              go_wp2_with fail
              clear t2 t3 c0 c1 c2 c3
              go_loopg [9, 10] f.length (fun n v9 v10 wq => ∃ k s : Nat, k + n = f.length ∧ v10 = .int .i64 k ∧ v9 = .int .i64 s ∧ Hid (onlyR dR (f.take k) = true) ∧ Hid (numA 0 (f.take k) = s) ∧ Hid (Below w2.heap.size w2 wq))
              case atStart => exact ⟨0, 0, by omega, rfl, rfl, Lib.hid rfl, Lib.hid rfl, HB⟩
              case round =>
                clear HA HB t1 hk
                obtain ⟨k, s, hk, rfl, rfl, HO, HS, HB⟩ := hrel
                have hk10 : k ≤ 10 := by have := HF10.out; omega
                have hs10 : s < 10 ^ k := by
                  have := numA_lt (f.take k) 0 HO.out
                  rw [HS.out, List.length_take, Nat.min_eq_left (by omega), Nat.zero_add, Nat.one_mul] at this
                  exact this
                have hs11 : s < 10000000000 := Nat.lt_of_lt_of_le hs10 (Nat.pow_le_pow_right (n := 10) (by omega) hk10)
                by_cases hlt : k < f.length
                · have ia := ix_run f k hlt
                  have hns := numA_step f k hlt
                  have hos := onlyD_step f k hlt
                  have HNO := Lib.hid (fun h => onlyD_no f k hlt h)
                  rw [HS.out] at hns
                  rw [HO.out, Bool.true_and] at hos
                  obtain ⟨x, hx⟩ : ∃ x, f[k] = x := ⟨_, rfl⟩
                  rw [hx] at ia hns hos HNO
                  have HDG := Lib.hid (fun w => digit_any x w)
                  have hin := inD x.toNat
                  have hx8 := x.toNat_lt
                  obtain ⟨p, hp⟩ : ∃ p, x.toNat = p := ⟨_, rfl⟩
                  simp only [hp] at HDG
                  rw [hp] at ia hns hos HNO hin hx8
                  obtain ⟨K, hK⟩ : ∃ K, inR dR p = K := ⟨_, rfl⟩
                  simp only [hK] at HDG
                  rw [hK] at hos HNO hin
                  clear hx hK hp hs10
                  cases K with
                  | false =>
                    have HR := Lib.hid (show R = (0, 400) by rw [HE5.out, HNO.out rfl]; rfl)
                    clear hin hns hos
                    go_wp2_with fail
                    refine (HDG.out _).mono ?_; rintro e w5 ⟨rfl, rfl⟩
                    go_wp2_with fail
                    go_ret2
                    exact ⟨by rw [HR.out]; rfl, HB0.out.trans ((bel_call HD2.out HB.out).mono HB0.out.size)⟩
                  | true =>
                    have hpr : 48 ≤ p ∧ p ≤ 57 := by simpa using hin.symm
                    have HNS := Lib.hid hns
                    have HOS := Lib.hid hos
                    clear hin hns hos
                    go_wp2_with fail
                    refine (HDG.out _).mono ?_; rintro e w5 ⟨rfl, rfl⟩
                    go_wp2_with fail
                    go_roundg (f.length - (k + 1))
                    case measure => omega
                    case rel => exact ⟨k + 1, 10 * s + (p - 48), by omega, by go_num, by go_num, HOS, HNS, HB⟩
                · have t1 : ¬ ((k : Int) < f.length) := by omega
                  have hof : onlyR dR f = true := by
                    have := HO.out
                    rwa [List.take_of_length_le (by omega)] at this
                  have hnf : num f = s := by
                    have := HS.out
                    rw [List.take_of_length_le (by omega)] at this
                    exact this
                  have HE6 := Lib.hid (show R = if 65535 < s then (0, 413) else (((s : Nat) : Int), 200) by rw [HE5.out, hof, hnf]; rfl)
                  clear hof hnf HE5 hs10
                  by_cases h6 : 65535 < s
                  · have HR := Lib.hid (show R = (0, 413) from HE6.out.trans (if_pos h6))
                    have t6 : (65535 : Int) < s := by omega
                    go_wp2_with fail
                    go_ret2
                    exact ⟨by rw [HR.out]; rfl, HB0.out.trans ((bel_call HD2.out HB.out).mono HB0.out.size)⟩
                  · have HR := Lib.hid (show R = (((s : Nat) : Int), 200) from HE6.out.trans (if_neg h6))
                    have t6 : ¬ ((65535 : Int) < s) := by omega
                    go_wp2_with fail
                    go_ret2
                    exact ⟨by rw [HR.out]; rfl, HB0.out.trans ((bel_call HD2.out HB.out).mono HB0.out.size)⟩
end Go.Proofs.YtkoohdacneflfaaGreatDoor

/-
  The iterator that goes along the words of a text.
-/
namespace Go.Proofs.YtkoohdacneflfaaGreatDoor
open Go.RowKit Go.Shelf
set_option linter.unusedVariables false
set_option linter.unusedSimpArgs false
set_option maxRecDepth 100000

/-- The block of internal/bytealg.MaxLen. -/
def mxB : Nat := Tryz.lays143_ren.g 1
theorem idx_any {w : World} (r : List UInt8) (hr : r.length ≤ 1000000) (hm : ∃ m : Int, w.cell? ⟨mxB, 0, none⟩ = some (.int .i64 m)) : Calls Tryz.prog 124 #[.string (bs r), .string ⟨#[44]⟩] w fun e w' => e = .returned (.int .i64 (Lib.index r [44])) ∧ w' = w := by
  obtain ⟨m, hm⟩ := hm
  exact Tryz.strings_Index (bs r) ⟨#[44]⟩ m w (by rw [bs_size]; omega) hm

def StS (s : List UInt8) (B1 B2 B3 : Nat) (w : World) : Prop := w.cell? ⟨B1, 0, none⟩ = some (.string ⟨#[44]⟩) ∧ (w.cell? ⟨B2, 0, none⟩ = some (.string (bs s)) ∧ w.frozen? ⟨B2, 0, none⟩ = false) ∧ w.cell? ⟨B3, 0, none⟩ = some (.int .i64 0) ∧ ∃ m : Int, w.cell? ⟨mxB, 0, none⟩ = some (.int .i64 m)
theorem StS.kept {s : List UInt8} {B1 B2 B3 : Nat} {A B : World} (h : StS s B1 B2 B3 A) (hk : ∀ b, (b = B1 ∨ b = B2 ∨ b = B3 ∨ b = mxB) → B.heap[b]? = A.heap[b]?) : StS s B1 B2 B3 B := by
  obtain ⟨h1, ⟨h2, h3⟩, h4, m, h5⟩ := h
  refine ⟨(World.cell?_of_block (hk B1 (.inl rfl))).trans h1, ⟨(World.cell?_of_block (hk B2 (.inr (.inl rfl)))).trans h2, ?_⟩, (World.cell?_of_block (hk B3 (.inr (.inr (.inl rfl))))).trans h4, m, (World.cell?_of_block (hk mxB (.inr (.inr (.inr rfl))))).trans h5⟩
  exact (World.frozen?_of_block (w := A) (hk B2 (.inr (.inl rfl)))).trans h3

theorem spl_along {c : UInt8} {r : List UInt8} (h : c ∈ r) : spl c r = r.takeWhile (· != c) :: spl c (r.drop ((r.takeWhile (· != c)).length + 1)) := spl_cut c r h

def szAt (w : World) (b : Nat) : Nat := match w.cell? ⟨b, 0, none⟩ with | some (.string s) => s.size | _ => 0

set_option maxHeartbeats 4000000 in
theorem split_seq (s : List UInt8) (B1 B2 B3 : Nat) (hs : s.length ≤ 1000000) (h12 : B1 ≠ B2) (h32 : B3 ≠ B2) (hm2 : mxB ≠ B2) :
    SeqT Tryz.prog 122 #[.pointer (some ⟨B1, 0, none⟩), .pointer (some ⟨B2, 0, none⟩), .pointer (some ⟨B3, 0, none⟩)] (fun b => b = B1 ∨ b = B2 ∨ b = B3 ∨ b = mxB) (fun b => b = B2) ((spl 44 s).map bs) none (StS s B1 B2 B3) := by
  intro ll J Jx W hJ hY hSt h0
  rw [List.length_map]
  show CallsIn _ _ _ _ #[.func (.yield ll) #[] #[], .pointer (some ⟨B1, 0, none⟩), .pointer (some ⟨B2, 0, none⟩), .pointer (some ⟨B3, 0, none⟩)] _ _
  obtain ⟨X, hX⟩ : ∃ X, spl 44 s = X := ⟨_, rfl⟩
  have H00 := Lib.hid (show X.drop 0 = spl 44 s ∧ 0 ≤ X.length from ⟨by rw [List.drop_zero, hX], by omega⟩)
  rw [hX] at hY ⊢
  have HY := Lib.hid hY
  have HJA := Lib.hid hJ
  have HSt := Lib.hid hSt
  have HNE := Lib.hid (And.intro h12 (And.intro h32 hm2))
  obtain ⟨c1, ⟨c2, f2⟩, c3, m, c4⟩ := hSt
  clear hY hJ hX h12 h32 hm2
  refine callsIn_of_wp Tryz.func122 rfl trivial ?_
  simp only [Tryz.ntmps122, List.size_toArray, List.length_cons, List.length_nil, Nat.reduceAdd, Nat.reduceSub, Array.replicate_succ,
     Array.replicate_zero, List.push_toArray, List.append_toArray, List.nil_append, List.cons_append]
  gi_wp2_with fail
  clear c1 c2 f2 c3 c4
  gi_loopw [7] (fun _ wr => ∃ (r : List UInt8) (k : Nat), r.length ≤ 1000000 ∧ Hid (X.drop k = spl 44 r ∧ k ≤ X.length) ∧ Hid (StS r B1 B2 B3 wr) ∧ Hid (J k wr)) (fun _ wr => szAt wr B2)
  case atStart => exact ⟨s, 0, hs, H00, HSt, h0⟩
  case round =>
    obtain ⟨r, k, hr, HL, HW, HJ⟩ := hrel
    have hz : szAt wr B2 = r.length := by unfold szAt; rw [HW.out.2.1.1]; exact bs_size r
    rw [hz]
    clear hz
    obtain ⟨c1, ⟨c2, f2⟩, c3, m, c4⟩ := HW.out
    have HI := Lib.hid (idx_any r hr HW.out.2.2.2)
    have hix := index1 r 44
    by_cases hin : (44 : UInt8) ∈ r
    · rw [if_pos hin] at hix
      obtain ⟨ht1, ht2⟩ := tw_at r 44 hin
      have hsp := spl_along hin
      have htk := tw_take r 44
      obtain ⟨x, hx⟩ : ∃ x, r.takeWhile (· != 44) = x := ⟨_, rfl⟩
      rw [hx] at hix ht2 hsp htk
      obtain ⟨y, hy⟩ : ∃ y, r.drop (x.length + 1) = y := ⟨_, rfl⟩
      have hyl : y.length + (x.length + 1) = r.length := by rw [← hy, List.length_drop]; omega
      rw [hy] at hsp
      rw [hix] at HI
      have r1 : ∀ w, (Instr.slice 9 (.string (bs r)) none (some (.int .i64 (x.length : Nat))) none).run Tryz.prog w = .ok (.string (bs x)) w := fun w => by
        have := take_run r x.length (by omega) w
        rw [htk] at this; exact this
      have r2 : ∀ w, (Instr.slice 9 (.string (bs r)) (some (.int .i64 (x.length + 1))) none none).run Tryz.prog w = .ok (.string (bs y)) w := fun w => by
        have := from_run r (x.length + 1) (by omega) w
        rw [hy] at this
        exact_mod_cast this
      obtain ⟨hx1, hx2, hx3⟩ := along_step (HL.out.1.trans hsp)
      have HX2 := Lib.hid (And.intro hx2 hx3)
      obtain ⟨fn, tmps, assign, body, hyy, hR⟩ := HY.out k wr (bs x) (by rw [List.getElem?_map, hx1]; rfl) HJ.out
      have HYL := Lib.hid hyl
      have hyb : y.length ≤ 1000000 := by have := HYL.out; omega
      have hxl : x.length + 1 ≤ 1000000 := by omega
      have hxr : x.length + 1 ≤ r.length := by omega
      clear hin hix ht1 ht2 hsp htk hx hy hx1 hx2 hx3 hyl
      gi_wp2_with fail
      refine ⟨trivial, rfl, (callsIn_wide.2 HI.out).mono ?_⟩
      rintro e w2 ⟨rfl, rfl⟩
      gi_wp2_with fail
      refine ⟨rfl, hR.mono ?_⟩
      rintro e4 w4 (⟨rfl, hJ', hs4, hk4⟩ | ⟨rfl, hJx⟩)
      · have HW4 := Lib.hid (HW.out.kept hk4)
        have HJ4 := Lib.hid hJ'
        have HJ5 := Lib.hid (HJA.out (k + 1) w4 (w4.setCell ⟨B2, 0, none⟩ (.string (bs y))) hJ' (Aside.setCell _ _ rfl))
        clear hk4 hJ' hs4 c1 c2 f2 c3 c4
        obtain ⟨d1, ⟨d2, g2⟩, d3, m4, d4⟩ := HW4.out
        have HW5 := Lib.hid (show StS y B1 B2 B3 (w4.setCell ⟨B2, 0, none⟩ (.string (bs y))) from
          ⟨(World.cell?_setCell_other _ _ _ _ (fun e => HNE.out.1 (congrArg Addr.block e).symm)).trans d1,
            ⟨World.cell?_setCell_same _ _ _ d2, by rw [World.frozen?_setCell]; exact g2⟩,
            (World.cell?_setCell_other _ _ _ _ (fun e => HNE.out.2.1 (congrArg Addr.block e).symm)).trans d3, m4,
            (World.cell?_setCell_other _ _ _ _ (fun e => HNE.out.2.2 (congrArg Addr.block e).symm)).trans d4⟩)
        gi_wp2_with fail
        refine ⟨⟨y, k + 1, by omega, HX2, HW5, HJ5⟩, ?_⟩
        have hz : szAt (w4.setCell ⟨B2, 0, none⟩ (.string (bs y))) B2 = y.length := by unfold szAt; rw [HW5.out.2.1.1]; exact bs_size y
        rw [hz]
        have := HYL.out
        omega
      · have HJx := Lib.hid hJx
        clear hJx hR
        gi_wp2_with fail
        go_end0
        exact .inr (.inl ⟨⟨_, rfl⟩, k + 1, HX2.out.2, HJx.out⟩)
    · rw [if_neg hin] at hix
      rw [hix] at HI
      have hsp := spl_no 44 r hin
      obtain ⟨hx1, hx2, hx3⟩ := along_step (HL.out.1.trans hsp)
      have HK := Lib.hid (along_end hx2 hx3)
      obtain ⟨fn, tmps, assign, body, hyy, hR⟩ := HY.out k wr (bs r) (by rw [List.getElem?_map, hx1]; rfl) HJ.out
      clear hin hix hsp hx1 hx2
      gi_wp2_with fail
      refine ⟨trivial, rfl, (callsIn_wide.2 HI.out).mono ?_⟩
      rintro e w2 ⟨rfl, rfl⟩
      gi_wp2_with fail
      refine ⟨rfl, hR.mono ?_⟩
      rintro e4 w4 (⟨rfl, hJ', hs4, hk4⟩ | ⟨rfl, hJx⟩)
      · have HJ4 := Lib.hid hJ'
        clear hk4 hJ' hs4 c1 c2 f2 c3 c4
        gi_wp2_with fail
        go_end0
        exact .inl ⟨rfl, ⟨_, rfl⟩, HK.out ▸ HJ4.out⟩
      · have HJx := Lib.hid hJx
        clear hJx hR
        gi_wp2_with fail
        go_end0
        exact .inr (.inl ⟨⟨_, rfl⟩, k + 1, hx3, HJx.out⟩)
end Go.Proofs.YtkoohdacneflfaaGreatDoor

/-
  strings.SplitSeq; loops over an iterator in a loop: what is left to be taken over at the return.
-/
namespace Go.Proofs.YtkoohdacneflfaaGreatDoor
open Go.RowKit Go.Shelf
set_option linter.unusedVariables false
set_option linter.unusedSimpArgs false
set_option maxRecDepth 100000

/-- What strings.SplitSeq hands back: the function; its boxes. -/
def SsPost (s : List UInt8) (w : World) (e : Ending) (w' : World) : Prop :=
  e = .returned (.func (.func 122) #[] #[.pointer (some ⟨w.heap.size + 1, 0, none⟩), .pointer (some ⟨w.heap.size, 0, none⟩), .pointer (some ⟨w.heap.size + 2, 0, none⟩)]) ∧
  w'.cell? ⟨w.heap.size + 1, 0, none⟩ = some (.string ⟨#[44]⟩) ∧ w'.cell? ⟨w.heap.size, 0, none⟩ = some (.string (bs s)) ∧ w'.frozen? ⟨w.heap.size, 0, none⟩ = false ∧ w'.cell? ⟨w.heap.size + 2, 0, none⟩ = some (.int .i64 0) ∧
  w'.heap.size = w.heap.size + 3 ∧ Below w.heap.size w w'

set_option maxHeartbeats 1000000 in
theorem splitSeq1_any (s : List UInt8) (w : World) : Calls Tryz.prog 106 #[.string (bs s), .string ⟨#[44]⟩, .int .i64 0] w (SsPost s w) := by
  have hmf : ∀ (fn : Fn) (first cap : Array Value) (w : World), (Instr.makeFunc fn first cap).run Tryz.prog w = .ok (.func fn first cap) w := fun _ _ _ _ => rfl
  obtain ⟨N, hN⟩ : ∃ N, w.heap.size = N := ⟨_, rfl⟩
  unfold SsPost
  rw [hN]
  obtain ⟨W, hW⟩ : ∃ W, ((w.alloc (.cells #[.string (bs s)] 9)).alloc (.cells #[.string ⟨#[44]⟩] 9)).alloc (.cells #[.int .i64 0] 3) = W := ⟨_, rfl⟩
  have HF := Lib.hid (show W.cell? ⟨N + 1, 0, none⟩ = some (.string ⟨#[44]⟩) ∧ W.cell? ⟨N, 0, none⟩ = some (.string (bs s)) ∧ W.frozen? ⟨N, 0, none⟩ = false ∧ W.cell? ⟨N + 2, 0, none⟩ = some (.int .i64 0) ∧ W.heap.size = N + 3 ∧ Below N w W from by
    subst hW
    refine ⟨by simp [go_sem, hN], by simp [go_sem, hN], by simp [go_sem, hN], by simp [go_sem, hN], by simp [hN], ?_⟩
    rw [← hN]
    exact (((Below.refl _ _).alloc (Nat.le_refl _) _).alloc (by simp) _).alloc (by simp; omega) _)
  go_enter Tryz.func106, Tryz.ntmps106
  go_wp2_with fail
  go_ret
  exact ⟨rfl, HF.out⟩
theorem splitSeq_any (s : List UInt8) (w : World) : Calls Tryz.prog 85 #[.string (bs s), .string ⟨#[44]⟩] w (SsPost s w) := by
  have HC := Lib.hid (splitSeq1_any s w)
  go_enter Tryz.func85, Tryz.ntmps85
  go_wp2_with fail
  refine (HC.out).mono ?_; rintro e w1 ⟨rfl, h⟩
  have HH := Lib.hid h
  clear h
  go_wp2_with fail
  go_ret
  exact ⟨rfl, HH.out⟩

/-- Blocks of deferred calls, none of which holds one; each below the one ahead of it. -/
def MkL (lo : Nat) : List Deferred → Nat → World → Prop
  | [], _, _ => True
  | d :: r, hi, W => ∃ D, lo ≤ D ∧ D < hi ∧ d.target = .collected D ∧ W.heap[D]? = some (.deferred (some [])) ∧ MkL lo r D W
theorem MkL.keep {lo : Nat} {W W' : World} : ∀ {ds : List Deferred} {hi : Nat}, MkL lo ds hi W → (∀ b, lo ≤ b → b < hi → W'.heap[b]? = W.heap[b]?) → MkL lo ds hi W'
  | [], _, _, _ => trivial
  | d :: r, hi, ⟨D, h1, h2, h3, h4, h5⟩, hk => ⟨D, h1, h2, h3, (hk D h1 h2).trans h4, MkL.keep h5 fun b hb hb2 => hk b hb (by omega)⟩
theorem MkL.wide {lo : Nat} {W : World} : ∀ {ds : List Deferred} {hi hi' : Nat}, MkL lo ds hi W → hi ≤ hi' → MkL lo ds hi' W
  | [], _, _, _, _ => trivial
  | d :: r, hi, hi', ⟨D, h1, h2, h3, h4, h5⟩, hh => ⟨D, h1, by omega, h3, h4, h5⟩

/-- The function returns: all of the blocks are taken over and shut. -/
theorem marks_out {P : Program} {fn : Func} {R : Ending → World → Prop} {tmps : Array Value} (lo : Nat) : ∀ (ds : List Deferred) (hi : Nat) (W : World), MkL lo ds hi W →
    (∀ W', Aside (fun b => lo ≤ b) W W' → ∃ v, (results fn tmps).run P W' = .ok v W' ∧ R (.returned v) W') → LeavesInM Fence.wide 0 P fn tmps R ds .returning W
  | [], _, W, _, h => by
    obtain ⟨v, h1, h2⟩ := h W (Aside.refl _ _)
    exact ⟨v, h1, h2⟩
  | d :: r, hi, W, ⟨D, h1, h2, h3, h4, h5⟩, h => by
    refine ⟨by simp, .inl ⟨D, _, h3, run_takeDeferred h4, ?_⟩⟩
    refine marks_out lo r D _ (h5.keep fun b hb hb2 => World.putObj_heap_other (by omega)) fun W' ha => h W' ?_
    exact (Aside.putObj W _ h1).trans ha
end Go.Proofs.YtkoohdacneflfaaGreatDoor
