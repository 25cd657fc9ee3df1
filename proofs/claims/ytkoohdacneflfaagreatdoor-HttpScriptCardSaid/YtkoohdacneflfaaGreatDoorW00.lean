/-
  The document's reader: where a head ends.
-/
import Derived.Test.YtkoohdacneflfaaGreatDoorZ18
import Derived.Test.YtkoohdacneflfaaGreatDoorZ09
import Derived.Test.YtkoohdacneflfaaGreatDoorZ10
import Derived.Test.YtkoohdacneflfaaGreatDoorZ13
namespace Go.Proofs.YtkoohdacneflfaaGreatDoor
open Go.RowKit Go.Shelf
set_option linter.unusedVariables false
set_option linter.unusedSimpArgs false
set_option maxRecDepth 100000

theorem take_drop4 (b : List UInt8) {k : Nat} (h : k + 4 ≤ 4096) : ((b.take 4096).drop k).take 4 = (b.drop k).take 4 := by
  rw [List.drop_take, List.take_take, Nat.min_eq_left (by omega)]
theorem endL_hit {b : List UInt8} {k : Nat} (h : (b.drop k).take 4 = cc4) (hn : ∀ j, j < k → (b.drop j).take 4 ≠ cc4) (hk : k + 4 ≤ 4096) : endL b = some (k + 4) := by
  unfold endL
  rw [endF_first k _ 0 (by rw [take_drop4 b hk]; exact h) fun j hj => by rw [take_drop4 b (by omega)]; exact hn j hj, Nat.zero_add]
theorem endL_miss {b : List UInt8} {k : Nat} (hn : ∀ j, j < k → (b.drop j).take 4 ≠ cc4) (hk : b.length < k + 4 ∨ 4096 < k + 4) : endL b = none := by
  unfold endL
  refine endF_none _ 0 fun j hj => ?_
  have hl := congrArg List.length hj
  rw [List.length_take, List.length_drop, List.length_take] at hl
  have h4 : cc4.length = 4 := rfl
  rw [h4] at hl
  have hj4 : j + 4 ≤ 4096 := by omega
  rw [take_drop4 b hj4] at hj
  exact hn j (by omega) hj
/-- What the document's end tells. -/
def endR (b : List UInt8) : Int := match endL b with
  | none => -1
  | some k => (k : Int)

set_option maxHeartbeats 2000000 in
theorem rend_any {w : World} {lo hi : Nat} {v : Value} {b : List UInt8} (h : Sl w lo hi v (iz b)) (hl : b.length ≤ 1000000) :
    Calls Tryz.prog 36 #[v] w fun e w' => e = .returned (.int .i64 (endR b)) ∧ w' = w := by
  obtain ⟨a, c, rfl⟩ := sl_shape h rfl
  have HS := Lib.hid h
  have HL := Lib.hid hl
  clear h
  go_enter Tryz.func36, Tryz.ntmps36
  go_wp2_with fail
  go_loopw [3] (fun i wr => ∃ k : Nat, k ≤ 4093 ∧ i = .int .i64 ((k : Int) + 4) ∧ Hid (∀ j, j < k → (b.drop j).take 4 ≠ cc4) ∧ wr = w) (fun i _ => 4097 - (intOf i).toNat)
  case atStart => exact ⟨0, by omega, rfl, Lib.hid fun j hj => by omega, rfl⟩
  case round =>
    obtain ⟨k, hk, rfl, HN, hw⟩ := hrel
    subst hw
    by_cases hg : k + 4 ≤ b.length ∧ k + 4 ≤ 4096
    · obtain ⟨g1, g2⟩ := hg
      have t1 : (k : Int) + 4 ≤ (b.length : Int) := by omega
      have t2 : (k : Int) + 4 ≤ 4096 := by omega
      obtain ⟨sv, e1, e2⟩ := slice_cut (l := iz b) (p := k) (m := 4) (by rw [iz_len]; exact HS.out) (by rw [iz_len]; omega)
      rw [iz_cut] at e2
      rw [iz_len] at e1
      have hcs := conv_sl e2
      rw [strz] at hcs
      obtain ⟨l4, hl4⟩ : ∃ x, (b.drop k).take 4 = x := ⟨_, rfl⟩
      rw [hl4] at hcs e2
      obtain ⟨sa, sc, rfl⟩ := sl_shape e2 rfl
      have e1' : ∀ wx, (Instr.slice 28 (.slice a b.length c) (some (.int .i64 (k : Int))) (some (.int .i64 ((k : Int) + 4))) none).run Tryz.prog wx = .ok (.slice sa l4.length sc) wx := e1
      have e4 : bs cc4 = ⟨#[13, 10, 13, 10]⟩ := rfl
      clear e1 e2
      by_cases hc : l4 = cc4
      · have HE := Lib.hid (show endR b = (k : Int) + 4 from by unfold endR; rw [endL_hit (hl4.trans hc) HN.out g2]; simp)
        subst hc
        rw [e4] at hcs
        clear hl4
        go_wp2_with fail
        go_ret
        exact ⟨by rw [HE.out]; rfl, rfl⟩
      · have hc2 : ((bs l4).toList == [13, 10, 13, 10]) = false := by rw [bs_toList]; exact beq_eq_false_iff_ne.mpr hc
        have HN2 := Lib.hid (show ∀ j, j < k + 1 → (b.drop j).take 4 ≠ cc4 from fun j hj => by
          by_cases e : j = k
          · subst e; rw [hl4]; exact hc
          · exact HN.out j (by omega))
        clear hl4 e4 hc
        go_wp2_with fail
        refine ⟨⟨k + 1, by omega, by go_num, HN2, trivial⟩, ?_⟩
        simp [intOf]; omega
    · have HE := Lib.hid (show endR b = -1 from by unfold endR; rw [endL_miss HN.out (by omega)])
      by_cases t1 : (k : Int) + 4 ≤ (b.length : Int)
      · have t2 : ¬ (k : Int) + 4 ≤ 4096 := by omega
        clear hg
        go_wp2_with fail
        go_ret
        exact ⟨by rw [HE.out]; rfl, rfl⟩
      · clear hg
        go_wp2_with fail
        go_ret
        exact ⟨by rw [HE.out]; rfl, rfl⟩
end Go.Proofs.YtkoohdacneflfaaGreatDoor

/-
  The document's reader: one request.
-/
namespace Go.Proofs.YtkoohdacneflfaaGreatDoor
open Go.RowKit Go.Shelf
set_option linter.unusedVariables false
set_option linter.unusedSimpArgs false
set_option maxRecDepth 100000

/-- What one tells. -/
def OnePost (w : World) (b : List UInt8) (e : Ending) (w' : World) : Prop :=
  Below w.heap.size w w' ∧ ((oneH b = none ∧ ∃ st : Int, e = .returned (.tuple #[.agg #[.int .i64 st, .string ⟨#[]⟩, .string ⟨#[]⟩, .int .i64 0, .slice none 0 0, .slice none 0 0, .bool false], .int .i64 0, .bool false])) ∨
    ∃ p n, oneH b = some (p.x, n) ∧ e = .returned (.tuple #[vI p, .int .i64 (n : Int), .bool true]) ∧ OkI w' w.heap.size w.heap.size NoX p)
theorem one_wait {w w' : World} {b : List UInt8} {st : Int} (h : oneH b = none) (hb : Below w.heap.size w w') : OnePost w b (.returned (.tuple #[.agg #[.int .i64 st, .string ⟨#[]⟩, .string ⟨#[]⟩, .int .i64 0, .slice none 0 0, .slice none 0 0, .bool false], .int .i64 0, .bool false])) w' := ⟨hb, .inl ⟨h, st, rfl⟩⟩
theorem one_told {w w' : World} {b : List UInt8} {st : Int} (h : oneH b = some (sta st, 0)) (hb : Below w.heap.size w w') : OnePost w b (.returned (.tuple #[.agg #[.int .i64 st, .string ⟨#[]⟩, .string ⟨#[]⟩, .int .i64 0, .slice none 0 0, .slice none 0 0, .bool false], .int .i64 0, .bool true])) w' :=
  ⟨hb, .inr ⟨⟨sta st, .slice none 0 0, .slice none 0 0⟩, 0, h, rfl, ⟨OwnF.nil _ _, by simp [sta, z0], fun b h => (by cases h), OwnB.nil _ _, fun b h => (by cases h)⟩⟩⟩
theorem one_ask {b : List UInt8} {k : Nat} {st : Int} (he : endL b = some k) (ha : askH (b.take k) = (st, 0, z0)) (h : st ≠ 200) : oneH b = some (sta st, 0) := by
  unfold oneH; rw [he]; simp only; rw [ha]; exact if_pos h

set_option maxHeartbeats 8000000 in
theorem one_any {w : World} {v : Value} {b : List UInt8} (h : Sl w 0 w.heap.size v (iz b)) (hl : b.length ≤ 900000) : Calls Tryz.prog 28 #[v] w (OnePost w b) := by
  obtain ⟨va, vc, rfl⟩ := sl_shape h rfl
  have hb0 : Below w.heap.size w (w.alloc (.cells #[.int .i64 0, .string ⟨#[]⟩, .string ⟨#[]⟩, .int .i64 0, .slice none 0 0, .slice none 0 0, .bool false] 44)) := (Below.refl _ _).alloc (Nat.le_refl _) _
  have hx : Cel (w.alloc (.cells #[.int .i64 0, .string ⟨#[]⟩, .string ⟨#[]⟩, .int .i64 0, .slice none 0 0, .slice none 0 0, .bool false] 44)) w.heap.size zI := cel_newA w zI 44
  have hsz : (w.alloc (.cells #[.int .i64 0, .string ⟨#[]⟩, .string ⟨#[]⟩, .int .i64 0, .slice none 0 0, .slice none 0 0, .bool false] 44)).heap.size = w.heap.size + 1 := by simp
  obtain ⟨W, hW⟩ : ∃ W, w.alloc (.cells #[.int .i64 0, .string ⟨#[]⟩, .string ⟨#[]⟩, .int .i64 0, .slice none 0 0, .slice none 0 0, .bool false] 44) = W := ⟨_, rfl⟩
  rw [hW] at hb0 hx hsz
  have hs1 := h.below hb0 (Nat.le_refl _)
  have HRE := Lib.hid (rend_any hs1 (by omega))
  have HB0 := Lib.hid hb0
  have HX0 := Lib.hid hx
  have HSZ := Lib.hid hsz
  have HS := Lib.hid h
  have HS1 := Lib.hid hs1
  have HBL := Lib.hid hl
  clear hb0 hx hsz hs1 h hl
  go_enter Tryz.func28, Tryz.ntmps28
  go_wp2_with fail
  clear hW
  refine HRE.out.mono ?_; rintro e w1 ⟨rfl, rfl⟩
  obtain ⟨z0', z1, z2, z3, z4, z5, z6⟩ := HX0.out.seven
  have zz := HX0.out.fz
  cases he : endL b with
  | none =>
    have e1 : endR b = -1 := by unfold endR; rw [he]
    rw [e1]
    by_cases hl4 : 4096 < b.length
    · have t1 : (4096 : Int) < (b.length : Int) := by omega
      have HONE := Lib.hid (show oneH b = some (sta 431, 0) by unfold oneH; rw [he]; exact if_pos hl4)
      clear e1
      go_wp2_with fail
      clear z0' z1 z2 z3 z4 z5 z6 zz
      have HK := Lib.hid (cel_put [.int .i64 431, .string ⟨#[]⟩, .string ⟨#[]⟩, .int .i64 0, .slice none 0 0, .slice none 0 0, .bool false] HX0.out rfl)
      have HBf := Lib.hid (below_putL HB0.out (Nat.le_refl _) HB0.out.size 0 [.int .i64 431, .string ⟨#[]⟩, .string ⟨#[]⟩, .int .i64 0, .slice none 0 0, .slice none 0 0, .bool false])
      obtain ⟨m0, m1, m2, m3, m4, m5, m6⟩ := HK.out.seven
      simp only [putL, Nat.zero_add, Nat.reduceAdd] at HBf m0 m1 m2 m3 m4 m5 m6
      exact bodyPost_ret (v := .tuple #[.agg #[.int .i64 431, .string ⟨#[]⟩, .string ⟨#[]⟩, .int .i64 0, .slice none 0 0, .slice none 0 0, .bool false], .int .i64 0, .bool true]) (by simp [results, Tryz.results28, go_sem, m0, m1, m2, m3, m4, m5, m6]; try omega) rfl (one_told (st := 431) HONE.out HBf.out)
    · have t1 : ¬ (4096 : Int) < (b.length : Int) := by omega
      have HONE := Lib.hid (show oneH b = none by unfold oneH; rw [he]; exact if_neg hl4)
      clear e1
      go_wp2_with fail
      clear z0' z1 z2 z3 z4 z5 z6 zz
      have HK := Lib.hid (cel_put [.int .i64 431, .string ⟨#[]⟩, .string ⟨#[]⟩, .int .i64 0, .slice none 0 0, .slice none 0 0, .bool false] HX0.out rfl)
      have HBf := Lib.hid (below_putL HB0.out (Nat.le_refl _) HB0.out.size 0 [.int .i64 431, .string ⟨#[]⟩, .string ⟨#[]⟩, .int .i64 0, .slice none 0 0, .slice none 0 0, .bool false])
      obtain ⟨m0, m1, m2, m3, m4, m5, m6⟩ := HK.out.seven
      simp only [putL, Nat.zero_add, Nat.reduceAdd] at HBf m0 m1 m2 m3 m4 m5 m6
      exact bodyPost_ret (v := .tuple #[.agg #[.int .i64 431, .string ⟨#[]⟩, .string ⟨#[]⟩, .int .i64 0, .slice none 0 0, .slice none 0 0, .bool false], .int .i64 0, .bool false]) (by simp [results, Tryz.results28, go_sem, m0, m1, m2, m3, m4, m5, m6]; try omega) rfl (one_wait (st := 431) HONE.out HBf.out)
  | some k =>
    have hkb := endL_bound he
    have e1 : endR b = (k : Int) := by unfold endR; rw [he]
    rw [e1]
    obtain ⟨xa, xn, xc, hxr, hxs⟩ := upto_sl HS1.out rfl hkb.2.1
    have hxl : (b.take k).length = k := by rw [List.length_take]; omega
    have hkk : k ≤ 4096 := hkb.2.2
    have hfit := par_fits (b.take k)
    have hfew := par_few (b.take k)
    have HASK := Lib.hid (And.intro (ask_h1 (hb := b.take k)) (And.intro (ask_h2 (hb := b.take k)) (And.intro (ask_h3 (hb := b.take k)) (And.intro (ask_h4 (hb := b.take k)) (ask_h5 (hb := b.take k))))))
    have HP := Lib.hid (rparse_any (w := w1) (b.take k) (hxs.wide (Nat.le_refl _) HB0.out.size) (by omega))
    unfold HedPost at HP
    obtain ⟨X, hX⟩ : ∃ X, parH (b.take k) = X := ⟨_, rfl⟩
    rw [hX] at hfit hfew HP
    simp only [hX] at HASK
    obtain ⟨⟨m, t, nv, l⟩, st⟩ := X
    simp only at hfit hfew HP HASK
    have hf : Fits ⟨m, t, nv, l⟩ := ⟨by show l.length ≤ 900000; omega, fun x hx => by have := hfit x hx; exact ⟨by omega, by omega⟩⟩
    have HF := Lib.hid hf
    have HFX := Lib.hid (show ∀ x ∈ l, x.2.length ≤ 4096 from fun x hx => by have := hfit x hx; omega)
    have HFW := Lib.hid (show l.length ≤ 1000000 from by omega)
    have HE := Lib.hid he
    have HKB := Lib.hid hkb
    clear hX hfit hfew hf hxs hxl he e1 hkb
    go_wp2_with fail
    refine HP.out.mono ?_; rintro e w2 ⟨hv, rfl, ⟨sl, rfl, ho⟩, hb2⟩
    obtain ⟨sa, sc, rfl⟩ := ho.shape
    have hb3 : Below w2.heap.size w2 (w2.alloc (.cells #[.string (bs m), .string (bs t), .int .i64 nv, .slice sa l.length sc] 42)) := (Below.refl _ _).alloc (Nat.le_refl _) _
    have hq := cel_newA w2 [.string (bs m), .string (bs t), .int .i64 nv, .slice sa l.length sc] 42
    obtain ⟨W2, hW2⟩ : ∃ W2, w2.alloc (.cells #[.string (bs m), .string (bs t), .int .i64 nv, .slice sa l.length sc] 42) = W2 := ⟨_, rfl⟩
    rw [show w2.alloc (.cells (List.toArray [.string (bs m), .string (bs t), .int .i64 nv, .slice sa l.length sc]) 42) = W2 from hW2] at hq
    rw [hW2] at hb3
    have HB2 := Lib.hid ((HB0.out.trans (hb2.mono HB0.out.size)).trans (hb3.mono (by have := hb2.size; have := HB0.out.size; omega)))
    have HX2 := Lib.hid ((HX0.out.below (by simp [zI]) hb2).below (by simp [zI]) hb3)
    have HO2 := Lib.hid (ho.below hb3)
    have HHV := Lib.hid (hv_own (m := m) (t := t) (v := nv) HO2.out (by have h : l.length ≤ 1000000 := HFW.out; exact h))
    have HQ := Lib.hid hq
    have HFD := Lib.hid (rfield_any nExp HHV.out (Nat.le_refl _) HF.out)
    have e6 : Value.string (bs nExp) = .string ⟨#[101, 120, 112, 101, 99, 116]⟩ := rfl
    rw [e6] at HFD
    have HS2 := Lib.hid (show w1.heap.size ≤ w2.heap.size from hb2.size)
    clear z0' z1 z2 z3 z4 z5 z6 zz
    obtain ⟨z0', z1, z2, z3, z4, z5, z6⟩ := HX2.out.seven
    have zz := HX2.out.fz
    obtain ⟨q0, q1, q2, q3⟩ := HQ.out.four
    clear ho hb2 hb3 HP hq e6 hxr
    by_cases h1 : st = 200
    · subst h1
      have HT2 := Lib.hid (show (fldH l nExp).2 = ((vals l nExp).length : Int) from rfl)
      clear z0' z1 z2 z3 z4 z5 z6 zz
      go_wp2_with fail
      clear hW2
      refine HFD.out.mono ?_; rintro e w3 ⟨rfl, hb3⟩
      have HB3 := Lib.hid (HB2.out.trans (hb3.mono HB2.out.size))
      have HX3 := Lib.hid (HX2.out.below (by simp [zI]) hb3)
      have HO3 := Lib.hid (HO2.out.below hb3)
      have HQ3 := Lib.hid (HQ.out.below (by simp) hb3)
      have HLN := Lib.hid (rlength_any (HHV.out.later hb3) (Nat.le_refl _) HF.out)
      obtain ⟨z0', z1, z2, z3, z4, z5, z6⟩ := HX3.out.seven
      have zz := HX3.out.fz
      clear q0 q1 q2 q3
      obtain ⟨q0, q1, q2, q3⟩ := HQ3.out.four
      clear hb3 HFD HX2 HB2 HO2 HQ HHV
      by_cases h2 : vals l nExp = []
      · have t2 : ¬ (0 : Int) < (fldH l nExp).2 := by rw [HT2.out, h2]; simp
        obtain ⟨⟨ln, ls⟩, hL⟩ : ∃ x, lenH l = x := ⟨_, rfl⟩
        simp only [hL] at HLN HASK
        have HLM := Lib.hid (show ls = 200 → ln ≤ 65535 from fun e => by
          subst e
          unfold lenH at hL
          split at hL
          · have := lenV_most (vals l nLen) (by rw [hL])
            rw [hL] at this; exact this
          · cases hL)
        clear HT2 hL
        clear z0' z1 z2 z3 z4 z5 z6 zz
        go_wp2_with fail
        refine HLN.out.mono ?_; rintro e w4 ⟨rfl, hb4⟩
        have HB4 := Lib.hid (HB3.out.trans (hb4.mono HB3.out.size))
        have HX4 := Lib.hid (HX3.out.below (by simp [zI]) hb4)
        have HO4 := Lib.hid (HO3.out.below hb4)
        have HQ4 := Lib.hid (HQ3.out.below (by simp) hb4)
        clear q0 q1 q2 q3
        obtain ⟨q0, q1, q2, q3⟩ := HQ4.out.four
        clear hb4 HLN HX3 HB3 HO3 HQ3
        by_cases h3 : ls = 200
        · subst h3
          have hln := HLM.out rfl
          by_cases h4 : ln < 0
          · by_cases h5 : m = mPost
            · have HY := Lib.hid (HASK.out.2.2.2.1 trivial h2 rfl h4 h5)
              have hpo : ((bs mPost).toList == [80, 79, 83, 84]) = true := by rw [bs_toList]; rfl
              subst h5
              clear HASK hln
              obtain ⟨z0', z1, z2, z3, z4, z5, z6⟩ := HX4.out.seven
              have zz := HX4.out.fz
              go_wp2_with fail
              clear z0' z1 z2 z3 z4 z5 z6 zz
              have HK := Lib.hid (cel_put [.int .i64 411, .string ⟨#[]⟩, .string ⟨#[]⟩, .int .i64 0, .slice none 0 0, .slice none 0 0, .bool false] HX4.out rfl)
              have HBf := Lib.hid (below_putL HB4.out (Nat.le_refl _) HB4.out.size 0 [.int .i64 411, .string ⟨#[]⟩, .string ⟨#[]⟩, .int .i64 0, .slice none 0 0, .slice none 0 0, .bool false])
              obtain ⟨m0, m1, m2, m3, m4, m5, m6⟩ := HK.out.seven
              simp only [putL, Nat.zero_add, Nat.reduceAdd] at HBf m0 m1 m2 m3 m4 m5 m6
              exact bodyPost_ret (v := .tuple #[.agg #[.int .i64 411, .string ⟨#[]⟩, .string ⟨#[]⟩, .int .i64 0, .slice none 0 0, .slice none 0 0, .bool false], .int .i64 0, .bool true]) (by simp [results, Tryz.results28, go_sem, m0, m1, m2, m3, m4, m5, m6]; try omega) rfl (one_told (st := 411) (one_ask HE.out HY.out (by decide)) HBf.out)
            · have hpo : ((bs m).toList == [80, 79, 83, 84]) = false := by rw [bs_toList]; exact beq_eq_false_iff_ne.mpr h5
              have hpo2 : ¬ (bs m).toList = [80, 79, 83, 84] := by rw [bs_toList]; exact h5
              have HY := Lib.hid (HASK.out.2.2.2.2 trivial h2 rfl (fun h => h5 h.2))
              clear HASK
              obtain ⟨ml, hml⟩ : ∃ x : Nat, ln.toNat = x := ⟨_, rfl⟩
              rw [hml] at HY
              have hmx : max ln 0 = (ml : Int) := by omega
              have hbl := HBL.out
              have hkb := HKB.out
              have hk2 : (k : Int) ≤ 4096 := by omega
              have hbl2 : (b.length : Int) ≤ 900000 := by omega
              obtain ⟨z0', z1, z2, z3, z4, z5, z6⟩ := HX4.out.seven
              have zz := HX4.out.fz
              by_cases hsh : b.length < k + ml
              · exfalso
                omega
              · have t6 : ¬ (b.length : Int) - (k : Int) < (ml : Int) := by omega
                obtain ⟨q, hq⟩ : ∃ q, k + ml = q := ⟨_, rfl⟩
                have hkq : (k : Int) + (ml : Int) = (q : Int) := by omega
                have hwq : IntKind.i64.wrap (q : Int) = (q : Int) := IntWalk.i64_in _ (by omega)
                have HONE := Lib.hid (show oneH b = some (⟨200, ⟨m, t, nv, l⟩, (b.drop k).take ml, keepH nv l⟩, q) by unfold oneH; rw [HE.out]; simp only; rw [HY.out, if_neg (by simp), if_neg hsh, ← hq])
                have hb04 : Below w.heap.size w w4 := HB4.out
                have hs4 : Sl w4 0 w.heap.size (.slice va b.length vc) (iz b) := HS.out.below hb04 (Nat.le_refl _)
                obtain ⟨ba, bn, bc, hcut, hcs⟩ : ∃ ba bn bc, (∀ wx, (Instr.slice 28 (.slice va b.length vc) (some (.int .i64 k)) (some (.int .i64 (q : Int))) none).run Tryz.prog wx = .ok (.slice ba bn bc) wx) ∧ Sl w4 0 w.heap.size (.slice ba bn bc) (iz ((b.drop k).take ml)) := by
                  obtain ⟨sv, e1, e2⟩ := slice_cut (l := iz b) (p := k) (m := ml) (show Sl w4 0 w.heap.size (.slice va (iz b).length vc) (iz b) by rw [iz_len]; exact hs4) (by rw [iz_len]; omega)
                  rw [iz_cut] at e2
                  obtain ⟨a', c', e3, _⟩ := id e2
                  subst e3
                  rw [iz_len] at e1
                  exact ⟨_, _, _, fun wx => by rw [← hkq]; exact e1 wx, e2⟩
                obtain ⟨bd, hbd⟩ : ∃ bd, (b.drop k).take ml = bd := ⟨_, rfl⟩
                rw [hbd] at hcs HONE
                have hbdl : bd.length ≤ 900000 := by rw [← hbd, List.length_take, List.length_drop]; omega
                have hb5 : Below w4.heap.size w4 (w4.alloc (.cells #[] 5)) := (Below.refl _ _).alloc (Nat.le_refl _) _
                have o5 : OwnB (w4.alloc (.cells #[] 5)) w4.heap.size (.slice (some ⟨w4.heap.size, 0, none⟩) 0 0) [] :=
                  .inr ⟨w4.heap.size, 0, (0, 0), rfl, Nat.le_refl _, Nat.le_refl _, Nat.zero_le _, .inl rfl, heap_alloc_new w4 _⟩
                obtain ⟨ra, rc, w7, hrun, ro, rA⟩ := run_appBs w4.heap.size _ (.slice ba bn bc) [] bd o5 (hcs.below (hb5.mono hb04.size) (Nat.le_refl _)) (by simp; omega) (by simp)
                simp only [List.length_nil, Nat.zero_add, List.nil_append] at hrun ro
                have hb7 : Below w4.heap.size w4 w7 := hb5.trans (rA.below fun k hk => ⟨by simp; omega, fun e => by have e2 : w4.heap.size = k := (by injection e); omega⟩)
                have HB7 := Lib.hid (hb04.trans (hb7.mono hb04.size))
                have HX7 := Lib.hid (HX4.out.below (by simp [zI]) hb7)
                have HO7 := Lib.hid (HO4.out.below hb7)
                have HQ7 := Lib.hid (HQ4.out.below (by simp) hb7)
                have HR7 := Lib.hid ro
                have hsz4 : w.heap.size < w4.heap.size := HX4.out.lt (by simp [zI])
                have hbd7 : Below w7.heap.size w7 w7.drew := (Below.refl _ _).drew
                have HQ70 := Lib.hid ((HQ7.out.below (by simp) hbd7).four)
                have HKP := Lib.hid (rkeep_any ((hv_own (m := m) (t := t) (v := nv) HO7.out (by have h : l.length ≤ 1000000 := HFW.out; exact h)).later hbd7) (Nat.le_refl _) HF.out (fun x hx => by have := HFX.out x hx; omega))
                clear hml hq hbd o5 rA ro hb5 hb7 hcs hs4 hb04 hbd7
                go_wp2_with (at_builtin; refine Lib.wpList_append_run _ rfl _ _ _ _ rfl _ _ rfl rfl _ _ hrun ?_)
                clear hrun hcut z0' z1 z2 z3 z4 z5 z6 zz t6 hmx hkb hbl
                refine wp_region_held_drew (S := (fun wx => wx.cell? ⟨w2.heap.size, 0, none⟩ = some (.string (bs m)) ∧ wx.cell? ⟨w2.heap.size, 1, none⟩ = some (.string (bs t)) ∧ wx.cell? ⟨w2.heap.size, 2, none⟩ = some (.int .i64 nv) ∧ wx.cell? ⟨w2.heap.size, 3, none⟩ = some (.slice sa l.length sc))) (by kernel_rfl) HQ70.out (fun hHeld => ?_)
                refine wpAnyH_take (i := 0) (oi := { dst := some 74, op := Op.load 42 (Operand.tmp 6), type := 42, pos := "ref.go:51", after := #[], guard := none }) (v := ?_) rfl (by kernel_rfl) (by kernel_rfl) (by kernel_rfl) (fun _ _ _ h => h) (Or.inl ⟨by rfl, ?_⟩) (by assumption) ?_
                rotate_left 1
                · intro w hSw; (try dsimp only at hSw); go_simp; try (with_reducible rfl)
                try simp only [Act.put, List.setIfInBounds_toArray, List.set_cons_zero, List.set_cons_succ]
                refine wpAnyH_take (i := 1) (oi := { dst := some 75, op := Op.move (Operand.tmp 12), type := 28, pos := "ref.go:51", after := #[], guard := none }) (v := ?_) rfl (by kernel_rfl) (by kernel_rfl) (by kernel_rfl) (fun _ _ _ h => h) (Or.inl ⟨by rfl, ?_⟩) (by assumption) ?_
                rotate_left 1
                · intro w hSw; (try dsimp only at hSw); go_simp; try (with_reducible rfl)
                try simp only [Act.put, List.setIfInBounds_toArray, List.set_cons_zero, List.set_cons_succ]
                refine wpAnyH_take (i := 2) (oi := { dst := some 76, op := Op.load 42 (Operand.tmp 6), type := 42, pos := "ref.go:51", after := #[], guard := none }) (v := ?_) rfl (by kernel_rfl) (by kernel_rfl) (by kernel_rfl) (fun _ _ _ h => h) (Or.inl ⟨by rfl, ?_⟩) (by assumption) ?_
                rotate_left 1
                · intro w hSw; (try dsimp only at hSw); go_simp; try (with_reducible rfl)
                try simp only [Act.put, List.setIfInBounds_toArray, List.set_cons_zero, List.set_cons_succ]
                refine wpAnyH_take (i := 5) (oi := { dst := some 79, op := Op.move (Operand.tmp 5), type := 3, pos := "ref.go:51", after := #[{ on := 8, ground := Ground.gcOnly Departure.lateStores }], guard := none }) (v := ?_) rfl (by kernel_rfl) (by kernel_rfl) (by kernel_rfl) (fun _ _ _ h => h) (Or.inl ⟨by rfl, ?_⟩) (by assumption) ?_
                rotate_left 1
                · intro w hSw; (try dsimp only at hSw); go_simp; try (with_reducible rfl)
                try simp only [Act.put, List.setIfInBounds_toArray, List.set_cons_zero, List.set_cons_succ]
                refine wpAnyH_take (i := 6) (oi := { dst := some 80, op := Op.move (Operand.tmp 10), type := 3, pos := "ref.go:51", after := #[{ on := 8, ground := Ground.gcOnly Departure.lateStores }], guard := none }) (v := ?_) rfl (by kernel_rfl) (by kernel_rfl) (by kernel_rfl) (fun _ _ _ h => h) (Or.inl ⟨by rfl, ?_⟩) (by assumption) ?_
                rotate_left 1
                · intro w hSw; (try dsimp only at hSw); go_simp; try (with_reducible rfl)
                try simp only [Act.put, List.setIfInBounds_toArray, List.set_cons_zero, List.set_cons_succ]
                refine wpAnyH_take (i := 7) (oi := { dst := some 81, op := Op.binOp BinOp.add 3 (Operand.tmp 79) (Operand.tmp 80) 3, type := 3, pos := "ref.go:51", after := #[{ on := 5, ground := Ground.data }, { on := 6, ground := Ground.data }, { on := 8, ground := Ground.gcOnly Departure.lateStores }], guard := none }) (v := ?_) rfl (by kernel_rfl) (by kernel_rfl) (by kernel_rfl) (fun _ _ _ h => h) (Or.inl ⟨by rfl, ?_⟩) (by assumption) ?_
                rotate_left 1
                · intro w hSw; (try dsimp only at hSw); go_simp; try (with_reducible rfl)
                try simp only [Act.put, List.setIfInBounds_toArray, List.set_cons_zero, List.set_cons_succ]
                refine wpAnyH_ready (rs := [3]) (by kernel_rfl) (by simp) ?_
                refine AllReadyH.cons (o := { dst := some 77, op := Op.call { callee := Callee.value (Operand.func 40), args := #[Operand.tmp 76], argTypes := #[42] }, type := 4, pos := "ref.go:51", after := #[{ on := 2, ground := Ground.data }], guard := none }) rfl (fun K hK => ?_) (AllReadyH.nil)
                go_simp
                refine (HKP.out).mono ?_; rintro en w8 ⟨rfl, hb8⟩
                have HB8 := Lib.hid (((Below.refl w7.heap.size w7).drew).trans hb8)
                have HQ8 := Lib.hid ((HQ7.out.below (by simp) HB8.out).four)
                have HST := Lib.hid (store_item (q := w.heap.size) (old := zI) ⟨⟨200, ⟨m, t, nv, l⟩, bd, keepH nv l⟩, .slice sa l.length sc, .slice ra bd.length rc⟩ (w := w8) (HX7.out.below (by simp [zI]) HB8.out) rfl ⟨_, _, _, rfl⟩ ⟨_, _, _, rfl⟩)
                have HQ9 := Lib.hid (((HQ7.out.below (by simp) HB8.out).aside (by simp) (aside_putL (q := w.heap.size) w8 0 (cI ⟨⟨200, ⟨m, t, nv, l⟩, bd, keepH nv l⟩, .slice sa l.length sc, .slice ra bd.length rc⟩)) (by have := HSZ.out; have := HS2.out; omega)).four)
                clear hb8
                refine hK.out _ _ HQ8.out (fun hHeld => ?_)
                clear hK K
                try simp only [Act.put, List.setIfInBounds_toArray, List.set_cons_zero, List.set_cons_succ]
                refine wpAnyH_take (i := 4) (oi := { dst := some 78, op := Op.build 44 #[(0, Operand.const (Value.int IntKind.i64 200)), (1, Operand.tmp 74), (2, Operand.tmp 75), (3, Operand.tmp 77)], type := 44, pos := "ref.go:51", after := #[{ on := 0, ground := Ground.data }, { on := 1, ground := Ground.data }, { on := 3, ground := Ground.data }], guard := none }) (v := ?_) rfl (by kernel_rfl) (by kernel_rfl) (by kernel_rfl) (fun _ _ _ h => h) (Or.inl ⟨by rfl, ?_⟩) (by assumption) ?_
                rotate_left 1
                · intro w hSw; (try dsimp only at hSw); go_simp; try (with_reducible rfl)
                try simp only [Act.put, List.setIfInBounds_toArray, List.set_cons_zero, List.set_cons_succ]
                refine wpAnyH_ready (rs := [8]) (by kernel_rfl) (by simp) ?_
                refine AllReadyH.cons (o := { dst := none, op := Op.store 44 (Operand.tmp 2) (Operand.tmp 78), type := 0, pos := "ref.go:51", after := #[{ on := 4, ground := Ground.data }, { on := 3, ground := Ground.chain }, { on := 0, ground := Ground.phase }, { on := 1, ground := Ground.phase }, { on := 2, ground := Ground.phase }, { on := 3, ground := Ground.phase }, { on := 4, ground := Ground.phase }, { on := 5, ground := Ground.textOnly Departure.lateStores }, { on := 6, ground := Ground.textOnly Departure.lateStores }, { on := 7, ground := Ground.textOnly Departure.lateStores }], guard := none }) rfl (fun K hK => ?_) (AllReadyH.nil)
                refine step_store_run rfl (.tmp 2) (.tmp 78) 44 rfl rfl rfl HST.out rfl ?_
                refine hK.out _ _ HQ9.out (fun hHeld => ?_)
                clear hK K
                try simp only [Act.put, List.setIfInBounds_toArray, List.set_cons_zero, List.set_cons_succ]
                refine wpAnyH_take (i := 9) (oi := { dst := some 3, op := Op.assign (Operand.tmp 81), type := 3, pos := "ref.go:51", after := #[{ on := 7, ground := Ground.data }, { on := 8, ground := Ground.chain }, { on := 0, ground := Ground.phase }, { on := 1, ground := Ground.phase }, { on := 2, ground := Ground.phase }, { on := 3, ground := Ground.phase }, { on := 4, ground := Ground.phase }, { on := 5, ground := Ground.phase }, { on := 6, ground := Ground.phase }, { on := 7, ground := Ground.phase }, { on := 8, ground := Ground.phase }], guard := none }) (v := ?_) rfl (by kernel_rfl) (by kernel_rfl) (by kernel_rfl) (fun _ _ _ h => h) (Or.inl ⟨by rfl, ?_⟩) (by assumption) ?_
                rotate_left 1
                · intro w hSw; (try dsimp only at hSw); go_simp; try (with_reducible rfl)
                try simp only [Act.put, List.setIfInBounds_toArray, List.set_cons_zero, List.set_cons_succ]
                refine wpAnyH_take (i := 10) (oi := { dst := some 4, op := Op.assign (Operand.const (Value.bool true)), type := 4, pos := "ref.go:51", after := #[{ on := 9, ground := Ground.chain }, { on := 0, ground := Ground.phase }, { on := 1, ground := Ground.phase }, { on := 2, ground := Ground.phase }, { on := 3, ground := Ground.phase }, { on := 4, ground := Ground.phase }, { on := 5, ground := Ground.phase }, { on := 6, ground := Ground.phase }, { on := 7, ground := Ground.phase }, { on := 8, ground := Ground.phase }, { on := 9, ground := Ground.phase }], guard := none }) (v := ?_) rfl (by kernel_rfl) (by kernel_rfl) (by kernel_rfl) (fun _ _ _ h => h) (Or.inl ⟨by rfl, ?_⟩) (by assumption) ?_
                rotate_left 1
                · intro w hSw; (try dsimp only at hSw); go_simp; try (with_reducible rfl)
                try simp only [Act.put, List.setIfInBounds_toArray, List.set_cons_zero, List.set_cons_succ]
                refine wpAnyH_done (by kernel_rfl) ?_ _
                clear hHeld
                go_wp2_with fail
                have hsz := HSZ.out
                have hA9 : Aside (fun x => x = w.heap.size) w7 (putL w8 w.heap.size 0 (cI ⟨⟨200, ⟨m, t, nv, l⟩, bd, keepH nv l⟩, .slice sa l.length sc, .slice ra bd.length rc⟩)) := (Aside.of_all HB8.out).trans (aside_putL _ _ _)
                have hK9 := cel_put (cI ⟨⟨200, ⟨m, t, nv, l⟩, bd, keepH nv l⟩, .slice sa l.length sc, .slice ra bd.length rc⟩) (HX7.out.below (by simp [zI]) HB8.out) rfl
                have hOf := row_aside HO7.out hA9 (fun x hx e => by have := (HO7.out.lt x hx).1; omega)
                have hBf := HR7.out.aside hA9 (fun x hx e => by have := (HR7.out.lt x hx).1; omega)
                have hbf : Below w.heap.size w (putL w8 w.heap.size 0 (cI ⟨⟨200, ⟨m, t, nv, l⟩, bd, keepH nv l⟩, .slice sa l.length sc, .slice ra bd.length rc⟩)) := HB7.out.trans (hA9.below fun x hx => ⟨by have := HB7.out.size; omega, by omega⟩)
                obtain ⟨m0, m1, m2, m3, m4, m5, m6⟩ := hK9.seven
                exact bodyPost_ret (v := .tuple #[vI ⟨⟨200, ⟨m, t, nv, l⟩, bd, keepH nv l⟩, .slice sa l.length sc, .slice ra bd.length rc⟩, .int .i64 (q : Int), .bool true]) (by simp [results, Tryz.results28, go_sem, m0, m1, m2, m3, m4, m5, m6, vI, hwq]) rfl ⟨hbf, .inr ⟨⟨⟨200, ⟨m, t, nv, l⟩, bd, keepH nv l⟩, .slice sa l.length sc, .slice ra bd.length rc⟩, q, HONE.out, rfl, ⟨row_base hOf (by omega), HFW.out, fun x hx e => e, hBf.mono (by omega), fun x hx e => e⟩⟩⟩
          · have HY := Lib.hid (HASK.out.2.2.2.2 trivial h2 rfl (fun h => h4 h.1))
            clear HASK
            obtain ⟨ml, hml⟩ : ∃ x : Nat, ln.toNat = x := ⟨_, rfl⟩
            rw [hml] at HY
            have hmx : max ln 0 = (ml : Int) := by omega
            have hbl := HBL.out
            have hkb := HKB.out
            have hk2 : (k : Int) ≤ 4096 := by omega
            have hbl2 : (b.length : Int) ≤ 900000 := by omega
            obtain ⟨z0', z1, z2, z3, z4, z5, z6⟩ := HX4.out.seven
            have zz := HX4.out.fz
            by_cases hsh : b.length < k + ml
            · have t6 : (b.length : Int) - (k : Int) < (ml : Int) := by omega
              have HONE := Lib.hid (show oneH b = none by unfold oneH; rw [HE.out]; simp only; rw [HY.out, if_neg (by simp), if_pos hsh])
              clear hml
              go_wp2_with fail
              clear z0' z1 z2 z3 z4 z5 z6 zz
              have HK := Lib.hid (cel_put [.int .i64 0, .string ⟨#[]⟩, .string ⟨#[]⟩, .int .i64 0, .slice none 0 0, .slice none 0 0, .bool false] HX4.out rfl)
              have HBf := Lib.hid (below_putL HB4.out (Nat.le_refl _) HB4.out.size 0 [.int .i64 0, .string ⟨#[]⟩, .string ⟨#[]⟩, .int .i64 0, .slice none 0 0, .slice none 0 0, .bool false])
              obtain ⟨m0, m1, m2, m3, m4, m5, m6⟩ := HK.out.seven
              simp only [putL, Nat.zero_add, Nat.reduceAdd] at HBf m0 m1 m2 m3 m4 m5 m6
              exact bodyPost_ret (v := .tuple #[.agg #[.int .i64 0, .string ⟨#[]⟩, .string ⟨#[]⟩, .int .i64 0, .slice none 0 0, .slice none 0 0, .bool false], .int .i64 0, .bool false]) (by simp [results, Tryz.results28, go_sem, m0, m1, m2, m3, m4, m5, m6]; try omega) rfl (one_wait (st := 0) HONE.out HBf.out)
            · have t6 : ¬ (b.length : Int) - (k : Int) < (ml : Int) := by omega
              obtain ⟨q, hq⟩ : ∃ q, k + ml = q := ⟨_, rfl⟩
              have hkq : (k : Int) + (ml : Int) = (q : Int) := by omega
              have hwq : IntKind.i64.wrap (q : Int) = (q : Int) := IntWalk.i64_in _ (by omega)
              have HONE := Lib.hid (show oneH b = some (⟨200, ⟨m, t, nv, l⟩, (b.drop k).take ml, keepH nv l⟩, q) by unfold oneH; rw [HE.out]; simp only; rw [HY.out, if_neg (by simp), if_neg hsh, ← hq])
              have hb04 : Below w.heap.size w w4 := HB4.out
              have hs4 : Sl w4 0 w.heap.size (.slice va b.length vc) (iz b) := HS.out.below hb04 (Nat.le_refl _)
              obtain ⟨ba, bn, bc, hcut, hcs⟩ : ∃ ba bn bc, (∀ wx, (Instr.slice 28 (.slice va b.length vc) (some (.int .i64 k)) (some (.int .i64 (q : Int))) none).run Tryz.prog wx = .ok (.slice ba bn bc) wx) ∧ Sl w4 0 w.heap.size (.slice ba bn bc) (iz ((b.drop k).take ml)) := by
                obtain ⟨sv, e1, e2⟩ := slice_cut (l := iz b) (p := k) (m := ml) (show Sl w4 0 w.heap.size (.slice va (iz b).length vc) (iz b) by rw [iz_len]; exact hs4) (by rw [iz_len]; omega)
                rw [iz_cut] at e2
                obtain ⟨a', c', e3, _⟩ := id e2
                subst e3
                rw [iz_len] at e1
                exact ⟨_, _, _, fun wx => by rw [← hkq]; exact e1 wx, e2⟩
              obtain ⟨bd, hbd⟩ : ∃ bd, (b.drop k).take ml = bd := ⟨_, rfl⟩
              rw [hbd] at hcs HONE
              have hbdl : bd.length ≤ 900000 := by rw [← hbd, List.length_take, List.length_drop]; omega
              have hb5 : Below w4.heap.size w4 (w4.alloc (.cells #[] 5)) := (Below.refl _ _).alloc (Nat.le_refl _) _
              have o5 : OwnB (w4.alloc (.cells #[] 5)) w4.heap.size (.slice (some ⟨w4.heap.size, 0, none⟩) 0 0) [] :=
                .inr ⟨w4.heap.size, 0, (0, 0), rfl, Nat.le_refl _, Nat.le_refl _, Nat.zero_le _, .inl rfl, heap_alloc_new w4 _⟩
              obtain ⟨ra, rc, w7, hrun, ro, rA⟩ := run_appBs w4.heap.size _ (.slice ba bn bc) [] bd o5 (hcs.below (hb5.mono hb04.size) (Nat.le_refl _)) (by simp; omega) (by simp)
              simp only [List.length_nil, Nat.zero_add, List.nil_append] at hrun ro
              have hb7 : Below w4.heap.size w4 w7 := hb5.trans (rA.below fun k hk => ⟨by simp; omega, fun e => by have e2 : w4.heap.size = k := (by injection e); omega⟩)
              have HB7 := Lib.hid (hb04.trans (hb7.mono hb04.size))
              have HX7 := Lib.hid (HX4.out.below (by simp [zI]) hb7)
              have HO7 := Lib.hid (HO4.out.below hb7)
              have HQ7 := Lib.hid (HQ4.out.below (by simp) hb7)
              have HR7 := Lib.hid ro
              have hsz4 : w.heap.size < w4.heap.size := HX4.out.lt (by simp [zI])
              have hbd7 : Below w7.heap.size w7 w7.drew := (Below.refl _ _).drew
              have HQ70 := Lib.hid ((HQ7.out.below (by simp) hbd7).four)
              have HKP := Lib.hid (rkeep_any ((hv_own (m := m) (t := t) (v := nv) HO7.out (by have h : l.length ≤ 1000000 := HFW.out; exact h)).later hbd7) (Nat.le_refl _) HF.out (fun x hx => by have := HFX.out x hx; omega))
              clear hml hq hbd o5 rA ro hb5 hb7 hcs hs4 hb04 hbd7
              go_wp2_with (at_builtin; refine Lib.wpList_append_run _ rfl _ _ _ _ rfl _ _ rfl rfl _ _ hrun ?_)
              clear hrun hcut z0' z1 z2 z3 z4 z5 z6 zz t6 hmx hkb hbl
              refine wp_region_held_drew (S := (fun wx => wx.cell? ⟨w2.heap.size, 0, none⟩ = some (.string (bs m)) ∧ wx.cell? ⟨w2.heap.size, 1, none⟩ = some (.string (bs t)) ∧ wx.cell? ⟨w2.heap.size, 2, none⟩ = some (.int .i64 nv) ∧ wx.cell? ⟨w2.heap.size, 3, none⟩ = some (.slice sa l.length sc))) (by kernel_rfl) HQ70.out (fun hHeld => ?_)
              refine wpAnyH_take (i := 0) (oi := { dst := some 74, op := Op.load 42 (Operand.tmp 6), type := 42, pos := "ref.go:51", after := #[], guard := none }) (v := ?_) rfl (by kernel_rfl) (by kernel_rfl) (by kernel_rfl) (fun _ _ _ h => h) (Or.inl ⟨by rfl, ?_⟩) (by assumption) ?_
              rotate_left 1
              · intro w hSw; (try dsimp only at hSw); go_simp; try (with_reducible rfl)
              try simp only [Act.put, List.setIfInBounds_toArray, List.set_cons_zero, List.set_cons_succ]
              refine wpAnyH_take (i := 1) (oi := { dst := some 75, op := Op.move (Operand.tmp 12), type := 28, pos := "ref.go:51", after := #[], guard := none }) (v := ?_) rfl (by kernel_rfl) (by kernel_rfl) (by kernel_rfl) (fun _ _ _ h => h) (Or.inl ⟨by rfl, ?_⟩) (by assumption) ?_
              rotate_left 1
              · intro w hSw; (try dsimp only at hSw); go_simp; try (with_reducible rfl)
              try simp only [Act.put, List.setIfInBounds_toArray, List.set_cons_zero, List.set_cons_succ]
              refine wpAnyH_take (i := 2) (oi := { dst := some 76, op := Op.load 42 (Operand.tmp 6), type := 42, pos := "ref.go:51", after := #[], guard := none }) (v := ?_) rfl (by kernel_rfl) (by kernel_rfl) (by kernel_rfl) (fun _ _ _ h => h) (Or.inl ⟨by rfl, ?_⟩) (by assumption) ?_
              rotate_left 1
              · intro w hSw; (try dsimp only at hSw); go_simp; try (with_reducible rfl)
              try simp only [Act.put, List.setIfInBounds_toArray, List.set_cons_zero, List.set_cons_succ]
              refine wpAnyH_take (i := 5) (oi := { dst := some 79, op := Op.move (Operand.tmp 5), type := 3, pos := "ref.go:51", after := #[{ on := 8, ground := Ground.gcOnly Departure.lateStores }], guard := none }) (v := ?_) rfl (by kernel_rfl) (by kernel_rfl) (by kernel_rfl) (fun _ _ _ h => h) (Or.inl ⟨by rfl, ?_⟩) (by assumption) ?_
              rotate_left 1
              · intro w hSw; (try dsimp only at hSw); go_simp; try (with_reducible rfl)
              try simp only [Act.put, List.setIfInBounds_toArray, List.set_cons_zero, List.set_cons_succ]
              refine wpAnyH_take (i := 6) (oi := { dst := some 80, op := Op.move (Operand.tmp 10), type := 3, pos := "ref.go:51", after := #[{ on := 8, ground := Ground.gcOnly Departure.lateStores }], guard := none }) (v := ?_) rfl (by kernel_rfl) (by kernel_rfl) (by kernel_rfl) (fun _ _ _ h => h) (Or.inl ⟨by rfl, ?_⟩) (by assumption) ?_
              rotate_left 1
              · intro w hSw; (try dsimp only at hSw); go_simp; try (with_reducible rfl)
              try simp only [Act.put, List.setIfInBounds_toArray, List.set_cons_zero, List.set_cons_succ]
              refine wpAnyH_take (i := 7) (oi := { dst := some 81, op := Op.binOp BinOp.add 3 (Operand.tmp 79) (Operand.tmp 80) 3, type := 3, pos := "ref.go:51", after := #[{ on := 5, ground := Ground.data }, { on := 6, ground := Ground.data }, { on := 8, ground := Ground.gcOnly Departure.lateStores }], guard := none }) (v := ?_) rfl (by kernel_rfl) (by kernel_rfl) (by kernel_rfl) (fun _ _ _ h => h) (Or.inl ⟨by rfl, ?_⟩) (by assumption) ?_
              rotate_left 1
              · intro w hSw; (try dsimp only at hSw); go_simp; try (with_reducible rfl)
              try simp only [Act.put, List.setIfInBounds_toArray, List.set_cons_zero, List.set_cons_succ]
              refine wpAnyH_ready (rs := [3]) (by kernel_rfl) (by simp) ?_
              refine AllReadyH.cons (o := { dst := some 77, op := Op.call { callee := Callee.value (Operand.func 40), args := #[Operand.tmp 76], argTypes := #[42] }, type := 4, pos := "ref.go:51", after := #[{ on := 2, ground := Ground.data }], guard := none }) rfl (fun K hK => ?_) (AllReadyH.nil)
              go_simp
              refine (HKP.out).mono ?_; rintro en w8 ⟨rfl, hb8⟩
              have HB8 := Lib.hid (((Below.refl w7.heap.size w7).drew).trans hb8)
              have HQ8 := Lib.hid ((HQ7.out.below (by simp) HB8.out).four)
              have HST := Lib.hid (store_item (q := w.heap.size) (old := zI) ⟨⟨200, ⟨m, t, nv, l⟩, bd, keepH nv l⟩, .slice sa l.length sc, .slice ra bd.length rc⟩ (w := w8) (HX7.out.below (by simp [zI]) HB8.out) rfl ⟨_, _, _, rfl⟩ ⟨_, _, _, rfl⟩)
              have HQ9 := Lib.hid (((HQ7.out.below (by simp) HB8.out).aside (by simp) (aside_putL (q := w.heap.size) w8 0 (cI ⟨⟨200, ⟨m, t, nv, l⟩, bd, keepH nv l⟩, .slice sa l.length sc, .slice ra bd.length rc⟩)) (by have := HSZ.out; have := HS2.out; omega)).four)
              clear hb8
              refine hK.out _ _ HQ8.out (fun hHeld => ?_)
              clear hK K
              try simp only [Act.put, List.setIfInBounds_toArray, List.set_cons_zero, List.set_cons_succ]
              refine wpAnyH_take (i := 4) (oi := { dst := some 78, op := Op.build 44 #[(0, Operand.const (Value.int IntKind.i64 200)), (1, Operand.tmp 74), (2, Operand.tmp 75), (3, Operand.tmp 77)], type := 44, pos := "ref.go:51", after := #[{ on := 0, ground := Ground.data }, { on := 1, ground := Ground.data }, { on := 3, ground := Ground.data }], guard := none }) (v := ?_) rfl (by kernel_rfl) (by kernel_rfl) (by kernel_rfl) (fun _ _ _ h => h) (Or.inl ⟨by rfl, ?_⟩) (by assumption) ?_
              rotate_left 1
              · intro w hSw; (try dsimp only at hSw); go_simp; try (with_reducible rfl)
              try simp only [Act.put, List.setIfInBounds_toArray, List.set_cons_zero, List.set_cons_succ]
              refine wpAnyH_ready (rs := [8]) (by kernel_rfl) (by simp) ?_
              refine AllReadyH.cons (o := { dst := none, op := Op.store 44 (Operand.tmp 2) (Operand.tmp 78), type := 0, pos := "ref.go:51", after := #[{ on := 4, ground := Ground.data }, { on := 3, ground := Ground.chain }, { on := 0, ground := Ground.phase }, { on := 1, ground := Ground.phase }, { on := 2, ground := Ground.phase }, { on := 3, ground := Ground.phase }, { on := 4, ground := Ground.phase }, { on := 5, ground := Ground.textOnly Departure.lateStores }, { on := 6, ground := Ground.textOnly Departure.lateStores }, { on := 7, ground := Ground.textOnly Departure.lateStores }], guard := none }) rfl (fun K hK => ?_) (AllReadyH.nil)
              refine step_store_run rfl (.tmp 2) (.tmp 78) 44 rfl rfl rfl HST.out rfl ?_
              refine hK.out _ _ HQ9.out (fun hHeld => ?_)
              clear hK K
              try simp only [Act.put, List.setIfInBounds_toArray, List.set_cons_zero, List.set_cons_succ]
              refine wpAnyH_take (i := 9) (oi := { dst := some 3, op := Op.assign (Operand.tmp 81), type := 3, pos := "ref.go:51", after := #[{ on := 7, ground := Ground.data }, { on := 8, ground := Ground.chain }, { on := 0, ground := Ground.phase }, { on := 1, ground := Ground.phase }, { on := 2, ground := Ground.phase }, { on := 3, ground := Ground.phase }, { on := 4, ground := Ground.phase }, { on := 5, ground := Ground.phase }, { on := 6, ground := Ground.phase }, { on := 7, ground := Ground.phase }, { on := 8, ground := Ground.phase }], guard := none }) (v := ?_) rfl (by kernel_rfl) (by kernel_rfl) (by kernel_rfl) (fun _ _ _ h => h) (Or.inl ⟨by rfl, ?_⟩) (by assumption) ?_
              rotate_left 1
              · intro w hSw; (try dsimp only at hSw); go_simp; try (with_reducible rfl)
              try simp only [Act.put, List.setIfInBounds_toArray, List.set_cons_zero, List.set_cons_succ]
              refine wpAnyH_take (i := 10) (oi := { dst := some 4, op := Op.assign (Operand.const (Value.bool true)), type := 4, pos := "ref.go:51", after := #[{ on := 9, ground := Ground.chain }, { on := 0, ground := Ground.phase }, { on := 1, ground := Ground.phase }, { on := 2, ground := Ground.phase }, { on := 3, ground := Ground.phase }, { on := 4, ground := Ground.phase }, { on := 5, ground := Ground.phase }, { on := 6, ground := Ground.phase }, { on := 7, ground := Ground.phase }, { on := 8, ground := Ground.phase }, { on := 9, ground := Ground.phase }], guard := none }) (v := ?_) rfl (by kernel_rfl) (by kernel_rfl) (by kernel_rfl) (fun _ _ _ h => h) (Or.inl ⟨by rfl, ?_⟩) (by assumption) ?_
              rotate_left 1
              · intro w hSw; (try dsimp only at hSw); go_simp; try (with_reducible rfl)
              try simp only [Act.put, List.setIfInBounds_toArray, List.set_cons_zero, List.set_cons_succ]
              refine wpAnyH_done (by kernel_rfl) ?_ _
              clear hHeld
              go_wp2_with fail
              have hsz := HSZ.out
              have hA9 : Aside (fun x => x = w.heap.size) w7 (putL w8 w.heap.size 0 (cI ⟨⟨200, ⟨m, t, nv, l⟩, bd, keepH nv l⟩, .slice sa l.length sc, .slice ra bd.length rc⟩)) := (Aside.of_all HB8.out).trans (aside_putL _ _ _)
              have hK9 := cel_put (cI ⟨⟨200, ⟨m, t, nv, l⟩, bd, keepH nv l⟩, .slice sa l.length sc, .slice ra bd.length rc⟩) (HX7.out.below (by simp [zI]) HB8.out) rfl
              have hOf := row_aside HO7.out hA9 (fun x hx e => by have := (HO7.out.lt x hx).1; omega)
              have hBf := HR7.out.aside hA9 (fun x hx e => by have := (HR7.out.lt x hx).1; omega)
              have hbf : Below w.heap.size w (putL w8 w.heap.size 0 (cI ⟨⟨200, ⟨m, t, nv, l⟩, bd, keepH nv l⟩, .slice sa l.length sc, .slice ra bd.length rc⟩)) := HB7.out.trans (hA9.below fun x hx => ⟨by have := HB7.out.size; omega, by omega⟩)
              obtain ⟨m0, m1, m2, m3, m4, m5, m6⟩ := hK9.seven
              exact bodyPost_ret (v := .tuple #[vI ⟨⟨200, ⟨m, t, nv, l⟩, bd, keepH nv l⟩, .slice sa l.length sc, .slice ra bd.length rc⟩, .int .i64 (q : Int), .bool true]) (by simp [results, Tryz.results28, go_sem, m0, m1, m2, m3, m4, m5, m6, vI, hwq]) rfl ⟨hbf, .inr ⟨⟨⟨200, ⟨m, t, nv, l⟩, bd, keepH nv l⟩, .slice sa l.length sc, .slice ra bd.length rc⟩, q, HONE.out, rfl, ⟨row_base hOf (by omega), HFW.out, fun x hx e => e, hBf.mono (by omega), fun x hx e => e⟩⟩⟩
        · have t3 : (ls == 200) = false := by simpa using h3
          have HY := Lib.hid (HASK.out.2.2.1 trivial h2 h3)
          clear HASK
          obtain ⟨z0', z1, z2, z3, z4, z5, z6⟩ := HX4.out.seven
          have zz := HX4.out.fz
          go_wp2_with fail
          clear z0' z1 z2 z3 z4 z5 z6 zz
          have HK := Lib.hid (cel_put [.int .i64 ls, .string ⟨#[]⟩, .string ⟨#[]⟩, .int .i64 0, .slice none 0 0, .slice none 0 0, .bool false] HX4.out rfl)
          have HBf := Lib.hid (below_putL HB4.out (Nat.le_refl _) HB4.out.size 0 [.int .i64 ls, .string ⟨#[]⟩, .string ⟨#[]⟩, .int .i64 0, .slice none 0 0, .slice none 0 0, .bool false])
          obtain ⟨m0, m1, m2, m3, m4, m5, m6⟩ := HK.out.seven
          simp only [putL, Nat.zero_add, Nat.reduceAdd] at HBf m0 m1 m2 m3 m4 m5 m6
          exact bodyPost_ret (v := .tuple #[.agg #[.int .i64 ls, .string ⟨#[]⟩, .string ⟨#[]⟩, .int .i64 0, .slice none 0 0, .slice none 0 0, .bool false], .int .i64 0, .bool true]) (by simp [results, Tryz.results28, go_sem, m0, m1, m2, m3, m4, m5, m6]; try omega) rfl (one_told (st := ls) (one_ask HE.out HY.out h3) HBf.out)
      · have t2 : (0 : Int) < (fldH l nExp).2 := by
          rw [HT2.out]
          have := List.length_pos_iff.mpr h2
          omega
        have HY := Lib.hid (HASK.out.2.1 trivial h2)
        clear HASK HT2 HLN
        go_wp2_with fail
        clear z0' z1 z2 z3 z4 z5 z6 zz
        have HK := Lib.hid (cel_put [.int .i64 417, .string ⟨#[]⟩, .string ⟨#[]⟩, .int .i64 0, .slice none 0 0, .slice none 0 0, .bool false] HX3.out rfl)
        have HBf := Lib.hid (below_putL HB3.out (Nat.le_refl _) HB3.out.size 0 [.int .i64 417, .string ⟨#[]⟩, .string ⟨#[]⟩, .int .i64 0, .slice none 0 0, .slice none 0 0, .bool false])
        obtain ⟨m0, m1, m2, m3, m4, m5, m6⟩ := HK.out.seven
        simp only [putL, Nat.zero_add, Nat.reduceAdd] at HBf m0 m1 m2 m3 m4 m5 m6
        exact bodyPost_ret (v := .tuple #[.agg #[.int .i64 417, .string ⟨#[]⟩, .string ⟨#[]⟩, .int .i64 0, .slice none 0 0, .slice none 0 0, .bool false], .int .i64 0, .bool true]) (by simp [results, Tryz.results28, go_sem, m0, m1, m2, m3, m4, m5, m6]; try omega) rfl (one_told (st := 417) (one_ask HE.out HY.out (by decide)) HBf.out)
    · have t1 : (st == 200) = false := by simpa using h1
      have HY := Lib.hid (HASK.out.1 h1)
      clear HASK HFD
      go_wp2_with fail
      clear z0' z1 z2 z3 z4 z5 z6 zz
      have HK := Lib.hid (cel_put [.int .i64 st, .string ⟨#[]⟩, .string ⟨#[]⟩, .int .i64 0, .slice none 0 0, .slice none 0 0, .bool false] HX2.out rfl)
      have HBf := Lib.hid (below_putL HB2.out (Nat.le_refl _) HB2.out.size 0 [.int .i64 st, .string ⟨#[]⟩, .string ⟨#[]⟩, .int .i64 0, .slice none 0 0, .slice none 0 0, .bool false])
      obtain ⟨m0, m1, m2, m3, m4, m5, m6⟩ := HK.out.seven
      simp only [putL, Nat.zero_add, Nat.reduceAdd] at HBf m0 m1 m2 m3 m4 m5 m6
      exact bodyPost_ret (v := .tuple #[.agg #[.int .i64 st, .string ⟨#[]⟩, .string ⟨#[]⟩, .int .i64 0, .slice none 0 0, .slice none 0 0, .bool false], .int .i64 0, .bool true]) (by simp [results, Tryz.results28, go_sem, m0, m1, m2, m3, m4, m5, m6]; try omega) rfl (one_told (st := st) (one_ask HE.out HY.out h1) HBf.out)
end Go.Proofs.YtkoohdacneflfaaGreatDoor

/-
  The document's reader: Push.
-/
namespace Go.Proofs.YtkoohdacneflfaaGreatDoor
open Go.RowKit Go.Shelf
set_option linter.unusedVariables false
set_option linter.unusedSimpArgs false
set_option maxRecDepth 100000

/-- Block D is a reader of the document's. -/
def TyD (w : World) (D : Nat) : Prop := ∃ z fz, w.heap[D]? = some (.cells z 30 fz)
theorem TyD.set {w : World} {D : Nat} (h : TyD w D) (o : Nat) (v : Value) : TyD (w.setCell ⟨D, o, none⟩ v) D := by
  obtain ⟨z, fz, h⟩ := h
  exact ⟨z.setIfInBounds o v, fz, by simp [World.setCell, Array.getElem?_modify, h]⟩
/-- The document's reader, in block D: what it keeps (in block g), whether it is over. -/
def Rc (w : World) (D g : Nat) (l : List UInt8) (out : Bool) : Prop :=
  ∃ v, w.cell? ⟨D, 0, none⟩ = some v ∧ w.cell? ⟨D, 1, none⟩ = some (.bool out) ∧ (∀ j, w.frozen? ⟨D, j, none⟩ = false) ∧ Sl w g (g + 1) v (iz l) ∧ TyD w D
theorem Rc.lt {w : World} {D g : Nat} {l : List UInt8} {out : Bool} (h : Rc w D g l out) : D < w.heap.size := by
  obtain ⟨v, h1, _⟩ := h
  exact World.block_lt_of_cell? w _ h1
theorem Rc.aside {G : Nat → Prop} {w w' : World} {D g : Nat} {l : List UInt8} {out : Bool} (h : Rc w D g l out) (ha : Aside G w w') (h0 : ¬ G D) (h1 : ¬ G g ∨ l = []) : Rc w' D g l out := by
  have hlt := h.lt
  obtain ⟨v, c0, c1, c2, hs, z, fz, ht⟩ := h
  exact ⟨v, (ha.cell hlt h0).trans c0, (ha.cell hlt h0).trans c1, fun j => (ha.frozen (p := ⟨D, j, none⟩) hlt h0).trans (c2 j), sl_apart3 hs ha h1, z, fz, (ha.block D hlt h0).trans ht⟩
theorem Rc.below {w w' : World} {D g : Nat} {l : List UInt8} {out : Bool} (h : Rc w D g l out) (hb : Below w.heap.size w w') : Rc w' D g l out := h.aside (G := fun _ => False) (Aside.of_all hb) (fun h => h) (.inl fun h => h)

/-- What the document's Push tells. -/
def PushC (w : World) (D : Nat) (out : Bool) (X : List Ih × List UInt8 × Bool) (e : Ending) (w' : World) : Prop :=
  ∃ v ps g, e = .returned (.tuple #[v, .int .i64 (if out then 9 else 0)]) ∧ ps.map (·.x) = X.1 ∧ TI w' w.heap.size w.heap.size (fun k => k = D) v ps ∧ Rc w' D g X.2.1 X.2.2 ∧ (w.heap.size ≤ g ∨ X.2.1 = []) ∧ Aside (fun k => k = D) w w'

/-- How its loop stands. -/
structure PcI (w : World) (D g : Nat) (kv2 : Value) (L : List UInt8) (wr : World) (vl : Value) (ps : List Rp) (b : List UInt8) : Prop where
  rd : Rc wr D g b false
  kp : OwnB wr w.heap.size kv2 L
  ti : TI wr w.heap.size w.heap.size (fun k => k = D) vl ps
  run : runH L = (ps.map (·.x) ++ (runH b).1, (runH b).2)
  cnt : 4 * ps.length + b.length ≤ L.length
  le : b.length ≤ L.length
  asd : Aside (fun k => k = D) w wr

section
variable {w wr w' : World} {D g : Nat} {L b : List UInt8} {kv2 vl : Value} {ps : List Rp} {p : Rp} {n : Nat}
/-- An item, told: the append, and what is kept then. -/
theorem PcI.told (h : PcI w D g kv2 L wr vl ps b) (hD : D < w.heap.size) (hg : kv2.ownBlock = some g ∨ L = []) (hL : L.length ≤ 900000) (hb5 : Below wr.heap.size wr w') (ho : oneH b = some (p.x, n)) (hp : OkI w' wr.heap.size wr.heap.size NoX p) :
    ∃ a' c' w'' va vc, (Builtin.append_ #[32, 32] 32 #[vl, .slice (some ⟨w'.heap.size + 1, 0, none⟩) 1 1]).run Tryz.prog ((w'.alloc (.cells (cI p).toArray 44)).alloc (.cells #[.int .i64 p.x.st, .string (bs p.x.h.m), .string (bs p.x.h.t), .int .i64 p.x.h.v, p.s, p.b, .bool p.x.k] 44)) = .ok (.slice a' (ps.length + 1) c') w'' ∧
      (∀ j, w''.frozen? ⟨D, j, none⟩ = false) ∧ w''.cell? ⟨D, 1, none⟩ = some (.bool false) ∧ w''.cell? ⟨D, 0, none⟩ = some (.slice va b.length vc) ∧ Cel w'' w'.heap.size (cI p) ∧ D < w''.heap.size ∧ w'.heap.size < w''.heap.size ∧
      ∃ fa fn fc, (∀ wx, (Instr.slice 28 (.slice va b.length vc) (some (.int .i64 n)) none none).run Tryz.prog wx = .ok (.slice fa fn fc) wx) ∧
      (lastH p.x = false → PcI w D g kv2 L (w''.setCell ⟨D, 0, none⟩ (.slice fa fn fc)) (.slice a' (ps.length + 1) c') (ps ++ [p]) (b.drop n)) ∧
      (lastH p.x = true → PushC w D false (runH L) (.returned (.tuple #[.slice a' (ps.length + 1) c', .int .i64 0])) (((w''.setCell ⟨D, 0, none⟩ (.slice fa fn fc)).setCell ⟨D, 1, none⟩ (.bool true)).setCell ⟨D, 0, none⟩ (.slice none 0 0))) := by
  have hws := h.asd.size
  have h5s := hb5.size
  have hcn := h.cnt
  have b6 : Below w'.heap.size w' (w'.alloc (.cells (cI p).toArray 44)) := (Below.refl _ _).alloc (Nat.le_refl _) _
  have hs6 : (w'.alloc (.cells (cI p).toArray 44)).heap.size = w'.heap.size + 1 := by simp
  have hT6 := (h.ti.below hb5).below b6
  have hp6 : OkI w' w.heap.size w.heap.size (fun k => k = D) p := ⟨row_base hp.f hws, hp.fl, fun k hk e => by have := (hp.f.lt k hk).1; omega, hp.b.mono hws, fun k hk e => by have := (hp.b.lt k hk).1; omega⟩
  obtain ⟨a', c', w2, r1, r2, r3, r4⟩ := ti_add hT6 (hp6.below b6) (by omega) (by omega) (fun k hk => by omega)
  rw [hs6] at r1
  have hn := one_some ho
  have hvl := (h.ti.below hb5).lt
  have hK6 := (h.kp.below hb5).below b6
  have hb0 : L = [] → b = [] := fun e => by
    have := h.le
    rw [e] at this
    exact List.eq_nil_of_length_eq_zero (by simpa using this)
  have hgD : g ≠ D ∨ b = [] := by
    rcases hg with hg | hg
    · left; have := (h.kp.lt g hg).1; omega
    · exact .inr (hb0 hg)
  have hR2 : Rc w2 D g b false := ((h.rd.below hb5).below b6).aside r3 (fun e => by have := (hvl D e).1; omega) (by
    rcases hg with hg | hg
    · exact .inl fun e => row_apartB hK6 hT6.row (by decide) g hg e
    · exact .inr (hb0 hg))
  have hK2 : OwnB w2 w.heap.size kv2 L := hK6.aside r3 fun k hk e => row_apartB hK6 hT6.row (by decide) k hk e
  have hDl := hR2.lt
  have hqc : Cel w2 w'.heap.size (cI p) := (cel_newA w' (cI p) 44).aside (by simp [cI]) r3 (fun e => by have := (hvl _ e).2; omega)
  have hA2 : Aside (fun k => k = D) w w2 := ((h.asd.trans (Aside.of_all hb5)).trans (Aside.of_all b6)).onto r3 fun k hk _ e => by have := (hvl k e).1; omega
  obtain ⟨v, c0, c1, cz, hs, hty⟩ := hR2
  obtain ⟨va, vc, rfl⟩ := sl_shape hs rfl
  obtain ⟨fa, fn, fc, hfr, hfs⟩ := from_sl (p := n) hs rfl hn.1
  have hfs2 := hfs w2 hs
  have hst : ∀ (W : World) (o : Nat) (u : Value), Aside (fun k => k = D) W (W.setCell ⟨D, o, none⟩ u) := fun W o u => Aside.setCell W (p := ⟨D, o, none⟩) u rfl
  have ne10 : (⟨D, 1, none⟩ : Addr) ≠ ⟨D, 0, none⟩ := by simp
  refine ⟨a', c', w2, va, vc, r1, cz, c1, c0, hqc, hDl, hqc.lt (by simp [cI]), fa, fn, fc, hfr, fun hl => ?_, fun hl => ?_⟩
  · have hst4 := hn.2 (last_no hl).1
    refine ⟨⟨.slice fa fn fc, World.cell?_setCell_same _ _ _ c0, (World.cell?_setCell_other _ _ _ _ (by simp)).trans c1, fun j => by rw [World.frozen?_setCell]; exact cz j, sl_apart3 hfs2 (hst _ 0 _) (by rcases hgD with e | e; exact .inl e; exact .inr (by rw [e]; simp)), hty.set 0 _⟩, hK2.aside (hst _ 0 _) fun k hk e => by have := (hK2.lt k hk).1; omega, r2.aside (hst _ 0 _) (fun _ _ h => h) fun _ _ h => h, ?_, ?_, ?_, hA2.trans (hst _ 0 _)⟩
    · rw [h.run, run_go ho hl, List.map_append, List.append_assoc]
      rfl
    · rw [List.length_append, List.length_singleton, List.length_drop]; omega
    · rw [List.length_drop]; have := h.le; omega
  · have hrun : runH L = ((ps ++ [p]).map (·.x), [], true) := by
      rw [h.run, run_last ho hl, List.map_append]
      rfl
    refine ⟨_, ps ++ [p], 0, rfl, by rw [hrun], (((r2.aside (hst _ 0 _) (fun _ _ h => h) fun _ _ h => h).aside (hst _ 1 _) (fun _ _ h => h) fun _ _ h => h).aside (hst _ 0 _) (fun _ _ h => h) fun _ _ h => h), ?_, .inr (by rw [hrun]), ((hA2.trans (hst _ 0 _)).trans (hst _ 1 _)).trans (hst _ 0 _)⟩
    rw [hrun]
    have k0 : (w2.setCell ⟨D, 0, none⟩ (.slice fa fn fc)).cell? ⟨D, 0, none⟩ = some (.slice fa fn fc) := World.cell?_setCell_same _ _ _ c0
    have k1 : (w2.setCell ⟨D, 0, none⟩ (.slice fa fn fc)).cell? ⟨D, 1, none⟩ = some (.bool false) := (World.cell?_setCell_other _ _ _ _ (by simp)).trans c1
    have j0 : ((w2.setCell ⟨D, 0, none⟩ (.slice fa fn fc)).setCell ⟨D, 1, none⟩ (.bool true)).cell? ⟨D, 0, none⟩ = some (.slice fa fn fc) := (World.cell?_setCell_other _ _ _ _ (by simp)).trans k0
    have j1 : ((w2.setCell ⟨D, 0, none⟩ (.slice fa fn fc)).setCell ⟨D, 1, none⟩ (.bool true)).cell? ⟨D, 1, none⟩ = some (.bool true) := World.cell?_setCell_same _ _ _ k1
    exact ⟨.slice none 0 0, World.cell?_setCell_same _ _ _ j0, (World.cell?_setCell_other _ _ _ _ (by simp)).trans j1, fun j => by rw [World.frozen?_setCell, World.frozen?_setCell, World.frozen?_setCell]; exact cz j, ⟨none, 0, rfl, by simp [iz], fun _ => rfl, fun h => by simp [iz] at h⟩, ((hty.set 0 _).set 1 _).set 0 _⟩
end
end Go.Proofs.YtkoohdacneflfaaGreatDoor
