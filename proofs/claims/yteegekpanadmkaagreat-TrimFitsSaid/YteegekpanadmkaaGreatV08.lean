/-
  The document's own: a record's bytes.
-/
import Derived.Test.YteegekpanadmkaaGreatV07
import Derived.Test.YteegekpanadmkaaGreatV06
import Derived.Test.YteegekpanadmkaaGreatV05
import Derived.Test.YteegekpanadmkaaGreatV04
import Derived.Test.YteegekpanadmkaaGreatV01
import Derived.Test.YteegekpanadmkaaGreatV02
import Derived.Defers
namespace Go.Proofs.YteegekpanadmkaaGreat
open Go.RowKit Go.Shelf
set_option linter.unusedVariables false
set_option linter.unusedSimpArgs false
set_option maxRecDepth 100000

set_option maxHeartbeats 16000000 in
theorem rwriteC_any {w : World} {B q e : Nat} {v : Value} {K : KK} (h : Rk w B q v K e) (hG : GoodK K) (hK : K.length ≤ 700000) (a : Int) (n : List UInt8) (t c l : Int) (d : List UInt8) (hn : n.length ≤ 1000000) (hd : d.length ≤ 1000000) :
    Calls Tryz.prog 67 #[.pointer (some ⟨q, 0, none⟩), .int .i64 a, .agg #[.string (bs n), .int .i64 t, .int .i64 c, .int .i64 l, .string (bs d)]] w (RWrPost w B q (wrC a ⟨n, t, c, l, d⟩ K e)) := by
  obtain ⟨W0, hW0⟩ : ∃ W0, w.alloc (.cells #[.string (bs n), .int .i64 t, .int .i64 c, .int .i64 l, .string (bs d)] 52) = W0 := ⟨_, rfl⟩
  have hb0 : Below w.heap.size w W0 := by rw [← hW0]; exact (Below.refl _ _).alloc (Nat.le_refl _) _
  have hx : Cel W0 w.heap.size [.string (bs n), .int .i64 t, .int .i64 c, .int .i64 l, .string (bs d)] := by rw [← hW0]; exact cel_new w _ _ _ _ _ _
  obtain ⟨g, hg⟩ : ∃ g, w.heap.size = g := ⟨_, rfl⟩
  have HX := Lib.hid hx
  rw [hg] at HX
  have HB := Lib.hid hb0
  have HRk := Lib.hid h
  have hqB := h.lt
  have hBw := h.size
  have hown := h.own.lt
  have hgv : ¬ (g = q ∨ v.ownBlock = some g) := fun hh => by
    rcases hh with hh | hh
    · omega
    · have := (hown g hh).2; omega
  have HCk := Lib.hid (fun wx => rcheck07_any n t c l d hn hd wx)
  obtain ⟨X, hX⟩ : ∃ X, wrC a ⟨n, t, c, l, d⟩ K e = X := ⟨_, rfl⟩
  rw [hX]
  have HXv := Lib.hid hX
  unfold wrC at HXv
  obtain ⟨b0, b1, b2, b3, b4⟩ := HX.out.five
  clear hX hx hb0 h hown
  by_cases hA : chkC ⟨n, t, c, l, d⟩ = 0
  · obtain ⟨hak, hl0, hl1, hsp⟩ := chkC_ok hA
    simp only at hak hl0 hl1 hsp
    obtain ⟨hch, ht0, ht1, hc0, hc1⟩ := askE_ok hak
    have hn255 := (chk_pos hch).2
    have HAs := Lib.hid (fun (wx : World) (hp : Rk wx B q v K e) => rask_any hp hG (by omega) a n hn t c)
    unfold RAskPost at HAs
    have hask : askW a n t c K e = if pkE e a n ≠ 0 then ⟨[], pkE e a n, K, e⟩ else ⟨nameB K e a n ++ (two t ++ two c), 0, nameK K e a n, nameE K e a n⟩ := by unfold askW; rw [if_neg (by simpa using hak)]
    rw [hask] at HAs
    rw [hA] at HCk
    rw [if_neg (by simpa using hA)] at HXv
    simp only at HXv
    have hnb := (nameB_len (e := e) (a := a) (n := n) hG).1
    have hng := nameK_good (e := e) (a := a) (n := n) hG
    have hpc := fun h => pkE_chk (e := e) (a := a) (n := n) h
    obtain ⟨E, hE⟩ : ∃ E, pkE e a n = E := ⟨_, rfl⟩
    obtain ⟨T, hT⟩ : ∃ T, nameB K e a n = T := ⟨_, rfl⟩
    obtain ⟨K2, hK2⟩ : ∃ K2, nameK K e a n = K2 := ⟨_, rfl⟩
    obtain ⟨e2, he2⟩ : ∃ e2, nameE K e a n = e2 := ⟨_, rfl⟩
    rw [hE, hT, hK2, he2] at HAs HXv
    rw [hE] at hpc
    rw [hT] at hnb
    rw [hK2, he2] at hng
    obtain ⟨hG2, hK22, he22⟩ := hng
    obtain ⟨m, hm⟩ : ∃ m, T.length = m := ⟨_, rfl⟩
    rw [hm] at HXv hnb
    obtain ⟨Y, hY⟩ : ∃ Y : Int, a + m + 10 = Y := ⟨_, rfl⟩
    rw [hY] at HXv
    have hlen := wrR_len Y t d K2 e2 hG2 hsp
    have HWt := Lib.hid (fun (wx : World) vx (hp : Rk wx B q vx K2 e2) => rwrite_any hp hG2 (by omega) Y t d hd)
    unfold RWrPost at HWt
    obtain ⟨R, hR⟩ : ∃ R, wrR Y t d K2 e2 = R := ⟨_, rfl⟩
    rw [hR] at HWt HXv hlen
    obtain ⟨O, C, K3, e3⟩ := R
    simp only at HWt hlen
    obtain ⟨k, hk⟩ : ∃ k, O.length = k := ⟨_, rfl⟩
    rw [hk] at hlen
    have HP4 := Lib.hid (fun wx => rput32_any l wx)
    have HP2 := Lib.hid (fun wx => rput16_any (k : Int) wx)
    unfold RPost at HP4 HP2
    have q1 : putE 4294967295 l = 0 := by unfold putE; rw [if_pos ⟨hl0, by omega⟩]
    have q2 : putE 65535 (k : Int) = 0 := by unfold putE; rw [if_pos ⟨by omega, by omega⟩]
    rw [q1, ← iz_four l hl0 (by omega)] at HP4
    rw [q2, ← iz_two (k : Int) (by omega) (by omega)] at HP2
    have HM1 := Lib.hid hm
    have HK1 := Lib.hid hk
    have hkl : k ≤ 65535 := by omega
    clear hE hT hK2 he2 hA hch ht0 ht1 hc0 hc1 hG hn255 hG2 hK22 he22 hR hlen hsp hak hl0 hl1 hm hk hask q1 q2
    by_cases hE0 : E = 0
    · subst hE0
      simp only [ne_eq, not_true_eq_false, if_false] at HAs HXv
      obtain ⟨_, hp0, hp1, hp2⟩ := hpc rfl
      have HPl := Lib.hid (show wrap64 (wrap64 (a + ((m : Int) + 8)) + 2) = Y by rw [IntWalk.wrap64_in (a + ((m : Int) + 8)) ⟨by omega, by omega⟩, IntWalk.wrap64_in _ ⟨by omega, by omega⟩, ← hY]; omega)
      clear hpc hp0 hp1 hp2 hY
      go_enter Tryz.func67, Tryz.ntmps67
      go_wp2_with fail
      refine (HCk.out _).mono ?_; rintro e0 w1 ⟨rfl, hb⟩
      replace HB := Lib.hid (bel_call HB.out hb)
      replace HX := Lib.hid (HX.out.below (by simp) hb)
      clear hb b0 b1 b2 b3 b4
      obtain ⟨b0, b1, b2, b3, b4⟩ := HX.out.five
      have HRk1 := Lib.hid (HRk.out.later HB.out)
      go_wp2_with fail
      refine (HAs.out _ HRk1.out).mono ?_; rintro e0 w2 ⟨v9, v2, rfl, ho, hrk, has, hkp⟩
      replace HX := Lib.hid (HX.out.aside (by simp) has hgv)
      have HRk2 := Lib.hid hrk
      have hg1 : g + 1 ≤ w1.heap.size := World.block_lt_of_cell? w1 _ b0
      have HO2 := Lib.hid (ho.mono hg1)
      have hlO : (T ++ (two t ++ two c)).length = m + 4 := by rw [List.length_append, List.length_append, two_l, two_l, HM1.out]
      have HA2 := Lib.hid ((Aside.of_all HB.out : Aside (fun b => b = q ∨ v.ownBlock = some b) w w1).trans has)
      have HKp := Lib.hid (fun B' v' (l' : List UInt8) (hB' : B ≤ B') (ho : OwnB w B' v' l') => hkp B' v' l' hB' (ho.below HB.out))
      have HHp := Lib.hid (((Hold.refl q w).below HB.out).name has HRk1.out.own)
      obtain ⟨a9, k9, rfl⟩ := ho.shape
      obtain ⟨A2, hA2⟩ : ∃ A2, T ++ (two t ++ two c) = A2 := ⟨_, rfl⟩
      rw [hA2] at HO2 hlO
      rw [hA2, hlO]
      rw [hlO] at HO2
      have HL2 := Lib.hid hlO
      have HA2e := Lib.hid hA2
      clear ho hrk has hkp b0 b1 b2 b3 b4 hlO hA2 HRk1
      have c3 : w2.cell? ⟨g, 3, none⟩ = some (.int .i64 l) := HX.out.c 3 (by simp)
      go_wp2_with fail
      refine (HP4.out _).mono ?_; rintro e0 w3 ⟨v10, rfl, ho, hb⟩
      have HS := Lib.hid ho.sl
      replace HX := Lib.hid (HX.out.below (by simp) hb)
      have HO3 := Lib.hid (HO2.out.below hb)
      have HRk3 := Lib.hid (HRk2.out.later hb)
      have HA3 := Lib.hid (HA2.out.trans (Aside.of_all hb))
      replace HKp := Lib.hid (fun B' v' (l' : List UInt8) (hB' : B ≤ B') (ho : OwnB w B' v' l') => (HKp.out B' v' l' hB' ho).below hb)
      replace HHp := Lib.hid (HHp.out.below hb)
      clear ho hb c3 HO2 HRk2 HA2
      have hol := HO3.out.lt
      obtain ⟨a4, k4, w4, hr4, ho4, ha4⟩ := run_appBs (g + 1) _ _ A2 (four l) HO3.out HS.out (by rw [HL2.out, four_l]; omega) (by have := World.block_lt_of_cell? w3 _ (HX.out.c 0 (by simp)); simp only at this; omega)
      rw [HL2.out, four_l, show m + 4 + 4 = m + 8 from rfl] at hr4 ho4
      have hX4 := HX.out.aside (by simp) ha4 (fun hh => by have := (hol g hh).1; omega)
      have HRk4 := Lib.hid (HRk3.out.aside ha4 (fun hh => by have := (hol q hh).1; omega) (fun b hb hh => apart_BK HO3.out HRk3.out.own b hh hb))
      have hov := HRk.out.own.lt
      have HA4 := Lib.hid ((HA3.out.mono (G' := fun b => b = q ∨ B ≤ b) fun b _ hh => hh.elim .inl fun hh => .inr (hov b hh).1).trans (ha4.mono fun b _ hh => .inr (by have := (hol b hh).1; omega)))
      replace HKp := Lib.hid (fun B' v' (l' : List UInt8) (hB' : B ≤ B') (ho : OwnB w B' v' l') => (HKp.out B' v' l' hB' ho).aside ha4 fun b hb hh => by
        have h1 := (ho.lt b hb).2
        have h2 := (hol b hh).1
        omega)
      replace HHp := Lib.hid (HHp.out.own ha4 HO3.out (by omega))
      have HO4 := Lib.hid ho4
      have HR4 := Lib.hid hr4
      have c1 : w4.cell? ⟨g, 1, none⟩ = some (.int .i64 t) := hX4.c 1 (by simp)
      have c4 : w4.cell? ⟨g, 4, none⟩ = some (.string (bs d)) := hX4.c 4 (by simp)
      clear hr4 ho4 ha4 hol hov HO3 HRk3 HA3 HS hX4 HX hg1
      go_wp2_with (at_builtin; refine wpList_append_run (.tmp 42) (.tmp 43) 28 28 rfl rfl rfl rfl HR4.out ?_)
      rw [HPl.out]
      refine (HWt.out _ _ HRk4.out).mono ?_; rintro e0 w5 ⟨v12, v3, rfl, hs, hrk, has, hkp, hhd⟩
      have hg5 : g + 1 ≤ w5.heap.size := Nat.le_trans (World.block_lt_of_cell? w4 _ c1) has.size
      have HO5 := Lib.hid (hkp (g + 1) _ _ (by omega) HO4.out)
      have HSd := Lib.hid hs
      have HRk5 := Lib.hid hrk
      have HA5 := Lib.hid (HA4.out.trans has)
      have HKp5 := Lib.hid (fun B' v' (l' : List UInt8) (hB' : B ≤ B') (ho : OwnB w B' v' l') => hkp B' v' l' hB' (HKp.out B' v' l' hB' ho))
      have HL4 := Lib.hid HO4.out.lt
      have HH5 := Lib.hid (HHp.out.trans hhd)
      clear hkp hrk has c1 c4 HRk4 HA4 HKp HHp hhd
      by_cases hC0 : C = 0
      · subst hC0
        have hXR : (⟨T ++ (headB t c l k ++ O), 0, K3, e3⟩ : WR) = X := by rw [← HXv.out]; unfold wrT; rw [if_neg (by simp)]; simp only [HK1.out]
        have HXR := Lib.hid hXR
        have hs2 := hs
        obtain ⟨a12, k12, rfl, _⟩ := hs
        rw [iz_len, HK1.out] at HSd ⊢
        clear HXv hXR hs2
        go_wp2_with fail
        refine (HP2.out _).mono ?_; rintro e0 w6 ⟨v13, rfl, ho, hb⟩
        have HO6 := Lib.hid (HO5.out.below hb)
        have HSd6 := Lib.hid (HSd.out.below hb (Nat.le_refl _))
        have HSz := Lib.hid ho.sl
        have hz45 : w5.heap.size ≤ w6.heap.size := hb.size
        have HRk6 := Lib.hid (HRk5.out.later hb)
        have HA6 := Lib.hid (HA5.out.trans (Aside.of_all hb))
        replace HKp5 := Lib.hid (fun B' v' (l' : List UInt8) (hB' : B ≤ B') (ho : OwnB w B' v' l') => (HKp5.out B' v' l' hB' ho).below hb)
        replace HH5 := Lib.hid (HH5.out.below hb)
        clear ho hb HO5 HSd HRk5 HA5
        have hol := HO6.out.lt
        have hol4 := HL4.out
        have hgs : g + 1 ≤ w6.heap.size := Nat.le_trans hg5 hz45
        obtain ⟨a7, k7, w7, hr7, ho7, ha7⟩ := run_appBs (g + 1) _ _ (A2 ++ four l) (two (k : Int)) HO6.out HSz.out (by rw [List.length_append, HL2.out, four_l, two_l]; omega) hgs
        rw [List.length_append, HL2.out, four_l, two_l, show m + 4 + 4 + 2 = m + 10 from rfl] at hr7 ho7
        have hSd7 := sl_aside HSd6.out ha7 (fun b hb hh => by have := (hol4 b hh).2; omega) hz45
        have hRk7 := HRk6.out.aside ha7 (fun hh => by have := (hol q hh).1; omega) (fun b hb hh => apart_BK HO6.out HRk6.out.own b hh hb)
        have hol7 := ho7.lt
        obtain ⟨a8, k8, w8, hr8, ho8, ha8⟩ := run_appBs (g + 1) _ _ (A2 ++ four l ++ two (k : Int)) O ho7 hSd7 (by rw [List.length_append, List.length_append, HL2.out, four_l, two_l, HK1.out]; omega) (Nat.le_trans hgs ha7.size)
        have hRk8 := hRk7.aside ha8 (fun hh => by have := (hol7 q hh).1; omega) (fun b hb hh => apart_BK ho7 hRk7.own b hh hb)
        rw [List.length_append, List.length_append, HL2.out, four_l, two_l, HK1.out, show m + 4 + 4 + 2 + k = m + 10 + k from rfl] at hr8 ho8
        have HA8 := Lib.hid ((HA6.out.trans (ha7.mono fun b _ hh => .inr (by have := (hol b hh).1; omega))).trans (ha8.mono fun b _ hh => .inr (by have := (hol7 b hh).1; omega)))
        have HKp8 := Lib.hid (fun B' v' (l' : List UInt8) (hB' : B ≤ B') (ho : OwnB w B' v' l') => (((HKp5.out B' v' l' hB' ho).aside ha7 fun b hb hh => by
          have h1 := (ho.lt b hb).2
          have h2 := (hol b hh).1
          omega).aside ha8 fun b hb hh => by
          have h1 := (ho.lt b hb).2
          have h2 := (hol7 b hh).1
          omega))
        have HH8 := Lib.hid ((HH5.out.own ha7 HO6.out (by omega)).own ha8 ho7 (by omega))
        have HR7 := Lib.hid hr7
        have HR8 := Lib.hid hr8
        have HO8 := Lib.hid ho8
        have HRk8 := Lib.hid hRk8
        clear hr7 hr8 ho7 ho8 ha7 ha8 hol hol4 hol7 hSd7 hRk7 hRk8 HO6 HRk6 HA6 HKp5 HSd6 HSz hgs hz45
        go_wp2_with (first | (at_builtin; refine wpList_append_run (.tmp 68) (.tmp 69) 28 28 rfl rfl rfl rfl HR7.out ?_) | (at_builtin; refine wpList_append_run (.tmp 71) (.tmp 72) 28 28 rfl rfl rfl rfl HR8.out ?_))
        go_ret2
        rw [← HXR.out]
        have eo : A2 ++ four l ++ two (k : Int) ++ O = T ++ (headB t c l k ++ O) := by rw [← HA2e.out]; unfold headB; simp
        have ho9 := HO8.out.sl
        rw [eo] at ho9
        exact ⟨_, v3, rfl, ho9.wide (by omega) (Nat.le_refl _), HRk8.out, HA8.out, HKp8.out, HH8.out⟩
      · have tC : (C != 0) = true := by simpa using hC0
        have hXR : (⟨[], C, K3, e3⟩ : WR) = X := by rw [← HXv.out]; unfold wrT; rw [if_pos hC0]
        have HXR := Lib.hid hXR
        clear HXv hXR
        go_wp2_with fail
        go_ret2
        rw [← HXR.out]
        exact ⟨_, v3, rfl, ⟨none, 0, rfl, by simp, fun _ => rfl, fun h => by simp at h⟩, HRk5.out, HA5.out, HKp5.out, HH5.out⟩
    · have tE : (E != 0) = true := by simpa using hE0
      rw [if_pos hE0] at HXv
      rw [if_pos hE0] at HAs
      simp only at HAs
      clear hpc HWt HP4 HP2 hY
      go_enter Tryz.func67, Tryz.ntmps67
      go_wp2_with fail
      refine (HCk.out _).mono ?_; rintro e0 w1 ⟨rfl, hb⟩
      replace HB := Lib.hid (bel_call HB.out hb)
      replace HX := Lib.hid (HX.out.below (by simp) hb)
      clear hb b0 b1 b2 b3 b4
      obtain ⟨b0, b1, b2, b3, b4⟩ := HX.out.five
      have HRk1 := Lib.hid (HRk.out.later HB.out)
      go_wp2_with fail
      refine (HAs.out _ HRk1.out).mono ?_; rintro e0 w2 ⟨v9, v2, rfl, ho, hrk, has, hkp⟩
      have HRk2 := Lib.hid hrk
      have hov := HRk.out.own.lt
      have HA2 := Lib.hid ((Aside.of_all HB.out : Aside (fun b => b = q ∨ B ≤ b) w w1).trans (has.mono fun b _ hh => hh.elim .inl fun hh => .inr (hov b hh).1))
      have HKp := Lib.hid (fun B' v' (l' : List UInt8) (hB' : B ≤ B') (ho : OwnB w B' v' l') => hkp B' v' l' hB' (ho.below HB.out))
      have HHp := Lib.hid (((Hold.refl q w).below HB.out).name has HRk1.out.own)
      clear ho hrk has hkp b0 b1 b2 b3 b4 HRk1 hov
      go_wp2_with fail
      go_ret2
      rw [← HXv.out]
      exact ⟨_, v2, rfl, ⟨none, 0, rfl, by simp, fun _ => rfl, fun h => by simp at h⟩, HRk2.out, HA2.out, HKp.out, HHp.out⟩
  · obtain ⟨E, hE⟩ : ∃ E, chkC ⟨n, t, c, l, d⟩ = E := ⟨_, rfl⟩
    rw [hE] at HCk HXv hA
    rw [if_pos hA] at HXv
    have tE : (E != 0) = true := by simpa using hA
    clear hE hA hG
    go_enter Tryz.func67, Tryz.ntmps67
    go_wp2_with fail
    refine (HCk.out _).mono ?_; rintro e0 w1 ⟨rfl, hb⟩
    have HB1 := Lib.hid (bel_call HB.out hb)
    clear hb b0 b1 b2 b3 b4 HB
    go_wp2_with fail
    go_ret2
    rw [← HXv.out]
    exact ⟨_, _, rfl, ⟨none, 0, rfl, by simp, fun _ => rfl, fun h => by simp at h⟩, HRk.out.later HB1.out, Aside.of_all HB1.out, fun B' v' l' _ ho => ho.below HB1.out, (Hold.refl q w).below HB1.out⟩
end Go.Proofs.YteegekpanadmkaaGreat

/-
  What the program writes of records and questions and what the document's own text writes: the walk.
-/
namespace Go.Proofs.YteegekpanadmkaaGreat
open Go.RowKit Go.Shelf
set_option linter.unusedVariables false
set_option linter.unusedSimpArgs false
set_option maxRecDepth 100000

theorem wrT_K (T : List UInt8) (t c l : Int) (R : WR) : (wrT T t c l R).K = R.K ∧ (wrT T t c l R).e = R.e := by
  unfold wrT; split <;> exact ⟨rfl, rfl⟩

theorem wrC_next {K : KK} {e : Nat} (a : Int) (x : Rc) (hG : GoodK K) (he : e ≤ 66000) : GoodK (wrC a x K e).K ∧ (wrC a x K e).K.length ≤ K.length + 600 ∧ (wrC a x K e).e ≤ 66000 := by
  unfold wrC
  split
  · exact ⟨hG, by simp, he⟩
  · split
    · exact ⟨hG, by simp, he⟩
    · obtain ⟨h1, h2, h3⟩ := nameK_good (e := e) (a := a) (n := x.n) hG
      obtain ⟨g1, g2, g3⟩ := wrR_next (e := nameE K e a x.n) (a + (nameB K e a x.n).length + 10) x.t x.d h1 (by omega)
      rw [(wrT_K _ _ _ _ _).1, (wrT_K _ _ _ _ _).2]
      exact ⟨g1, by omega, g3⟩

end Go.Proofs.YteegekpanadmkaaGreat

/-
  A pointer to a list of a message: how many entries there are, why one may not be, its bytes.
-/
namespace Go.Proofs.YteegekpanadmkaaGreat
open Go.RowKit Go.Shelf
set_option linter.unusedVariables false
set_option linter.unusedSimpArgs false
set_option maxRecDepth 100000

theorem mbound_yes (n : Int) (h : 0 ≤ n ∧ n ≤ 65535) (w : World) : Calls Tryz.prog 45 #[.int .i64 n] w fun e w' => e = .returned (.bool true) ∧ w = w' := by
  obtain ⟨h0, h1⟩ := h
  go_enter Tryz.func45, Tryz.ntmps45
  go_wp2
  go_ret
  exact ⟨rfl, rfl⟩

theorem mbound_no (n : Int) (h : n < 0 ∨ 65535 < n) (w : World) : Calls Tryz.prog 45 #[.int .i64 n] w fun e w' => e = .returned (.bool false) ∧ w = w' := by
  by_cases h0 : 0 ≤ n
  · have h1 : ¬ n ≤ 65535 := by omega
    go_enter Tryz.func45, Tryz.ntmps45
    go_wp2
    go_ret
    exact ⟨rfl, rfl⟩
  · go_enter Tryz.func45, Tryz.ntmps45
    go_wp2
    go_ret
    exact ⟨rfl, rfl⟩

theorem mbound_any (n : Int) (w : World) : Calls Tryz.prog 45 #[.int .i64 n] w fun e w' => e = .returned (.bool (decide (0 ≤ n ∧ n ≤ 65535))) ∧ w = w' := by
  by_cases h : 0 ≤ n ∧ n ≤ 65535
  · rw [decide_eq_true h]; exact mbound_yes n h w
  · rw [decide_eq_false h]; exact mbound_no n (by omega) w

theorem countQ_any {w : World} {M o hi : Nat} {v : Value} {l : List Qn} (hc : w.cell? ⟨M, o, none⟩ = some v) (hv : SQ w hi v l) :
    Calls Tryz.prog 119 #[.agg #[.pointer (some ⟨M, o, none⟩)]] w (Tells w (.int .i64 l.length)) := by
  obtain ⟨a, c, rfl⟩ := Lst.shape hv
  have hb := (Below.refl w.heap.size w).alloc (Nat.le_refl _) (.cells #[.pointer (some ⟨M, o, none⟩)] 117)
  have c0 := (hb.cell (p := ⟨M, o, none⟩) (World.block_lt_of_cell? w _ hc)).trans hc
  have HB := Lib.hid hb
  clear hb hc hv
  go_enter Tryz.func119, Tryz.ntmps119
  go_wp2_with fail
  go_ret
  exact ⟨rfl, HB.out⟩

theorem countR_any {w : World} {M o hi : Nat} {v : Value} {l : List Rc} (hc : w.cell? ⟨M, o, none⟩ = some v) (hv : SR w hi v l) :
    Calls Tryz.prog 152 #[.agg #[.pointer (some ⟨M, o, none⟩)]] w (Tells w (.int .i64 l.length)) := by
  obtain ⟨a, c, rfl⟩ := Lst.shape hv
  have hb := (Below.refl w.heap.size w).alloc (Nat.le_refl _) (.cells #[.pointer (some ⟨M, o, none⟩)] 120)
  have c0 := (hb.cell (p := ⟨M, o, none⟩) (World.block_lt_of_cell? w _ hc)).trans hc
  have HB := Lib.hid hb
  clear hb hc hv
  go_enter Tryz.func152, Tryz.ntmps152
  go_wp2_with fail
  go_ret
  exact ⟨rfl, HB.out⟩

set_option maxHeartbeats 2000000 in
theorem checkR_any {w : World} {M o hi : Nat} {v : Value} {l : List Rc} (hc : w.cell? ⟨M, o, none⟩ = some v) (hv : SR w hi v l) (hhi : hi ≤ w.heap.size) (j : Nat) (hj : j < l.length) (hn : l[j].n.length ≤ 1000000) (hd : l[j].d.length ≤ 1000000) :
    Calls Tryz.prog 151 #[.agg #[.pointer (some ⟨M, o, none⟩)], .int .i64 j] w (Tells w (.int .i64 (It.r l[j]).err)) := by
  obtain ⟨b, off, c, rfl, hb, hat⟩ := hv.at_ j hj
  have hlen := Lst.len hv
  have hbl := (Below.refl w.heap.size w).alloc (Nat.le_refl _) (.cells #[.pointer (some ⟨M, o, none⟩)] 120)
  have c0 := (hbl.cell (p := ⟨M, o, none⟩) (World.block_lt_of_cell? w _ hc)).trans hc
  have hat2 := hat.keep fun o => hbl.cell (p := ⟨b, o, none⟩) (Nat.lt_of_lt_of_le hb hhi)
  obtain ⟨d0, d1, d2, d3, d4⟩ := hat2
  have HB := Lib.hid hbl
  have HC := Lib.hid (fun wx => checkC_any l[j].n l[j].t l[j].c l[j].l l[j].d hn hd wx)
  have e : (It.r l[j]).err = chkC ⟨l[j].n, l[j].t, l[j].c, l[j].l, l[j].d⟩ := rfl
  rw [e]
  obtain ⟨E, hE⟩ : ∃ E, chkC ⟨l[j].n, l[j].t, l[j].c, l[j].l, l[j].d⟩ = E := ⟨_, rfl⟩
  rw [hE] at HC ⊢
  obtain ⟨x, hx⟩ : ∃ x, l[j] = x := ⟨_, rfl⟩
  rw [hx] at d0 d1 d2 d3 d4 HC
  clear hbl hc hv hat hE hx e hn hd
  go_enter Tryz.func151, Tryz.ntmps151
  go_wp2_with fail
  refine (tell_on HB (HC.out _)).mono ?_; rintro e w1 ⟨rfl, HB2⟩
  go_wp2_with fail
  go_ret
  exact ⟨rfl, HB2.out⟩

theorem mask_eq {n : List UInt8} {t c : Int} : askE n t c = if chk n ≠ 0 then chk n else if decide (0 ≤ t ∧ t ≤ 65535) = true ∧ decide (0 ≤ c ∧ c ≤ 65535) = true then 0 else 5 := by
  unfold askE
  split
  · rfl
  · simp only [decide_eq_true_eq]
    split <;> split <;> first | rfl | omega

set_option maxHeartbeats 4000000 in
theorem checkQ_any {w : World} {M o hi : Nat} {v : Value} {l : List Qn} (hc : w.cell? ⟨M, o, none⟩ = some v) (hv : SQ w hi v l) (hhi : hi ≤ w.heap.size) (j : Nat) (hj : j < l.length) (hn : l[j].n.length ≤ 1000000) :
    Calls Tryz.prog 118 #[.agg #[.pointer (some ⟨M, o, none⟩)], .int .i64 j] w (Tells w (.int .i64 (It.q l[j]).err)) := by
  obtain ⟨b, off, c, rfl, hb, hat⟩ := hv.at_ j hj
  have hlen := Lst.len hv
  have hbl := (Below.refl w.heap.size w).alloc (Nat.le_refl _) (.cells #[.pointer (some ⟨M, o, none⟩)] 117)
  have c0 := (hbl.cell (p := ⟨M, o, none⟩) (World.block_lt_of_cell? w _ hc)).trans hc
  have hat2 := hat.keep fun o => hbl.cell (p := ⟨b, o, none⟩) (Nat.lt_of_lt_of_le hb hhi)
  obtain ⟨d0, d1, d2⟩ := hat2
  obtain ⟨g, hg⟩ : ∃ g, w.heap.size = g := ⟨_, rfl⟩
  obtain ⟨W, hW⟩ : ∃ W, w.alloc (.cells #[.pointer (some ⟨M, o, none⟩)] 117) = W := ⟨_, rfl⟩
  have hWs : W.heap.size = g + 1 := by rw [← hW, World.size_alloc, hg]
  have k0 : W.cell? ⟨g, 0, none⟩ = some (.pointer (some ⟨M, o, none⟩)) := by rw [← hW, ← hg]; simp [go_sem]
  have HB := Lib.hid (bel_alloc hbl (.cells #[.string (bs l[j].n), .int .i64 l[j].t, .int .i64 l[j].c] 56))
  have HX := Lib.hid (cel_new3 W (.string (bs l[j].n)) (.int .i64 l[j].t) (.int .i64 l[j].c) 56)
  rw [hWs] at HX
  rw [hW] at HB c0 d0 d1 d2
  have HC := Lib.hid (fun wx => check_any l[j].n (by omega) wx)
  have HBT := Lib.hid (fun wx => mbound_any l[j].t wx)
  have HBC := Lib.hid (fun wx => mbound_any l[j].c wx)
  have e : (It.q l[j]).err = askE l[j].n l[j].t l[j].c := rfl
  rw [e, mask_eq]
  obtain ⟨E, hE⟩ : ∃ E, chk l[j].n = E := ⟨_, rfl⟩
  obtain ⟨B1, hB1⟩ : ∃ x, decide (0 ≤ l[j].t ∧ l[j].t ≤ 65535) = x := ⟨_, rfl⟩
  obtain ⟨B2, hB2⟩ : ∃ x, decide (0 ≤ l[j].c ∧ l[j].c ≤ 65535) = x := ⟨_, rfl⟩
  rw [hE] at HC ⊢
  rw [hB1] at HBT ⊢
  rw [hB2] at HBC ⊢
  obtain ⟨x, hx⟩ : ∃ x, l[j] = x := ⟨_, rfl⟩
  rw [hx] at d0 d1 d2 HX HC HBT HBC HB
  obtain ⟨x0, x1, x2⟩ := x
  simp only at d0 d1 d2 HX HC HBT HBC HB
  have HX0 := HX
  clear hbl hc hv hat hE hx e hn hB1 hB2 HX0
  have fin : ∀ R : Int, (if E ≠ 0 then E else if B1 = true ∧ B2 = true then 0 else 5) = R → Calls Tryz.prog 118 #[.agg #[.pointer (some ⟨M, o, none⟩)], .int .i64 j] w (Tells w (.int .i64 R)) := by
    intro R hR
    have HR := Lib.hid hR
    clear hR
    by_cases hE0 : E = 0
    · subst hE0
      cases B1 with
      | false =>
        have HR2 := Lib.hid (show (5 : Int) = R by rw [← HR.out]; simp)
        clear HR
        go_enter Tryz.func118, Tryz.ntmps118
        go_wp2_with fail
        refine (HC.out _).mono ?_; rintro e w1 ⟨rfl, hh⟩
        have HH := Lib.hid hh
        have HB2 := Lib.hid (bel_call HB.out hh)
        clear hh
        replace HX := Lib.hid (HX.out.below (by simp) HH.out)
        have e1 : w1.cell? ⟨g + 1, 1, none⟩ = some (.int .i64 x1) := HX.out.c 1 (by simp)
        have e2 : w1.cell? ⟨g + 1, 2, none⟩ = some (.int .i64 x2) := HX.out.c 2 (by simp)
        go_wp2_with fail
        refine (HBT.out _).mono ?_; rintro e w2 ⟨rfl, rfl⟩
        go_wp2_with fail
        go_ret
        exact ⟨by rw [← HR2.out]; rfl, HB2.out⟩
      | true =>
        cases B2 with
        | false =>
          have HR2 := Lib.hid (show (5 : Int) = R by rw [← HR.out]; simp)
          clear HR
          go_enter Tryz.func118, Tryz.ntmps118
          go_wp2_with fail
          refine (HC.out _).mono ?_; rintro e w1 ⟨rfl, hh⟩
          have HH := Lib.hid hh
          have HB2 := Lib.hid (bel_call HB.out hh)
          clear hh
          replace HX := Lib.hid (HX.out.below (by simp) HH.out)
          have e1 : w1.cell? ⟨g + 1, 1, none⟩ = some (.int .i64 x1) := HX.out.c 1 (by simp)
          have e2 : w1.cell? ⟨g + 1, 2, none⟩ = some (.int .i64 x2) := HX.out.c 2 (by simp)
          go_wp2_with fail
          refine (HBT.out _).mono ?_; rintro e w2 ⟨rfl, rfl⟩
          go_wp2_with fail
          refine (HBC.out _).mono ?_; rintro e w2 ⟨rfl, rfl⟩
          go_wp2_with fail
          go_ret
          exact ⟨by rw [← HR2.out]; rfl, HB2.out⟩
        | true =>
          have HR2 := Lib.hid (show (0 : Int) = R by rw [← HR.out]; simp)
          clear HR
          go_enter Tryz.func118, Tryz.ntmps118
          go_wp2_with fail
          refine (HC.out _).mono ?_; rintro e w1 ⟨rfl, hh⟩
          have HH := Lib.hid hh
          have HB2 := Lib.hid (bel_call HB.out hh)
          clear hh
          replace HX := Lib.hid (HX.out.below (by simp) HH.out)
          have e1 : w1.cell? ⟨g + 1, 1, none⟩ = some (.int .i64 x1) := HX.out.c 1 (by simp)
          have e2 : w1.cell? ⟨g + 1, 2, none⟩ = some (.int .i64 x2) := HX.out.c 2 (by simp)
          go_wp2_with fail
          refine (HBT.out _).mono ?_; rintro e w2 ⟨rfl, rfl⟩
          go_wp2_with fail
          refine (HBC.out _).mono ?_; rintro e w2 ⟨rfl, rfl⟩
          go_wp2_with fail
          go_ret
          exact ⟨by rw [← HR2.out]; rfl, HB2.out⟩
    · have tE : (E != 0) = true := by simpa using hE0
      have HR2 := Lib.hid (show E = R by rw [← HR.out, if_pos hE0])
      clear HR
      go_enter Tryz.func118, Tryz.ntmps118
      go_wp2_with fail
      refine (HC.out _).mono ?_; rintro e w1 ⟨rfl, hh⟩
      have HH := Lib.hid hh
      have HB2 := Lib.hid (bel_call HB.out hh)
      clear hh
      replace HX := Lib.hid (HX.out.below (by simp) HH.out)
      have e1 : w1.cell? ⟨g + 1, 1, none⟩ = some (.int .i64 x1) := HX.out.c 1 (by simp)
      have e2 : w1.cell? ⟨g + 1, 2, none⟩ = some (.int .i64 x2) := HX.out.c 2 (by simp)
      go_wp2_with fail
      go_ret
      exact ⟨by rw [← HR2.out]; rfl, HB2.out⟩
  exact fin _ rfl
end Go.Proofs.YteegekpanadmkaaGreat

/-
  The bytes of an entry of a list.
-/
namespace Go.Proofs.YteegekpanadmkaaGreat
open Go.RowKit Go.Shelf
set_option linter.unusedVariables false
set_option linter.unusedSimpArgs false
set_option maxRecDepth 100000

set_option maxHeartbeats 4000000 in
theorem writeQ_any {w : World} {M o hi p bm e : Nat} {v : Value} {l : List Qn} {K : KK} (hc : w.cell? ⟨M, o, none⟩ = some v) (hv : SQ w hi v l) (hhi : hi ≤ w.heap.size) (h : Pk w p bm K e) (hG : GoodK K) (hK : K.length ≤ 700000) (he : e ≤ 900000) (a : Int) (j : Nat) (hj : j < l.length) (hn : l[j].n.length ≤ 1000000) :
    Calls Tryz.prog 121 #[.agg #[.pointer (some ⟨M, o, none⟩)], .pointer (some ⟨p, 0, none⟩), .int .i64 a, .int .i64 j] w (WrPost w p bm (askW a l[j].n l[j].t l[j].c K e)) := by
  obtain ⟨b, off, c, rfl, hb, hat⟩ := hv.at_ j hj
  have hlen := Lst.len hv
  obtain ⟨W, hW⟩ : ∃ W, w.alloc (.cells #[.pointer (some ⟨M, o, none⟩)] 117) = W := ⟨_, rfl⟩
  have hbl : Below w.heap.size w W := by rw [← hW]; exact (Below.refl w.heap.size w).alloc (Nat.le_refl _) _
  have c0 := (hbl.cell (p := ⟨M, o, none⟩) (World.block_lt_of_cell? w _ hc)).trans hc
  have k0 : W.cell? ⟨w.heap.size, 0, none⟩ = some (.pointer (some ⟨M, o, none⟩)) := by rw [← hW]; simp [go_sem]
  obtain ⟨d0, d1, d2⟩ := hat.keep fun o => hbl.cell (p := ⟨b, o, none⟩) (Nat.lt_of_lt_of_le hb hhi)
  have HB := Lib.hid hbl
  have HP := h.later hbl
  have HC := Lib.hid (askC_any HP hG (by omega) he a l[j].n hn l[j].t l[j].c)
  have eR : askW a l[j].n l[j].t l[j].c K e = askW a l[j].n l[j].t l[j].c K e := rfl
  rw [eR]
  obtain ⟨R, hR⟩ : ∃ R, askW a l[j].n l[j].t l[j].c K e = R := ⟨_, rfl⟩
  rw [hR] at HC ⊢
  obtain ⟨x, hx⟩ : ∃ x, l[j] = x := ⟨_, rfl⟩
  rw [hx] at d0 d1 d2 HC
  clear hbl hc hv hat hR hx eR hn HP h 
  go_enter Tryz.func121, Tryz.ntmps121
  go_wp2_with fail
  refine HC.out.mono ?_; rintro e0 w1 ⟨v1, rfl, h1, h2, h3⟩
  have HQ := Lib.hid (show WrPost w p bm R (.returned (.tuple #[v1, .int .i64 R.code])) w1 from ⟨v1, rfl, h1.mono HB.out.size, h2, (Aside.of_all HB.out).trans h3⟩)
  clear h1 h2 h3
  go_wp2_with fail
  go_ret2
  exact HQ.out

set_option maxHeartbeats 4000000 in
theorem writeR_any {w : World} {M o hi p bm e : Nat} {v : Value} {l : List Rc} {K : KK} (hc : w.cell? ⟨M, o, none⟩ = some v) (hv : SR w hi v l) (hhi : hi ≤ w.heap.size) (h : Pk w p bm K e) (hG : GoodK K) (hK : K.length ≤ 700000) (he : e ≤ 900000) (a : Int) (j : Nat) (hj : j < l.length) (hn : l[j].n.length ≤ 1000000) (hd : l[j].d.length ≤ 1000000) :
    Calls Tryz.prog 154 #[.agg #[.pointer (some ⟨M, o, none⟩)], .pointer (some ⟨p, 0, none⟩), .int .i64 a, .int .i64 j] w (WrPost w p bm (wrC a l[j] K e)) := by
  obtain ⟨b, off, c, rfl, hb, hat⟩ := hv.at_ j hj
  have hlen := Lst.len hv
  obtain ⟨W, hW⟩ : ∃ W, w.alloc (.cells #[.pointer (some ⟨M, o, none⟩)] 120) = W := ⟨_, rfl⟩
  have hbl : Below w.heap.size w W := by rw [← hW]; exact (Below.refl w.heap.size w).alloc (Nat.le_refl _) _
  have c0 := (hbl.cell (p := ⟨M, o, none⟩) (World.block_lt_of_cell? w _ hc)).trans hc
  have k0 : W.cell? ⟨w.heap.size, 0, none⟩ = some (.pointer (some ⟨M, o, none⟩)) := by rw [← hW]; simp [go_sem]
  obtain ⟨d0, d1, d2, d3, d4⟩ := hat.keep fun o => hbl.cell (p := ⟨b, o, none⟩) (Nat.lt_of_lt_of_le hb hhi)
  have HB := Lib.hid hbl
  have HP := h.later hbl
  have HC := Lib.hid (writeC_any HP hG (by omega) he a l[j].n l[j].t l[j].c l[j].l l[j].d hn hd)
  have eR : wrC a l[j] K e = wrC a ⟨l[j].n, l[j].t, l[j].c, l[j].l, l[j].d⟩ K e := rfl
  rw [eR]
  obtain ⟨R, hR⟩ : ∃ R, wrC a ⟨l[j].n, l[j].t, l[j].c, l[j].l, l[j].d⟩ K e = R := ⟨_, rfl⟩
  rw [hR] at HC ⊢
  obtain ⟨x, hx⟩ : ∃ x, l[j] = x := ⟨_, rfl⟩
  rw [hx] at d0 d1 d2 d3 d4 HC
  clear hbl hc hv hat hR hx eR hn HP h hd
  go_enter Tryz.func154, Tryz.ntmps154
  go_wp2_with fail
  refine HC.out.mono ?_; rintro e0 w1 ⟨v1, rfl, h1, h2, h3⟩
  have HQ := Lib.hid (show WrPost w p bm R (.returned (.tuple #[v1, .int .i64 R.code])) w1 from ⟨v1, rfl, h1.mono HB.out.size, h2, (Aside.of_all HB.out).trans h3⟩)
  clear h1 h2 h3
  go_wp2_with fail
  go_ret2
  exact HQ.out

end Go.Proofs.YteegekpanadmkaaGreat

/-
  The pointers to the lists of a message.
-/
namespace Go.Proofs.YteegekpanadmkaaGreat
open Go.RowKit Go.Shelf
set_option linter.unusedVariables false
set_option linter.unusedSimpArgs false
set_option maxRecDepth 100000

def lq (M : Nat) : Value := .iface 117 (.agg #[.pointer (some ⟨M, 2, none⟩)])
def lr (M o : Nat) : Value := .iface 120 (.agg #[.pointer (some ⟨M, o, none⟩)])
def lall (M : Nat) : Array Value := #[lq M, lr M 3, lr M 4, lr M 5]

theorem cel_new4 (w : World) (a b c d : Value) (T : TypeId) : Cel (w.alloc (.cells #[a, b, c, d] T)) w.heap.size [a, b, c, d] := ⟨fun j hj => by
    match j, hj with
    | 0, _ => simp [go_sem]
    | 1, _ => simp [go_sem]
    | 2, _ => simp [go_sem]
    | 3, _ => simp [go_sem], fun j => by simp [go_sem]⟩

set_option maxHeartbeats 4000000 in
theorem lists_any (M : Nat) (w : World) (hM : M < w.heap.size) : Calls Tryz.prog 46 #[.pointer (some ⟨M, 0, none⟩)] w (Tells w (.agg (lall M))) := by
  obtain ⟨W, hW⟩ : ∃ W, w.alloc (.cells #[.nilIface, .nilIface, .nilIface, .nilIface] 79) = W := ⟨_, rfl⟩
  have hbl : Below w.heap.size w W := by rw [← hW]; exact (Below.refl w.heap.size w).alloc (Nat.le_refl _) _
  have HB := Lib.hid hbl
  obtain ⟨g, hg⟩ : ∃ g, w.heap.size = g := ⟨_, rfl⟩
  have hx : Cel W g [.nilIface, .nilIface, .nilIface, .nilIface] := by rw [← hW, ← hg]; exact cel_new4 w _ _ _ _ _
  have HX := Lib.hid hx
  have c0 : W.cell? ⟨g, 0, none⟩ = some .nilIface := hx.c 0 (by simp)
  have c1 : W.cell? ⟨g, 1, none⟩ = some .nilIface := hx.c 1 (by simp)
  have c2 : W.cell? ⟨g, 2, none⟩ = some .nilIface := hx.c 2 (by simp)
  have c3 : W.cell? ⟨g, 3, none⟩ = some .nilIface := hx.c 3 (by simp)
  have fz : ∀ j, W.frozen? ⟨g, j, none⟩ = false := hx.fz
  clear hx
  clear hbl
  go_enter Tryz.func46, Tryz.ntmps46
  go_wp2_with fail
  refine wp_region_held_drew (S := (fun wx => True)) (by kernel_rfl) trivial (fun hHeld => ?_)
  refine wpAnyH_take (i := 0) (oi := { dst := some 3, op := Op.move (Operand.tmp 0), type := 81, pos := "list.go:32", after := #[], guard := none }) (v := ?_) rfl (by kernel_rfl) (by kernel_rfl) (by kernel_rfl) (fun _ _ _ h => h) (Or.inl ⟨by rfl, ?_⟩) (by assumption) ?_
  rotate_left 1
  · intro w hSw; (try dsimp only at hSw); go_simp; try (with_reducible rfl)
  try simp only [Act.put, List.setIfInBounds_toArray, List.set_cons_zero, List.set_cons_succ]
  refine wpAnyH_take (i := 1) (oi := { dst := some 4, op := Op.nilCheck (Operand.tmp 3), type := 0, pos := "list.go:32", after := #[{ on := 0, ground := Ground.data }], guard := none }) (v := ?_) rfl (by kernel_rfl) (by kernel_rfl) (by kernel_rfl) (fun _ _ _ h => h) (Or.inl ⟨by rfl, ?_⟩) (by assumption) ?_
  rotate_left 1
  · intro w hSw; (try dsimp only at hSw); go_simp; try (with_reducible rfl)
  try simp only [Act.put, List.setIfInBounds_toArray, List.set_cons_zero, List.set_cons_succ]
  refine wpAnyH_take (i := 2) (oi := { dst := some 5, op := Op.fieldAddr 25 (Operand.tmp 4) 2, type := 0, pos := "list.go:32", after := #[{ on := 1, ground := Ground.data }], guard := none }) (v := ?_) rfl (by kernel_rfl) (by kernel_rfl) (by kernel_rfl) (fun _ _ _ h => h) (Or.inl ⟨by rfl, ?_⟩) (by assumption) ?_
  rotate_left 1
  · intro w hSw; (try dsimp only at hSw); go_simp; try (with_reducible rfl)
  try simp only [Act.put, List.setIfInBounds_toArray, List.set_cons_zero, List.set_cons_succ]
  refine wpAnyH_take (i := 3) (oi := { dst := some 6, op := Op.build 117 #[(0, Operand.tmp 5)], type := 117, pos := "list.go:32", after := #[{ on := 2, ground := Ground.data }], guard := none }) (v := ?_) rfl (by kernel_rfl) (by kernel_rfl) (by kernel_rfl) (fun _ _ _ h => h) (Or.inl ⟨by rfl, ?_⟩) (by assumption) ?_
  rotate_left 1
  · intro w hSw; (try dsimp only at hSw); go_simp; try (with_reducible rfl)
  try simp only [Act.put, List.setIfInBounds_toArray, List.set_cons_zero, List.set_cons_succ]
  refine wpAnyH_take (i := 4) (oi := { dst := some 7, op := Op.makeInterface 117 (Operand.tmp 6), type := 78, pos := "list.go:32", after := #[{ on := 3, ground := Ground.data }], guard := none }) (v := ?_) rfl (by kernel_rfl) (by kernel_rfl) (by kernel_rfl) (fun _ _ _ h => h) (Or.inl ⟨by rfl, ?_⟩) (by assumption) ?_
  rotate_left 1
  · intro w hSw; (try dsimp only at hSw); go_simp; try (with_reducible rfl)
  try simp only [Act.put, List.setIfInBounds_toArray, List.set_cons_zero, List.set_cons_succ]
  refine wpAnyH_take (i := 5) (oi := { dst := some 8, op := Op.move (Operand.tmp 0), type := 81, pos := "list.go:32", after := #[], guard := none }) (v := ?_) rfl (by kernel_rfl) (by kernel_rfl) (by kernel_rfl) (fun _ _ _ h => h) (Or.inl ⟨by rfl, ?_⟩) (by assumption) ?_
  rotate_left 1
  · intro w hSw; (try dsimp only at hSw); go_simp; try (with_reducible rfl)
  try simp only [Act.put, List.setIfInBounds_toArray, List.set_cons_zero, List.set_cons_succ]
  refine wpAnyH_take (i := 6) (oi := { dst := some 9, op := Op.nilCheck (Operand.tmp 8), type := 0, pos := "list.go:32", after := #[{ on := 5, ground := Ground.data }], guard := none }) (v := ?_) rfl (by kernel_rfl) (by kernel_rfl) (by kernel_rfl) (fun _ _ _ h => h) (Or.inl ⟨by rfl, ?_⟩) (by assumption) ?_
  rotate_left 1
  · intro w hSw; (try dsimp only at hSw); go_simp; try (with_reducible rfl)
  try simp only [Act.put, List.setIfInBounds_toArray, List.set_cons_zero, List.set_cons_succ]
  refine wpAnyH_take (i := 7) (oi := { dst := some 10, op := Op.fieldAddr 25 (Operand.tmp 9) 3, type := 0, pos := "list.go:32", after := #[{ on := 6, ground := Ground.data }], guard := none }) (v := ?_) rfl (by kernel_rfl) (by kernel_rfl) (by kernel_rfl) (fun _ _ _ h => h) (Or.inl ⟨by rfl, ?_⟩) (by assumption) ?_
  rotate_left 1
  · intro w hSw; (try dsimp only at hSw); go_simp; try (with_reducible rfl)
  try simp only [Act.put, List.setIfInBounds_toArray, List.set_cons_zero, List.set_cons_succ]
  refine wpAnyH_take (i := 8) (oi := { dst := some 11, op := Op.build 120 #[(0, Operand.tmp 10)], type := 120, pos := "list.go:32", after := #[{ on := 7, ground := Ground.data }], guard := none }) (v := ?_) rfl (by kernel_rfl) (by kernel_rfl) (by kernel_rfl) (fun _ _ _ h => h) (Or.inl ⟨by rfl, ?_⟩) (by assumption) ?_
  rotate_left 1
  · intro w hSw; (try dsimp only at hSw); go_simp; try (with_reducible rfl)
  try simp only [Act.put, List.setIfInBounds_toArray, List.set_cons_zero, List.set_cons_succ]
  refine wpAnyH_take (i := 9) (oi := { dst := some 12, op := Op.makeInterface 120 (Operand.tmp 11), type := 78, pos := "list.go:32", after := #[{ on := 8, ground := Ground.data }], guard := none }) (v := ?_) rfl (by kernel_rfl) (by kernel_rfl) (by kernel_rfl) (fun _ _ _ h => h) (Or.inl ⟨by rfl, ?_⟩) (by assumption) ?_
  rotate_left 1
  · intro w hSw; (try dsimp only at hSw); go_simp; try (with_reducible rfl)
  try simp only [Act.put, List.setIfInBounds_toArray, List.set_cons_zero, List.set_cons_succ]
  refine wpAnyH_take (i := 10) (oi := { dst := some 13, op := Op.move (Operand.tmp 0), type := 81, pos := "list.go:32", after := #[], guard := none }) (v := ?_) rfl (by kernel_rfl) (by kernel_rfl) (by kernel_rfl) (fun _ _ _ h => h) (Or.inl ⟨by rfl, ?_⟩) (by assumption) ?_
  rotate_left 1
  · intro w hSw; (try dsimp only at hSw); go_simp; try (with_reducible rfl)
  try simp only [Act.put, List.setIfInBounds_toArray, List.set_cons_zero, List.set_cons_succ]
  refine wpAnyH_take (i := 11) (oi := { dst := some 14, op := Op.nilCheck (Operand.tmp 13), type := 0, pos := "list.go:32", after := #[{ on := 10, ground := Ground.data }], guard := none }) (v := ?_) rfl (by kernel_rfl) (by kernel_rfl) (by kernel_rfl) (fun _ _ _ h => h) (Or.inl ⟨by rfl, ?_⟩) (by assumption) ?_
  rotate_left 1
  · intro w hSw; (try dsimp only at hSw); go_simp; try (with_reducible rfl)
  try simp only [Act.put, List.setIfInBounds_toArray, List.set_cons_zero, List.set_cons_succ]
  refine wpAnyH_take (i := 12) (oi := { dst := some 15, op := Op.fieldAddr 25 (Operand.tmp 14) 4, type := 0, pos := "list.go:32", after := #[{ on := 11, ground := Ground.data }], guard := none }) (v := ?_) rfl (by kernel_rfl) (by kernel_rfl) (by kernel_rfl) (fun _ _ _ h => h) (Or.inl ⟨by rfl, ?_⟩) (by assumption) ?_
  rotate_left 1
  · intro w hSw; (try dsimp only at hSw); go_simp; try (with_reducible rfl)
  try simp only [Act.put, List.setIfInBounds_toArray, List.set_cons_zero, List.set_cons_succ]
  refine wpAnyH_take (i := 13) (oi := { dst := some 16, op := Op.build 120 #[(0, Operand.tmp 15)], type := 120, pos := "list.go:32", after := #[{ on := 12, ground := Ground.data }], guard := none }) (v := ?_) rfl (by kernel_rfl) (by kernel_rfl) (by kernel_rfl) (fun _ _ _ h => h) (Or.inl ⟨by rfl, ?_⟩) (by assumption) ?_
  rotate_left 1
  · intro w hSw; (try dsimp only at hSw); go_simp; try (with_reducible rfl)
  try simp only [Act.put, List.setIfInBounds_toArray, List.set_cons_zero, List.set_cons_succ]
  refine wpAnyH_take (i := 14) (oi := { dst := some 17, op := Op.makeInterface 120 (Operand.tmp 16), type := 78, pos := "list.go:32", after := #[{ on := 13, ground := Ground.data }], guard := none }) (v := ?_) rfl (by kernel_rfl) (by kernel_rfl) (by kernel_rfl) (fun _ _ _ h => h) (Or.inl ⟨by rfl, ?_⟩) (by assumption) ?_
  rotate_left 1
  · intro w hSw; (try dsimp only at hSw); go_simp; try (with_reducible rfl)
  try simp only [Act.put, List.setIfInBounds_toArray, List.set_cons_zero, List.set_cons_succ]
  refine wpAnyH_take (i := 15) (oi := { dst := some 18, op := Op.move (Operand.tmp 0), type := 81, pos := "list.go:32", after := #[], guard := none }) (v := ?_) rfl (by kernel_rfl) (by kernel_rfl) (by kernel_rfl) (fun _ _ _ h => h) (Or.inl ⟨by rfl, ?_⟩) (by assumption) ?_
  rotate_left 1
  · intro w hSw; (try dsimp only at hSw); go_simp; try (with_reducible rfl)
  try simp only [Act.put, List.setIfInBounds_toArray, List.set_cons_zero, List.set_cons_succ]
  refine wpAnyH_take (i := 16) (oi := { dst := some 19, op := Op.nilCheck (Operand.tmp 18), type := 0, pos := "list.go:32", after := #[{ on := 15, ground := Ground.data }], guard := none }) (v := ?_) rfl (by kernel_rfl) (by kernel_rfl) (by kernel_rfl) (fun _ _ _ h => h) (Or.inl ⟨by rfl, ?_⟩) (by assumption) ?_
  rotate_left 1
  · intro w hSw; (try dsimp only at hSw); go_simp; try (with_reducible rfl)
  try simp only [Act.put, List.setIfInBounds_toArray, List.set_cons_zero, List.set_cons_succ]
  refine wpAnyH_take (i := 17) (oi := { dst := some 20, op := Op.fieldAddr 25 (Operand.tmp 19) 5, type := 0, pos := "list.go:32", after := #[{ on := 16, ground := Ground.data }], guard := none }) (v := ?_) rfl (by kernel_rfl) (by kernel_rfl) (by kernel_rfl) (fun _ _ _ h => h) (Or.inl ⟨by rfl, ?_⟩) (by assumption) ?_
  rotate_left 1
  · intro w hSw; (try dsimp only at hSw); go_simp; try (with_reducible rfl)
  try simp only [Act.put, List.setIfInBounds_toArray, List.set_cons_zero, List.set_cons_succ]
  refine wpAnyH_take (i := 18) (oi := { dst := some 21, op := Op.build 120 #[(0, Operand.tmp 20)], type := 120, pos := "list.go:32", after := #[{ on := 17, ground := Ground.data }], guard := none }) (v := ?_) rfl (by kernel_rfl) (by kernel_rfl) (by kernel_rfl) (fun _ _ _ h => h) (Or.inl ⟨by rfl, ?_⟩) (by assumption) ?_
  rotate_left 1
  · intro w hSw; (try dsimp only at hSw); go_simp; try (with_reducible rfl)
  try simp only [Act.put, List.setIfInBounds_toArray, List.set_cons_zero, List.set_cons_succ]
  refine wpAnyH_take (i := 19) (oi := { dst := some 22, op := Op.makeInterface 120 (Operand.tmp 21), type := 78, pos := "list.go:32", after := #[{ on := 18, ground := Ground.data }], guard := none }) (v := ?_) rfl (by kernel_rfl) (by kernel_rfl) (by kernel_rfl) (fun _ _ _ h => h) (Or.inl ⟨by rfl, ?_⟩) (by assumption) ?_
  rotate_left 1
  · intro w hSw; (try dsimp only at hSw); go_simp; try (with_reducible rfl)
  try simp only [Act.put, List.setIfInBounds_toArray, List.set_cons_zero, List.set_cons_succ]
  refine wpAnyH_take (i := 20) (oi := { dst := some 23, op := Op.build 79 #[(0, Operand.tmp 7), (1, Operand.tmp 12), (2, Operand.tmp 17), (3, Operand.tmp 22)], type := 79, pos := "list.go:32", after := #[{ on := 4, ground := Ground.data }, { on := 9, ground := Ground.data }, { on := 14, ground := Ground.data }, { on := 19, ground := Ground.data }], guard := none }) (v := ?_) rfl (by kernel_rfl) (by kernel_rfl) (by kernel_rfl) (fun _ _ _ h => h) (Or.inl ⟨by rfl, ?_⟩) (by assumption) ?_
  rotate_left 1
  · intro w hSw; (try dsimp only at hSw); go_simp; try (with_reducible rfl)
  try simp only [Act.put, List.setIfInBounds_toArray, List.set_cons_zero, List.set_cons_succ]
  refine wpAnyH_ready (rs := [21]) (by kernel_rfl) (by simp) ?_
  refine AllReadyH.cons (o := { dst := none, op := Op.store 79 (Operand.tmp 2) (Operand.tmp 23), type := 0, pos := "list.go:32", after := #[{ on := 20, ground := Ground.data }, { on := 0, ground := Ground.phase }, { on := 1, ground := Ground.phase }, { on := 2, ground := Ground.phase }, { on := 3, ground := Ground.phase }, { on := 4, ground := Ground.phase }, { on := 5, ground := Ground.phase }, { on := 6, ground := Ground.phase }, { on := 7, ground := Ground.phase }, { on := 8, ground := Ground.phase }, { on := 9, ground := Ground.phase }, { on := 10, ground := Ground.phase }, { on := 11, ground := Ground.phase }, { on := 12, ground := Ground.phase }, { on := 13, ground := Ground.phase }, { on := 14, ground := Ground.phase }, { on := 15, ground := Ground.phase }, { on := 16, ground := Ground.phase }, { on := 17, ground := Ground.phase }, { on := 18, ground := Ground.phase }, { on := 19, ground := Ground.phase }, { on := 20, ground := Ground.phase }], guard := none }) rfl (fun K hK => ?_) (AllReadyH.nil)
  go_simp
  refine hK.out _ _ trivial (fun hHeld => ?_)
  clear hK K
  try simp only [Act.put, List.setIfInBounds_toArray, List.set_cons_zero, List.set_cons_succ]
  refine wpAnyH_done (by kernel_rfl) ?_ _
  clear hHeld
  go_wp2_with fail
  have h4 := (((HX.out.set (o := 0) (by simp) (lq M)).set (o := 1) (by simp) (lr M 3)).set (o := 2) (by simp) (lr M 4)).set (o := 3) (by simp) (lr M 5)
  simp only [List.set_cons_zero, List.set_cons_succ] at h4
  have y0 := h4.c 0 (by simp)
  have y1 := h4.c 1 (by simp)
  have y2 := h4.c 2 (by simp)
  have y3 := h4.c 3 (by simp)
  simp only [List.getElem_cons_zero, List.getElem_cons_succ] at y0 y1 y2 y3
  clear h4 c0 c1 c2 c3 fz
  unfold lq lr at y0 y1 y2 y3
  refine bodyPost_ret (by simp [results, Tryz.results46, go_sem, y0, y1, y2, y3]; rfl) rfl ⟨rfl, ?_⟩
  rw [hg]
  have hb := HB.out
  rw [hg] at hb
  exact ((((hb.setCell (by simp) _).setCell (by simp) _).setCell (by simp) _).setCell (by simp) _).drew
end Go.Proofs.YteegekpanadmkaaGreat

/-
  Why a message may not be: Check.
-/
namespace Go.Proofs.YteegekpanadmkaaGreat
open Go.RowKit Go.Shelf
set_option linter.unusedVariables false
set_option linter.unusedSimpArgs false
set_option maxRecDepth 100000

theorem m_countQ (M : Nat) (w : World) : (method 313 117 (.agg #[.pointer (some ⟨M, 2, none⟩)]) "ostiary/msg.count").run Tryz.prog w = .ok (119, .agg #[.pointer (some ⟨M, 2, none⟩)]) w := by kernel_rfl
theorem m_countR (M o : Nat) (w : World) : (method 313 120 (.agg #[.pointer (some ⟨M, o, none⟩)]) "ostiary/msg.count").run Tryz.prog w = .ok (152, .agg #[.pointer (some ⟨M, o, none⟩)]) w := by kernel_rfl
theorem m_checkQ (M : Nat) (w : World) : (method 313 117 (.agg #[.pointer (some ⟨M, 2, none⟩)]) "ostiary/msg.check").run Tryz.prog w = .ok (118, .agg #[.pointer (some ⟨M, 2, none⟩)]) w := by kernel_rfl
theorem m_checkR (M o : Nat) (w : World) : (method 313 120 (.agg #[.pointer (some ⟨M, o, none⟩)]) "ostiary/msg.check").run Tryz.prog w = .ok (151, .agg #[.pointer (some ⟨M, o, none⟩)]) w := by kernel_rfl

theorem ix_l0 (M : Nat) (w : World) : (Instr.index 79 (.agg #[.iface 117 (.agg #[.pointer (some ⟨M, 2, none⟩)]), .iface 120 (.agg #[.pointer (some ⟨M, 3, none⟩)]), .iface 120 (.agg #[.pointer (some ⟨M, 4, none⟩)]), .iface 120 (.agg #[.pointer (some ⟨M, 5, none⟩)])]) (.int .i64 0)).run Tryz.prog w = .ok (.iface 117 (.agg #[.pointer (some ⟨M, 2, none⟩)])) w := by kernel_rfl
theorem ix_l1 (M : Nat) (w : World) : (Instr.index 79 (.agg #[.iface 117 (.agg #[.pointer (some ⟨M, 2, none⟩)]), .iface 120 (.agg #[.pointer (some ⟨M, 3, none⟩)]), .iface 120 (.agg #[.pointer (some ⟨M, 4, none⟩)]), .iface 120 (.agg #[.pointer (some ⟨M, 5, none⟩)])]) (.int .i64 1)).run Tryz.prog w = .ok (.iface 120 (.agg #[.pointer (some ⟨M, 3, none⟩)])) w := by kernel_rfl
theorem ix_l2 (M : Nat) (w : World) : (Instr.index 79 (.agg #[.iface 117 (.agg #[.pointer (some ⟨M, 2, none⟩)]), .iface 120 (.agg #[.pointer (some ⟨M, 3, none⟩)]), .iface 120 (.agg #[.pointer (some ⟨M, 4, none⟩)]), .iface 120 (.agg #[.pointer (some ⟨M, 5, none⟩)])]) (.int .i64 2)).run Tryz.prog w = .ok (.iface 120 (.agg #[.pointer (some ⟨M, 4, none⟩)])) w := by kernel_rfl
theorem ix_l3 (M : Nat) (w : World) : (Instr.index 79 (.agg #[.iface 117 (.agg #[.pointer (some ⟨M, 2, none⟩)]), .iface 120 (.agg #[.pointer (some ⟨M, 3, none⟩)]), .iface 120 (.agg #[.pointer (some ⟨M, 4, none⟩)]), .iface 120 (.agg #[.pointer (some ⟨M, 5, none⟩)])]) (.int .i64 3)).run Tryz.prog w = .ok (.iface 120 (.agg #[.pointer (some ⟨M, 5, none⟩)])) w := by kernel_rfl

structure Ms.Fine (m : Ms) : Prop where
  q : ∀ x ∈ m.q, x.n.length ≤ 1000000
  an : ∀ x ∈ m.an, x.n.length ≤ 1000000 ∧ x.d.length ≤ 1000000
  ns : ∀ x ∈ m.ns, x.n.length ≤ 1000000 ∧ x.d.length ≤ 1000000
  ar : ∀ x ∈ m.ar, x.n.length ≤ 1000000 ∧ x.d.length ≤ 1000000

theorem fst0_step {α : Type} (f : α → Int) (l : List α) (rest : List Int) (j : Nat) (hj : j < l.length) : fst0 ((l.drop j).map f ++ rest) = if f l[j] ≠ 0 then f l[j] else fst0 ((l.drop (j + 1)).map f ++ rest) := by
  rw [List.drop_eq_getElem_cons hj, List.map_cons, List.cons_append, fst0]
theorem fst0_end {α : Type} (f : α → Int) (l : List α) (rest : List Int) (j : Nat) (hj : l.length ≤ j) : fst0 ((l.drop j).map f ++ rest) = fst0 rest := by
  rw [List.drop_eq_nil_of_le hj]; rfl
def eqs (l : List Qn) : List Int := l.map fun x => (It.q x).err
def ers (l : List Rc) : List Int := l.map fun x => (It.r x).err
theorem its_errs (m : Ms) : m.its.map It.err = eqs m.q ++ (ers m.an ++ (ers m.ns ++ (ers m.ar ++ []))) := by
  unfold Ms.its eqs ers
  simp only [List.map_append, List.map_map, List.append_nil]
  rfl

set_option maxHeartbeats 16000000 in
theorem checkM_any {w : World} {hi : Nat} {u : Value} {m : Ms} (h : Mg w hi u m) (h1 : hi ≤ w.heap.size) (hf : m.Fine) :
    Calls Tryz.prog 18 #[u] w (Tells w (.int .i64 (chkM m))) := by
  obtain ⟨q, a, n, r, rfl, k1, k2, k3, k4⟩ := h
  have HmQ := fun M w => m_countQ M w
  have HmR := fun M o w => m_countR M o w
  have HkQ := fun M w => m_checkQ M w
  have HkR := fun M o w => m_checkR M o w
  have Hx0 := fun M w => ix_l0 M w
  have Hx1 := fun M w => ix_l1 M w
  have Hx2 := fun M w => ix_l2 M w
  have Hx3 := fun M w => ix_l3 M w
  obtain ⟨i0, hi0⟩ : ∃ i, m.id = i := ⟨_, rfl⟩
  obtain ⟨i1, hi1⟩ : ∃ i, m.fl = i := ⟨_, rfl⟩
  obtain ⟨R, hR⟩ : ∃ R, chkM m = R := ⟨_, rfl⟩
  rw [hi0, hi1, hR]
  unfold chkM at hR
  rw [hi0, hi1, its_errs] at hR
  obtain ⟨M, hM⟩ : ∃ M, w.heap.size = M := ⟨_, rfl⟩
  obtain ⟨W, hW⟩ : ∃ W, w.alloc (.cells #[.int .i64 i0, .int .i64 i1, q, a, n, r] 25) = W := ⟨_, rfl⟩
  have hb : Below w.heap.size w W := by rw [← hW]; exact (Below.refl _ _).alloc (Nat.le_refl _) _
  have hx : Cel W M [.int .i64 i0, .int .i64 i1, q, a, n, r] := by rw [← hW, ← hM]; exact cel_new6 w _ _ _ _ _ _ _
  have hWs : W.heap.size = M + 1 := by rw [← hW, World.size_alloc, hM]
  have HB := Lib.hid hb
  have HX := Lib.hid hx
  have HI0 := Lib.hid (fun wx => mbound_any i0 wx)
  have HI1 := Lib.hid (fun wx => mbound_any i1 wx)
  have HL := Lib.hid (fun wx (hb : Below w.heap.size w wx) (hx : Cel wx M [.int .i64 i0, .int .i64 i1, q, a, n, r]) => lists_any M wx (hx.lt (by simp)))
  have HCQ := Lib.hid (fun wx (hb : Below w.heap.size w wx) (hx : Cel wx M [.int .i64 i0, .int .i64 i1, q, a, n, r]) => countQ_any (hx.c 2 (by simp)) (Lst.below k1 hb h1))
  have HCA := Lib.hid (fun wx (hb : Below w.heap.size w wx) (hx : Cel wx M [.int .i64 i0, .int .i64 i1, q, a, n, r]) => countR_any (hx.c 3 (by simp)) (Lst.below k2 hb h1))
  have HCN := Lib.hid (fun wx (hb : Below w.heap.size w wx) (hx : Cel wx M [.int .i64 i0, .int .i64 i1, q, a, n, r]) => countR_any (hx.c 4 (by simp)) (Lst.below k3 hb h1))
  have HCR := Lib.hid (fun wx (hb : Below w.heap.size w wx) (hx : Cel wx M [.int .i64 i0, .int .i64 i1, q, a, n, r]) => countR_any (hx.c 5 (by simp)) (Lst.below k4 hb h1))
  have HKQ := Lib.hid (fun wx (hb : Below w.heap.size w wx) (hx : Cel wx M [.int .i64 i0, .int .i64 i1, q, a, n, r]) j hj => checkQ_any (hx.c 2 (by simp)) (Lst.below k1 hb h1) (Nat.le_trans h1 hb.size) j hj (hf.q _ (List.getElem_mem hj)))
  have HKA := Lib.hid (fun wx (hb : Below w.heap.size w wx) (hx : Cel wx M [.int .i64 i0, .int .i64 i1, q, a, n, r]) j hj => checkR_any (hx.c 3 (by simp)) (Lst.below k2 hb h1) (Nat.le_trans h1 hb.size) j hj (hf.an _ (List.getElem_mem hj)).1 (hf.an _ (List.getElem_mem hj)).2)
  have HKN := Lib.hid (fun wx (hb : Below w.heap.size w wx) (hx : Cel wx M [.int .i64 i0, .int .i64 i1, q, a, n, r]) j hj => checkR_any (hx.c 4 (by simp)) (Lst.below k3 hb h1) (Nat.le_trans h1 hb.size) j hj (hf.ns _ (List.getElem_mem hj)).1 (hf.ns _ (List.getElem_mem hj)).2)
  have HKR := Lib.hid (fun wx (hb : Below w.heap.size w wx) (hx : Cel wx M [.int .i64 i0, .int .i64 i1, q, a, n, r]) j hj => checkR_any (hx.c 5 (by simp)) (Lst.below k4 hb h1) (Nat.le_trans h1 hb.size) j hj (hf.ar _ (List.getElem_mem hj)).1 (hf.ar _ (List.getElem_mem hj)).2)
  have n1 := Lst.len k1
  have n2 := Lst.len k2
  have n3 := Lst.len k3
  have n4 := Lst.len k4
  have HR := Lib.hid hR
  clear hb k1 k2 k3 k4 hR
  by_cases hi : 0 ≤ i0 ∧ i0 ≤ 65535
  · by_cases hfl : 0 ≤ i1 ∧ i1 ≤ 65535
    · rw [decide_eq_true hi] at HI0
      rw [decide_eq_true hfl] at HI1
      have c0 : W.cell? ⟨M, 0, none⟩ = some (.int .i64 i0) := hx.c 0 (by simp)
      have c1 : W.cell? ⟨M, 1, none⟩ = some (.int .i64 i1) := hx.c 1 (by simp)
      clear hx
      have hR2 := HR.out
      rw [if_neg (by omega)] at hR2
      clear HR
      go_enter Tryz.func18, Tryz.ntmps18
      go_wp2_with fail
      refine (HI0.out _).mono ?_; rintro e w1 ⟨rfl, rfl⟩
      go_wp2_with fail
      refine (HI1.out _).mono ?_; rintro e w1 ⟨rfl, rfl⟩
      go_wp2_with fail
      refine (HL.out _ HB.out HX.out).mono ?_; rintro e w1 ⟨rfl, hb⟩
      replace HX := Lib.hid (HX.out.below (by simp) hb)
      replace HB := Lib.hid (bel_call HB.out hb)
      unfold lall lq lr
      clear hb c0 c1
      have HB2 := Lib.hid (bel_alloc HB.out (.cells #[.iface 117 (.agg #[.pointer (some ⟨M, 2, none⟩)]), .iface 120 (.agg #[.pointer (some ⟨M, 3, none⟩)]), .iface 120 (.agg #[.pointer (some ⟨M, 4, none⟩)]), .iface 120 (.agg #[.pointer (some ⟨M, 5, none⟩)])] 79))
      have HX2 := Lib.hid (HX.out.below (by simp) (bel_alloc (Below.refl w1.heap.size w1) (.cells #[.iface 117 (.agg #[.pointer (some ⟨M, 2, none⟩)]), .iface 120 (.agg #[.pointer (some ⟨M, 3, none⟩)]), .iface 120 (.agg #[.pointer (some ⟨M, 4, none⟩)]), .iface 120 (.agg #[.pointer (some ⟨M, 5, none⟩)])] 79)))
      replace HB := HB2
      replace HX := HX2
      clear HB2 HX2
      have HY := Lib.hid (cel_new4 w1 (.iface 117 (.agg #[.pointer (some ⟨M, 2, none⟩)])) (.iface 120 (.agg #[.pointer (some ⟨M, 3, none⟩)])) (.iface 120 (.agg #[.pointer (some ⟨M, 4, none⟩)])) (.iface 120 (.agg #[.pointer (some ⟨M, 5, none⟩)])) 79)
      go_wp2_with fail
      refine wp_loop_rounds 5 ?_
      rw [rounds_succ]
      go_wp2_with fail
      refine (HCQ.out _ HB.out HX.out).mono ?_; rintro e w2 ⟨rfl, hb⟩
      replace HX := Lib.hid (HX.out.below (by simp) hb)
      replace HB := Lib.hid (bel_call HB.out hb)
      replace HY := Lib.hid (HY.out.below (by simp) hb)
      clear hb
      by_cases g0 : 65535 < m.q.length
      · have t1 : decide ((65535 : Int) < m.q.length) = true := by simp; omega
        rw [if_pos (by omega)] at hR2
        have HR2 := Lib.hid hR2
        clear hR2
        go_wp2_with fail
        go_ret
        exact ⟨by rw [← HR2.out]; rfl, HB.out⟩
      have t10 : decide ((65535 : Int) < m.q.length) = false := by simp; omega
      go_wp2_with fail
      rw [rounds_succ]
      go_wp2_with fail
      refine (HCA.out _ HB.out HX.out).mono ?_; rintro e w3 ⟨rfl, hb⟩
      replace HX := Lib.hid (HX.out.below (by simp) hb)
      replace HB := Lib.hid (bel_call HB.out hb)
      replace HY := Lib.hid (HY.out.below (by simp) hb)
      clear hb
      by_cases g1 : 65535 < m.an.length
      · have t1 : decide ((65535 : Int) < m.an.length) = true := by simp; omega
        rw [if_pos (by omega)] at hR2
        have HR2 := Lib.hid hR2
        clear hR2
        go_wp2_with fail
        go_ret
        exact ⟨by rw [← HR2.out]; rfl, HB.out⟩
      have t11 : decide ((65535 : Int) < m.an.length) = false := by simp; omega
      go_wp2_with fail
      rw [rounds_succ]
      go_wp2_with fail
      refine (HCN.out _ HB.out HX.out).mono ?_; rintro e w4 ⟨rfl, hb⟩
      replace HX := Lib.hid (HX.out.below (by simp) hb)
      replace HB := Lib.hid (bel_call HB.out hb)
      replace HY := Lib.hid (HY.out.below (by simp) hb)
      clear hb
      by_cases g2 : 65535 < m.ns.length
      · have t1 : decide ((65535 : Int) < m.ns.length) = true := by simp; omega
        rw [if_pos (by omega)] at hR2
        have HR2 := Lib.hid hR2
        clear hR2
        go_wp2_with fail
        go_ret
        exact ⟨by rw [← HR2.out]; rfl, HB.out⟩
      have t12 : decide ((65535 : Int) < m.ns.length) = false := by simp; omega
      go_wp2_with fail
      rw [rounds_succ]
      go_wp2_with fail
      refine (HCR.out _ HB.out HX.out).mono ?_; rintro e w5 ⟨rfl, hb⟩
      replace HX := Lib.hid (HX.out.below (by simp) hb)
      replace HB := Lib.hid (bel_call HB.out hb)
      replace HY := Lib.hid (HY.out.below (by simp) hb)
      clear hb
      by_cases g3 : 65535 < m.ar.length
      · have t1 : decide ((65535 : Int) < m.ar.length) = true := by simp; omega
        rw [if_pos (by omega)] at hR2
        have HR2 := Lib.hid hR2
        clear hR2
        go_wp2_with fail
        go_ret
        exact ⟨by rw [← HR2.out]; rfl, HB.out⟩
      have t13 : decide ((65535 : Int) < m.ar.length) = false := by simp; omega
      go_wp2_with fail
      rw [if_neg (by omega)] at hR2
      replace HR := Lib.hid hR2
      clear hR2 t10 t11 t12 t13
      have l0 := HY.out.c 0 (by simp)
      have l1 := HY.out.c 1 (by simp)
      have l2 := HY.out.c 2 (by simp)
      have l3 := HY.out.c 3 (by simp)
      simp only [List.getElem_cons_zero, List.getElem_cons_succ] at l0 l1 l2 l3
      rw [rounds_succ]
      go_wp2_with fail
      clear l0 l1 l2 l3 HY
      refine wp_loop_rounds 5 ?_
      rw [rounds_succ]
      go_wp2_with fail
      refine (HCQ.out _ HB.out HX.out).mono ?_; rintro e w6 ⟨rfl, hb⟩
      replace HX := Lib.hid (HX.out.below (by simp) hb)
      replace HB := Lib.hid (bel_call HB.out hb)
      clear hb
      go_wp2_with fail
      go_loopg [35] m.q.length (fun g v35 wr => ∃ j : Nat, j + g = m.q.length ∧ v35 = .int .i64 j ∧ Hid (fst0 ((m.q.drop j).map (fun x => (It.q x).err) ++ (ers m.an ++ (ers m.ns ++ (ers m.ar ++ [])))) = R) ∧ Hid (Below w.heap.size w wr) ∧ Hid (Cel wr M [.int .i64 i0, .int .i64 i1, q, a, n, r]))
      case atStart => exact ⟨0, by omega, rfl, HR, HB, HX⟩
      case round =>
        clear HR HB HX
        obtain ⟨j, hj, rfl, HR, HB, HX⟩ := hrel
        by_cases hlt : j < m.q.length
        · have HK := Lib.hid (HKQ.out wr HB.out HX.out j hlt)
          have hst := HR.out
          rw [fst0_step _ _ _ _ hlt] at hst
          have hst : (if (It.q m.q[j]).err ≠ 0 then (It.q m.q[j]).err else fst0 ((m.q.drop (j + 1)).map (fun x => (It.q x).err) ++ (ers m.an ++ (ers m.ns ++ (ers m.ar ++ []))))) = R := hst
          obtain ⟨E, hE⟩ : ∃ E, (It.q m.q[j]).err = E := ⟨_, rfl⟩
          rw [hE] at HK hst
          clear hE
          by_cases hE0 : E = 0
          · subst hE0
            rw [if_neg (by simp)] at hst
            have HR2 := Lib.hid hst
            clear hst HR
            go_wp2_with fail
            refine HK.out.mono ?_; rintro e wx ⟨rfl, hb⟩
            replace HX := Lib.hid (HX.out.below (by simp) hb)
            replace HB := Lib.hid (bel_call HB.out hb)
            clear hb HK
            go_wp2_with fail
            go_roundg (m.q.length - (j + 1))
            case measure => omega
            case rel => exact ⟨j + 1, by omega, by go_num, HR2, HB, HX⟩
          · have tE : (E != 0) = true := by simpa using hE0
            rw [if_pos hE0] at hst
            have HR2 := Lib.hid hst
            clear hst HR
            go_wp2_with fail
            refine HK.out.mono ?_; rintro e wx ⟨rfl, hb⟩
            replace HB := Lib.hid (bel_call HB.out hb)
            clear hb HK
            go_wp2_with fail
            go_ret
            exact ⟨by rw [← HR2.out]; rfl, HB.out⟩
        have t1 : ¬ ((j : Int) < m.q.length) := by omega
        have hst := HR.out
        rw [fst0_end _ _ _ _ (by omega)] at hst
        clear HR
        have HR := Lib.hid hst
        clear hst
        go_wp2_with fail
        rw [rounds_succ]
        go_wp2_with fail
        refine (HCA.out _ HB.out HX.out).mono ?_; rintro e w7 ⟨rfl, hb⟩
        replace HX := Lib.hid (HX.out.below (by simp) hb)
        replace HB := Lib.hid (bel_call HB.out hb)
        clear hb
        go_wp2_with fail
        go_loopg [35] m.an.length (fun g v35 wr => ∃ j : Nat, j + g = m.an.length ∧ v35 = .int .i64 j ∧ Hid (fst0 ((m.an.drop j).map (fun x => (It.r x).err) ++ (ers m.ns ++ (ers m.ar ++ []))) = R) ∧ Hid (Below w.heap.size w wr) ∧ Hid (Cel wr M [.int .i64 i0, .int .i64 i1, q, a, n, r]))
        case atStart => exact ⟨0, by omega, rfl, HR, HB, HX⟩
        case round =>
          clear HR HB HX
          obtain ⟨j, hj, rfl, HR, HB, HX⟩ := hrel
          by_cases hlt : j < m.an.length
          · have HK := Lib.hid (HKA.out wr HB.out HX.out j hlt)
            have hst := HR.out
            rw [fst0_step _ _ _ _ hlt] at hst
            have hst : (if (It.r m.an[j]).err ≠ 0 then (It.r m.an[j]).err else fst0 ((m.an.drop (j + 1)).map (fun x => (It.r x).err) ++ (ers m.ns ++ (ers m.ar ++ [])))) = R := hst
            obtain ⟨E, hE⟩ : ∃ E, (It.r m.an[j]).err = E := ⟨_, rfl⟩
            rw [hE] at HK hst
            clear hE
            by_cases hE0 : E = 0
            · subst hE0
              rw [if_neg (by simp)] at hst
              have HR2 := Lib.hid hst
              clear hst HR
              go_wp2_with fail
              refine HK.out.mono ?_; rintro e wx ⟨rfl, hb⟩
              replace HX := Lib.hid (HX.out.below (by simp) hb)
              replace HB := Lib.hid (bel_call HB.out hb)
              clear hb HK
              go_wp2_with fail
              go_roundg (m.an.length - (j + 1))
              case measure => omega
              case rel => exact ⟨j + 1, by omega, by go_num, HR2, HB, HX⟩
            · have tE : (E != 0) = true := by simpa using hE0
              rw [if_pos hE0] at hst
              have HR2 := Lib.hid hst
              clear hst HR
              go_wp2_with fail
              refine HK.out.mono ?_; rintro e wx ⟨rfl, hb⟩
              replace HB := Lib.hid (bel_call HB.out hb)
              clear hb HK
              go_wp2_with fail
              go_ret
              exact ⟨by rw [← HR2.out]; rfl, HB.out⟩
          have t1 : ¬ ((j : Int) < m.an.length) := by omega
          have hst := HR.out
          rw [fst0_end _ _ _ _ (by omega)] at hst
          clear HR
          have HR := Lib.hid hst
          clear hst
          go_wp2_with fail
          rw [rounds_succ]
          go_wp2_with fail
          refine (HCN.out _ HB.out HX.out).mono ?_; rintro e w8 ⟨rfl, hb⟩
          replace HX := Lib.hid (HX.out.below (by simp) hb)
          replace HB := Lib.hid (bel_call HB.out hb)
          clear hb
          go_wp2_with fail
          go_loopg [35] m.ns.length (fun g v35 wr => ∃ j : Nat, j + g = m.ns.length ∧ v35 = .int .i64 j ∧ Hid (fst0 ((m.ns.drop j).map (fun x => (It.r x).err) ++ (ers m.ar ++ [])) = R) ∧ Hid (Below w.heap.size w wr) ∧ Hid (Cel wr M [.int .i64 i0, .int .i64 i1, q, a, n, r]))
          case atStart => exact ⟨0, by omega, rfl, HR, HB, HX⟩
          case round =>
            clear HR HB HX
            obtain ⟨j, hj, rfl, HR, HB, HX⟩ := hrel
            by_cases hlt : j < m.ns.length
            · have HK := Lib.hid (HKN.out wr HB.out HX.out j hlt)
              have hst := HR.out
              rw [fst0_step _ _ _ _ hlt] at hst
              have hst : (if (It.r m.ns[j]).err ≠ 0 then (It.r m.ns[j]).err else fst0 ((m.ns.drop (j + 1)).map (fun x => (It.r x).err) ++ (ers m.ar ++ []))) = R := hst
              obtain ⟨E, hE⟩ : ∃ E, (It.r m.ns[j]).err = E := ⟨_, rfl⟩
              rw [hE] at HK hst
              clear hE
              by_cases hE0 : E = 0
              · subst hE0
                rw [if_neg (by simp)] at hst
                have HR2 := Lib.hid hst
                clear hst HR
                go_wp2_with fail
                refine HK.out.mono ?_; rintro e wx ⟨rfl, hb⟩
                replace HX := Lib.hid (HX.out.below (by simp) hb)
                replace HB := Lib.hid (bel_call HB.out hb)
                clear hb HK
                go_wp2_with fail
                go_roundg (m.ns.length - (j + 1))
                case measure => omega
                case rel => exact ⟨j + 1, by omega, by go_num, HR2, HB, HX⟩
              · have tE : (E != 0) = true := by simpa using hE0
                rw [if_pos hE0] at hst
                have HR2 := Lib.hid hst
                clear hst HR
                go_wp2_with fail
                refine HK.out.mono ?_; rintro e wx ⟨rfl, hb⟩
                replace HB := Lib.hid (bel_call HB.out hb)
                clear hb HK
                go_wp2_with fail
                go_ret
                exact ⟨by rw [← HR2.out]; rfl, HB.out⟩
            have t1 : ¬ ((j : Int) < m.ns.length) := by omega
            have hst := HR.out
            rw [fst0_end _ _ _ _ (by omega)] at hst
            clear HR
            have HR := Lib.hid hst
            clear hst
            go_wp2_with fail
            rw [rounds_succ]
            go_wp2_with fail
            refine (HCR.out _ HB.out HX.out).mono ?_; rintro e w9 ⟨rfl, hb⟩
            replace HX := Lib.hid (HX.out.below (by simp) hb)
            replace HB := Lib.hid (bel_call HB.out hb)
            clear hb
            go_wp2_with fail
            go_loopg [35] m.ar.length (fun g v35 wr => ∃ j : Nat, j + g = m.ar.length ∧ v35 = .int .i64 j ∧ Hid (fst0 ((m.ar.drop j).map (fun x => (It.r x).err) ++ []) = R) ∧ Hid (Below w.heap.size w wr) ∧ Hid (Cel wr M [.int .i64 i0, .int .i64 i1, q, a, n, r]))
            case atStart => exact ⟨0, by omega, rfl, HR, HB, HX⟩
            case round =>
              clear HR HB HX
              obtain ⟨j, hj, rfl, HR, HB, HX⟩ := hrel
              by_cases hlt : j < m.ar.length
              · have HK := Lib.hid (HKR.out wr HB.out HX.out j hlt)
                have hst := HR.out
                rw [fst0_step _ _ _ _ hlt] at hst
                have hst : (if (It.r m.ar[j]).err ≠ 0 then (It.r m.ar[j]).err else fst0 ((m.ar.drop (j + 1)).map (fun x => (It.r x).err) ++ [])) = R := hst
                obtain ⟨E, hE⟩ : ∃ E, (It.r m.ar[j]).err = E := ⟨_, rfl⟩
                rw [hE] at HK hst
                clear hE
                by_cases hE0 : E = 0
                · subst hE0
                  rw [if_neg (by simp)] at hst
                  have HR2 := Lib.hid hst
                  clear hst HR
                  go_wp2_with fail
                  refine HK.out.mono ?_; rintro e wx ⟨rfl, hb⟩
                  replace HX := Lib.hid (HX.out.below (by simp) hb)
                  replace HB := Lib.hid (bel_call HB.out hb)
                  clear hb HK
                  go_wp2_with fail
                  go_roundg (m.ar.length - (j + 1))
                  case measure => omega
                  case rel => exact ⟨j + 1, by omega, by go_num, HR2, HB, HX⟩
                · have tE : (E != 0) = true := by simpa using hE0
                  rw [if_pos hE0] at hst
                  have HR2 := Lib.hid hst
                  clear hst HR
                  go_wp2_with fail
                  refine HK.out.mono ?_; rintro e wx ⟨rfl, hb⟩
                  replace HB := Lib.hid (bel_call HB.out hb)
                  clear hb HK
                  go_wp2_with fail
                  go_ret
                  exact ⟨by rw [← HR2.out]; rfl, HB.out⟩
              have t1 : ¬ ((j : Int) < m.ar.length) := by omega
              have hst := HR.out
              rw [fst0_end _ _ _ _ (by omega)] at hst
              clear HR
              have HR := Lib.hid hst
              clear hst
              go_wp2_with fail
              rw [rounds_succ]
              go_wp2_with fail
              go_ret
              exact ⟨by rw [← HR.out]; rfl, HB.out⟩
    · rw [decide_eq_true hi] at HI0
      rw [decide_eq_false hfl] at HI1
      have hR2 := HR.out
      rw [if_pos (by omega)] at hR2
      have HR2 := Lib.hid hR2
      have c0 : W.cell? ⟨M, 0, none⟩ = some (.int .i64 i0) := hx.c 0 (by simp)
      have c1 : W.cell? ⟨M, 1, none⟩ = some (.int .i64 i1) := hx.c 1 (by simp)
      clear hx HR hR2
      go_enter Tryz.func18, Tryz.ntmps18
      go_wp2_with fail
      refine (HI0.out _).mono ?_; rintro e w1 ⟨rfl, rfl⟩
      go_wp2_with fail
      refine (HI1.out _).mono ?_; rintro e w1 ⟨rfl, rfl⟩
      go_wp2_with fail
      go_ret
      exact ⟨by rw [← HR2.out]; rfl, HB.out⟩
  · rw [decide_eq_false hi] at HI0
    have hR2 := HR.out
    rw [if_pos (by omega)] at hR2
    have HR2 := Lib.hid hR2
    have c0 : W.cell? ⟨M, 0, none⟩ = some (.int .i64 i0) := hx.c 0 (by simp)
    clear hx HR hR2
    go_enter Tryz.func18, Tryz.ntmps18
    go_wp2_with fail
    refine (HI0.out _).mono ?_; rintro e w1 ⟨rfl, rfl⟩
    go_wp2_with fail
    go_ret
    exact ⟨by rw [← HR2.out]; rfl, HB.out⟩
end Go.Proofs.YteegekpanadmkaaGreat

/-
  What Write stands on: two bytes of a number, the deferred function, the bytes so far and the packer.
-/
namespace Go.Proofs.YteegekpanadmkaaGreat
open Go.RowKit Go.Shelf
set_option linter.unusedVariables false
set_option linter.unusedSimpArgs false
set_option maxRecDepth 100000

theorem mtwo_any (n : Int) (h0 : 0 ≤ n) (h1 : n ≤ 65535) (w : World) : Calls Tryz.prog 51 #[.int .i64 n] w fun e w' => ∃ a c, e = .returned (.slice a 2 c) ∧ OwnB w' w.heap.size (.slice a 2 c) (two n) ∧ Below w.heap.size w w' := by
  have HP : Hid (Calls Tryz.prog 73 #[.int .i64 n] w fun e w' => ∃ a c, e = .returned (.tuple #[.slice a 2 c, .int .i64 (putE 65535 n)]) ∧ OwnB w' w.heap.size (.slice a 2 c) (two n) ∧ Below w.heap.size w w') := by
    refine (put16_any n w).mono ?_
    rintro e w' ⟨v, g, rfl, ho, hg, _, hb⟩
    rw [← iz_two n h0 h1] at ho
    have hs := (OwnB.of_own ho (by rw [two_len]; omega)).mono hg
    obtain ⟨a, c, rfl⟩ := hs.shape
    exact ⟨a, c, rfl, hs, hb⟩
  obtain ⟨E, hE⟩ : ∃ E, putE 65535 n = E := ⟨_, rfl⟩
  rw [hE] at HP
  clear hE
  go_enter Tryz.func51, Tryz.ntmps51
  go_wp2_with fail
  refine HP.out.mono ?_; rintro e w1 ⟨a, c, rfl, hs, hb⟩
  have HQ := Lib.hid (And.intro hs hb)
  clear hs hb
  go_wp2_with fail
  go_ret
  exact ⟨a, c, rfl, HQ.out⟩

theorem rowB_all {l : List UInt8} {cap : Nat} : ∀ u ∈ rowB l cap, ∃ x : Int, u = .int .u8 x := by
  intro u hu
  unfold rowB at hu
  rcases List.mem_append.mp hu with hu | hu
  · rw [ub_iz] at hu
    obtain ⟨x, _, rfl⟩ := List.mem_map.mp hu
    exact ⟨x, rfl⟩
  · exact ⟨0, (List.mem_replicate.mp hu).2⟩

theorem pk_apart {w : World} {p bm e B : Nat} {K : KK} {v : Value} {l : List UInt8} (h : Pk w p bm K e) (ho : OwnB w B v l) (b : Nat) (hb : v.ownBlock = some b) : ¬ (b = p ∨ b = bm) := by
  rcases ho with ⟨rfl, _⟩ | ⟨g, cap, fz, rfl, _, _, _, _, hg⟩
  · simp [Value.ownBlock] at hb
  · simp [Value.ownBlock] at hb
    subst hb
    rintro (rfl | rfl)
    · have := h.self
      rw [World.cell?, hg] at this
      simp only [List.getElem?_toArray] at this
      have hm := rowB_all _ (List.mem_of_getElem? (by simpa using this))
      obtain ⟨x, hx⟩ := hm
      cases hx
    · obtain ⟨D, ⟨es, clock, hm, _⟩, _⟩ := h.map
      rw [hg] at hm
      cases hm

structure W0 (w wr : World) (M N B0 : Nat) (xs ys : List Value) (bv : Value) (b : List UInt8) : Prop where
  x : Cel wr M xs
  xl : 0 < xs.length
  c2 : Cel wr (M + 1) [bv]
  c3 : Cel wr (M + 2) [.int .i64 0]
  y : Cel wr N ys
  yl : 0 < ys.length
  hN : N < B0
  hM : M + 3 ≤ B0
  ne : N ≠ M + 1 ∧ N ≠ M + 2
  row : OwnB wr B0 bv b
  bel : Below M w wr
  size : B0 ≤ wr.heap.size

section
variable {w wr w' : World} {M N B0 p bm e : Nat} {xs ys : List Value} {bv : Value} {b : List UInt8} {K : KK}
theorem W0.aside {G : Nat → Prop} (h : W0 w wr M N B0 xs ys bv b) (ha : Aside G wr w') (hG : ∀ k, k < B0 → ¬ G k) (hr : ∀ k, bv.ownBlock = some k → ¬ G k) : W0 w w' M N B0 xs ys bv b := by
  have hm := h.hM
  exact ⟨h.x.aside h.xl ha (hG _ (by omega)), h.xl, h.c2.aside (by simp) ha (hG _ (by omega)), h.c3.aside (by simp) ha (hG _ (by omega)), h.y.aside h.yl ha (hG _ h.hN), h.yl, h.hN, hm, h.ne, h.row.aside ha hr, below_aside h.bel ha fun k hk => ⟨Nat.lt_of_lt_of_le (by omega) h.size, hG k (by omega)⟩, Nat.le_trans h.size ha.size⟩
theorem W0.later (h : W0 w wr M N B0 xs ys bv b) (hb : Below wr.heap.size wr w') : W0 w w' M N B0 xs ys bv b :=
  h.aside (G := fun _ => False) (Aside.of_all hb) (fun _ _ h => h) (fun _ _ h => h)
theorem W0.name (h : W0 w wr M N B0 xs ys bv b) (hp : Pk wr p bm K e) (h1 : B0 ≤ p) (h2 : B0 ≤ bm) (ha : Aside (fun k => k = p ∨ k = bm) wr w') : W0 w w' M N B0 xs ys bv b :=
  h.aside ha (fun k hk hg => by omega) (fun k hk hg => pk_apart hp h.row k hk hg)
theorem W0.put {v : Value} {b' : List UInt8} (h : W0 w wr M N B0 xs ys bv b) (ho : OwnB wr B0 v b') : W0 w (wr.setCell ⟨M + 1, 0, none⟩ v) M N B0 xs ys v b' := by
  have hm := h.hM
  refine ⟨h.x.other (by simp) _, h.xl, ?_, h.c3.other (by simp) _, h.y.other (by simpa using h.ne.1.symm) _, h.yl, h.hN, hm, h.ne, ?_, h.bel.setCell (by simp) _, Nat.le_trans h.size (by simp [World.setCell])⟩
  · have := h.c2.set (o := 0) (by simp) v
    simpa using this
  · refine ho.aside (G := fun k => k = M + 1) (Aside.setCell _ _ rfl) fun k hk hg => ?_
    have := (ho.lt k hk).1
    omega
theorem W0.noerr (h : W0 w wr M N B0 xs ys bv b) : W0 w (wr.setCell ⟨M + 2, 0, none⟩ (.int .i64 0)) M N B0 xs ys bv b := by
  have hm := h.hM
  refine ⟨h.x.other (by simp) _, h.xl, h.c2.other (by simp) _, ?_, h.y.other (by simpa using h.ne.2.symm) _, h.yl, h.hN, hm, h.ne, ?_, h.bel.setCell (by simp) _, Nat.le_trans h.size (by simp [World.setCell])⟩
  · have := h.c3.set (o := 0) (by simp) (.int .i64 0)
    simpa using this
  · refine h.row.aside (G := fun k => k = M + 2) (Aside.setCell _ _ rfl) fun k hk hg => ?_
    have := (h.row.lt k hk).1
    omega
theorem W0.lists {N' : Nat} {zs : List Value} (h : W0 w wr M N B0 xs ys (.slice none 0 0) []) (hy : Cel wr N' zs) (hz : 0 < zs.length) (hN : B0 ≤ N') (hs : N' + 1 ≤ wr.heap.size) : W0 w wr M N' (N' + 1) xs zs (.slice none 0 0) [] := by
  have hm := h.hM
  exact ⟨h.x, h.xl, h.c2, h.c3, hy, hz, by omega, by omega, ⟨by omega, by omega⟩, OwnB.nil _ _, h.bel, hs⟩

theorem W0.app (h : W0 w wr M N B0 xs ys bv b) {xv : Value} {l' : List UInt8} {lo hi : Nat} (hx : Sl wr lo hi xv (iz l')) (hb : b.length + l'.length ≤ 1000000) :
    ∃ a' c' w', (Builtin.append_ #[28, 28] 28 #[bv, xv]).run Tryz.prog wr = .ok (.slice a' (b.length + l'.length) c') w' ∧
      w'.cell? ⟨M + 1, 0, none⟩ = some bv ∧ (∀ j, w'.frozen? ⟨M + 1, j, none⟩ = false) ∧ W0 w (w'.setCell ⟨M + 1, 0, none⟩ (.slice a' (b.length + l'.length) c')) M N B0 xs ys (.slice a' (b.length + l'.length) c') (b ++ l') ∧
      ∀ p bm K e, Pk wr p bm K e → B0 ≤ p → B0 ≤ bm → Pk (w'.setCell ⟨M + 1, 0, none⟩ (.slice a' (b.length + l'.length) c')) p bm K e := by
  have hm := h.hM
  obtain ⟨a', c', w', h1, h2, ha⟩ := run_appBs B0 bv xv b l' h.row hx hb h.size
  have hlt := h.row.lt
  have hG : ∀ k, k < B0 → ¬ bv.ownBlock = some k := fun k hk hg => by have := (hlt k hg).1; omega
  have k2 := h.c2.aside (by simp) ha (hG _ (by omega))
  have k0 := h.x.aside h.xl ha (hG _ (by omega))
  have k3 := h.c3.aside (by simp) ha (hG _ (by omega))
  have k4 := h.y.aside h.yl ha (hG _ h.hN)
  refine ⟨a', c', w', h1, k2.c 0 (by simp), k2.fz, ⟨k0.other (by simp) _, h.xl, ?_, k3.other (by simp) _, k4.other (by simpa using h.ne.1.symm) _, h.yl, h.hN, hm, h.ne, ?_, ?_, ?_⟩, fun p bm K e hp p1 p2 => ?_⟩
  · have := k2.set (o := 0) (by simp) (.slice a' (b.length + l'.length) c')
    simpa using this
  · refine h2.aside (G := fun k => k = M + 1) (Aside.setCell _ _ rfl) fun k hk hg => ?_
    have := (h2.lt k hk).1
    omega
  · exact (below_aside h.bel ha fun k hk => ⟨Nat.lt_of_lt_of_le (by omega) h.size, hG k (by omega)⟩).setCell (by simp) _
  · exact Nat.le_trans h.size (Nat.le_trans ha.size (by simp [World.setCell]))
  · have := hp.aside ha (fun hg => pk_apart hp h.row p hg (.inl rfl)) (fun hg => pk_apart hp h.row bm hg (.inr rfl))
    exact this.aside (G := fun k => k = M + 1) (Aside.setCell _ _ rfl) (by omega) (by omega)
end

theorem cel_new1 (w : World) (a : Value) (T : TypeId) : Cel (w.alloc (.cells #[a] T)) w.heap.size [a] := ⟨fun j hj => by
    match j, hj with
    | 0, _ => simp [go_sem], fun j => by simp [go_sem]⟩

theorem W0.start {w : World} {M : Nat} (hM : w.heap.size = M) (i0 i1 q a n r : Value) : ∃ W1 W2 W3, w.alloc (.cells #[i0, i1, q, a, n, r] 25) = W1 ∧ W1.alloc (.cells #[.slice none 0 0] 28) = W2 ∧ W2.alloc (.cells #[.int .i64 0] 29) = W3 ∧
    W1.heap.size = M + 1 ∧ W2.heap.size = M + 2 ∧ W3.heap.size = M + 3 ∧ W0 w W3 M M (M + 3) [i0, i1, q, a, n, r] [i0, i1, q, a, n, r] (.slice none 0 0) [] := by
  refine ⟨_, _, _, rfl, rfl, rfl, by simp [hM], by simp [hM], by simp [hM], ?_⟩
  have hx := cel_new6 w i0 i1 q a n r 25
  have hy := cel_new1 (w.alloc (.cells #[i0, i1, q, a, n, r] 25)) (.slice none 0 0) 28
  have hz := cel_new1 ((w.alloc (.cells #[i0, i1, q, a, n, r] 25)).alloc (.cells #[.slice none 0 0] 28)) (.int .i64 0) 29
  simp only [World.size_alloc, hM] at hx hy hz
  have hx' := hx.below (by simp) (((Below.refl _ _).alloc (Nat.le_refl _) (.cells #[.slice none 0 0] 28)).alloc (by simp) (.cells #[.int .i64 0] 29))
  refine ⟨hx', by simp, ?_, hz, hx', by simp, by omega, by omega, ⟨by omega, by omega⟩, OwnB.nil _ _, ?_, by simp [hM]⟩
  · exact hy.below (by simp) ((Below.refl _ _).alloc (Nat.le_refl _) _)
  · rw [← hM]
    exact (((Below.refl _ _).alloc (Nat.le_refl _) _).alloc (by simp) _).alloc (by simp; omega) _

theorem oper_app_run {w w' : World} {v v' xv : Value} {ops : Array Oper} {o : Oper} {a : Act} {K : Act → World → Prop} {Q : Exit → Act → World → Prop} (s x : Operand) (t u : TypeId)
    (ho : o.op = .call { callee := .builtin .append, args := #[s, x], argTypes := #[t, u] }) (hgd : o.guard = .none) (hs : a.eval s = v) (hx : a.eval x = xv)
    (hrun : (Builtin.append_ #[t, u] o.type #[v, xv]).run Tryz.prog w = .ok v' w') (h : K (a.put o.dst v') w') : if Region.wanted o (yielded ops a.tmps) = true then Oper.wp Tryz.prog o a w K Q else K (a.put o.dst undef) w := by
  rw [if_pos (by simp [Region.wanted, hgd])]
  unfold Oper.wp
  simp [execOp, ho, resolve, invoke, builtin, hs, hx, hrun, Result.andThen]
  exact h

theorem leaves_of {P : Program} {fn : Func} {R : Ending → World → Prop} {tmps tmps' : Array Value} (h : ∀ w, (results fn tmps).run P w = (results fn tmps').run P w) : ∀ (ds : List Deferred) (u : FrameMode) (w : World), Leaves P fn tmps R ds u w → Leaves P fn tmps' R ds u w
  | [], .returning, w, ⟨v, h1, h2⟩ => ⟨v, (h w).symm.trans h1, h2⟩
  | [], .panicking chain, w, hl => hl
  | [], .run, w, hl => hl
  | d :: ds, u, w, ⟨hu, fv, cap, f, args, ht, hi, hc⟩ => ⟨hu, fv, cap, f, args, ht, hi, hc.mono fun e u' w' hr => by
      cases e with
      | returned v => exact leaves_of h ds _ _ hr
      | panicked ch => exact leaves_of h ds _ _ hr
      | outgrown => exact hr⟩

theorem wres_put (a : Act) (d : Option Nat) (v : Value) (hd : d ≠ some 2 ∧ d ≠ some 3) (w : World) : (results Tryz.f24 (a.put d v).tmps).run Tryz.prog w = (results Tryz.f24 a.tmps).run Tryz.prog w := by
  cases d with
  | none => rfl
  | some d =>
    have e2 : (a.tmps.setIfInBounds d v).getD 2 undef = a.tmps.getD 2 undef := by
      simp only [Array.getD_eq_getD_getElem?]
      rw [Array.getElem?_setIfInBounds_ne (by intro e; exact hd.1 (by rw [e]))]
    have e3 : (a.tmps.setIfInBounds d v).getD 3 undef = a.tmps.getD 3 undef := by
      simp only [Array.getD_eq_getD_getElem?]
      rw [Array.getElem?_setIfInBounds_ne (by intro e; exact hd.2 (by rw [e]))]
    show (results Tryz.f24 (a.tmps.setIfInBounds d v)).run Tryz.prog w = _
    simp [results, Tryz.results24, go_sem, -Array.getD_eq_getD_getElem?, e2, e3]
theorem wq_put {R : Ending → World → Prop} {ch : List PanicEntry} {a : Act} {w : World} {d : Option Nat} {v : Value} (hd : d ≠ some 2 ∧ d ≠ some 3) (h : bodyPostD Tryz.prog Tryz.f24 R (.panic ch) (a.put d v) w) : bodyPostD Tryz.prog Tryz.f24 R (.panic ch) a w := by
  have h2 : Leaves Tryz.prog Tryz.f24 (a.put d v).tmps R (a.put d v).defers (.panicking ch) w := h
  have e : (a.put d v).defers = a.defers := by cases d <;> rfl
  rw [e] at h2
  exact leaves_of (fun w => wres_put a d v hd w) _ _ _ h2

theorem wend_ok (g h : Nat) (w : World) (hp : w.cell? ⟨g, 0, none⟩ = some (.int .i64 0)) :
    CallsD Tryz.prog 50 #[.pointer (some ⟨g, 0, none⟩), .pointer (some ⟨h, 0, none⟩)] .returning w fun e u' w' => u' = .returning ∧ (e = .returned (.tuple #[]) ∧ w = w') := by
  refine callsD_of_wp Tryz.func50 rfl ?_
  simp only [Tryz.ntmps50, List.size_toArray, List.length_cons, List.length_nil, Nat.reduceAdd, Nat.reduceSub, Array.replicate_succ, Array.replicate_zero, List.push_toArray, List.append_toArray, List.nil_append, List.cons_append]
  go_wp2
  exact ⟨rfl, .tuple #[], by simp [results, Tryz.results50], rfl, rfl⟩
theorem wend_bad (g h : Nat) (E : Int) (v : Value) (hE : E ≠ 0) (w : World) (hp : w.cell? ⟨g, 0, none⟩ = some (.int .i64 E)) (hq : w.cell? ⟨h, 0, none⟩ = some v) (hf : ∀ j, w.frozen? ⟨h, j, none⟩ = false) :
    CallsD Tryz.prog 50 #[.pointer (some ⟨g, 0, none⟩), .pointer (some ⟨h, 0, none⟩)] .returning w fun e u' w' => u' = .returning ∧ (e = .returned (.tuple #[]) ∧ w' = w.setCell ⟨h, 0, none⟩ (.slice none 0 0)) := by
  have tE : (E != 0) = true := by simpa using hE
  refine callsD_of_wp Tryz.func50 rfl ?_
  simp only [Tryz.ntmps50, List.size_toArray, List.length_cons, List.length_nil, Nat.reduceAdd, Nat.reduceSub, Array.replicate_succ, Array.replicate_zero, List.push_toArray, List.append_toArray, List.nil_append, List.cons_append]
  go_wp2
  exact ⟨rfl, .tuple #[], by simp [results, Tryz.results50], rfl, rfl⟩
end Go.Proofs.YteegekpanadmkaaGreat
