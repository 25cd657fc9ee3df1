/-
  The document's own: a question's bytes.
-/
import Derived.Test.YtdikgjbpjdnodaaGreatT11
import Derived.Test.YtdikgjbpjdnodaaGreatT15
import Derived.Test.YtdikgjbpjdnodaaGreatT17
import Derived.Test.YtdikgjbpjdnodaaGreatT16
import Derived.Test.YtdikgjbpjdnodaaGreatT10
import Derived.Test.YtdikgjbpjdnodaaGreatT03
import Derived.Test.YtdikgjbpjdnodaaGreatT04
namespace Go.Proofs.YtdikgjbpjdnodaaGreat
open Go.RowKit Go.Shelf
set_option linter.unusedVariables false
set_option linter.unusedSimpArgs false
set_option maxRecDepth 100000

theorem two_l (t : Int) : (two t).length = 2 := rfl
theorem four_l (t : Int) : (four t).length = 4 := rfl

theorem sl_aside {w w' : World} {lo hi : Nat} {v : Value} {l : List Int} {G : Nat → Prop} (h : Sl w lo hi v l) (ha : Aside G w w') (hG : ∀ b, lo ≤ b → ¬ G b) (hhi : hi ≤ w.heap.size) : Sl w' lo hi v l :=
  h.keep fun b o h1 h2 => ha.cell (p := ⟨b, o, none⟩) (Nat.lt_of_lt_of_le h2 hhi) (hG b h1)

/-- One more row of bytes behind a row of the call's own; all that is older stays. -/
theorem app_on {w0 w : World} {v xv : Value} {l l' : List UInt8} {lo hi : Nat} (ho : OwnB w w0.heap.size v l) (hb : Below w0.heap.size w0 w) (hx : Sl w lo hi xv (iz l')) (hl : l.length + l'.length ≤ 1000000) :
    ∃ a' c' w', (Builtin.append_ #[28, 28] 28 #[v, xv]).run Tryz.prog w = .ok (.slice a' (l.length + l'.length) c') w' ∧ OwnB w' w0.heap.size (.slice a' (l.length + l'.length) c') (l ++ l') ∧ Below w0.heap.size w0 w' := by
  obtain ⟨a', c', w', h1, h2, ha⟩ := run_appBs w0.heap.size v xv l l' ho hx hl hb.size
  have hlt := ho.lt
  exact ⟨a', c', w', h1, h2, below_aside hb ha fun b hb2 => ⟨Nat.lt_of_lt_of_le hb2 hb.size, fun hg => by have := (hlt b hg).1; omega⟩⟩

def RAskPost (w : World) (B q : Nat) (v : Value) (R : WR) (x : Ending) (w' : World) : Prop :=
  ∃ v1 v2, x = .returned (.tuple #[v1, .int .i64 R.code]) ∧ OwnB w' w.heap.size v1 R.out ∧ Rk w' B q v2 R.K R.e ∧ Aside (fun b => b = q ∨ v.ownBlock = some b) w w' ∧ ∀ B' v' (l' : List UInt8), B ≤ B' → OwnB w B' v' l' → OwnB w' B' v' l'

set_option maxHeartbeats 8000000 in
theorem rask_any {w : World} {B q e : Nat} {v : Value} {K : KK} (h : Rk w B q v K e) (hG : GoodK K) (hK : K.length ≤ 800000) (a : Int) (n : List UInt8) (hn : n.length ≤ 1000000) (t c : Int) :
    Calls Tryz.prog 42 #[.pointer (some ⟨q, 0, none⟩), .int .i64 a, .agg #[.string (bs n), .int .i64 t, .int .i64 c]] w (RAskPost w B q v (askW a n t c K e)) := by
  obtain ⟨W0, hW0⟩ : ∃ W0, w.alloc (.cells #[.string (bs n), .int .i64 t, .int .i64 c] 56) = W0 := ⟨_, rfl⟩
  have hb0 : Below w.heap.size w W0 := by rw [← hW0]; exact (Below.refl _ _).alloc (Nat.le_refl _) _
  have hx : Cel W0 w.heap.size [.string (bs n), .int .i64 t, .int .i64 c] := by rw [← hW0]; exact cel_new3 w _ _ _ _
  obtain ⟨g, hg⟩ : ∃ g, w.heap.size = g := ⟨_, rfl⟩
  have HX := Lib.hid hx
  rw [hg] at HX
  have HB := Lib.hid hb0
  have HRk := Lib.hid h
  have hqB := h.lt
  have hBw := h.size
  have HCk := Lib.hid (fun wx => rcheck_any n hn wx)
  have HPt := Lib.hid (fun wx => rput16_any t wx)
  have HPc := Lib.hid (fun wx => rput16_any c wx)
  unfold RPost at HPt HPc
  obtain ⟨X, hX⟩ : ∃ X, askW a n t c K e = X := ⟨_, rfl⟩
  rw [hX]
  have HXv := Lib.hid hX
  clear hX hx hb0 h
  unfold askW at HXv
  obtain ⟨E, hE⟩ : ∃ E, chk n = E := ⟨_, rfl⟩
  rw [hE] at HCk
  obtain ⟨b0, b1, b2⟩ : W0.cell? ⟨g, 0, none⟩ = some (.string (bs n)) ∧ W0.cell? ⟨g, 1, none⟩ = some (.int .i64 t) ∧ W0.cell? ⟨g, 2, none⟩ = some (.int .i64 c) := ⟨HX.out.c 0 (by simp), HX.out.c 1 (by simp), HX.out.c 2 (by simp)⟩
  by_cases h0 : E = 0
  · subst h0
    have hn255 := (chk_pos hE).2
    by_cases htc : 0 ≤ t ∧ t ≤ 65535 ∧ 0 ≤ c ∧ c ≤ 65535
    · have hA : askE n t c = 0 := by unfold askE; rw [if_neg (by simpa using hE), if_neg (by omega)]
      rw [if_neg (by simpa using hA)] at HXv
      have e1 : putE 65535 t = 0 := by unfold putE; rw [if_pos ⟨htc.1, htc.2.1⟩]
      have e2 : putE 65535 c = 0 := by unfold putE; rw [if_pos htc.2.2]
      rw [e1, ← iz_two t htc.1 htc.2.1] at HPt
      rw [e2, ← iz_two c htc.2.2.1 htc.2.2.2] at HPc
      have HNm := Lib.hid (fun (wx : World) vx (hp : Rk wx B q vx K e) => rname_any hp hG (by omega) a n (by omega))
      unfold RNamePost at HNm
      have hnb := (nameB_len (e := e) (a := a) (n := n) hG).1
      obtain ⟨C, hC⟩ : ∃ C, pkE e a n = C := ⟨_, rfl⟩
      obtain ⟨T, hT⟩ : ∃ T, nameB K e a n = T := ⟨_, rfl⟩
      obtain ⟨K2, hK2⟩ : ∃ K2, nameK K e a n = K2 := ⟨_, rfl⟩
      obtain ⟨e2', he2⟩ : ∃ e2, nameE K e a n = e2 := ⟨_, rfl⟩
      have hKE : C ≠ 0 → K2 = K ∧ e2' = e := fun hne => by rw [← hK2, ← he2]; unfold nameK nameE; rw [hC, if_neg hne, if_neg hne]; exact ⟨rfl, rfl⟩
      rw [hC, hT, hK2, he2] at HNm HXv
      rw [hT] at hnb
      clear hC hT hK2 he2 hE hA e1 e2 htc hn255 hG
      go_enter Tryz.func42, Tryz.ntmps42
      go_wp2_with fail
      refine (HCk.out _).mono ?_; rintro e0 w1 ⟨rfl, hb⟩
      replace HB := Lib.hid (bel_call HB.out hb)
      have hX1 := HX.out.below (by simp) hb
      have c1 : w1.cell? ⟨g, 1, none⟩ = some (.int .i64 t) := hX1.c 1 (by simp)
      clear hb b0 b1 b2
      go_wp2_with fail
      refine (HPt.out _).mono ?_; rintro e0 w2 ⟨v9, rfl, ho9, hb⟩
      replace HB := Lib.hid (bel_call HB.out hb)
      have hX2 := hX1.below (by simp) hb
      have c2 : w2.cell? ⟨g, 2, none⟩ = some (.int .i64 c) := hX2.c 2 (by simp)
      have HS9 := Lib.hid ((ho9.sl).wide (show g ≤ w1.heap.size by have := World.block_lt_of_cell? w1 _ c1; simp only at this; omega) (Nat.le_refl _))
      clear hb c1 ho9 hX1
      go_wp2_with fail
      refine (HPc.out _).mono ?_; rintro e0 w3 ⟨v11, rfl, ho11, hb⟩
      have HB3 := Lib.hid (bel_call HB.out hb)
      have hX3 := hX2.below (by simp) hb
      have d0 : w3.cell? ⟨g, 0, none⟩ = some (.string (bs n)) := hX3.c 0 (by simp)
      have hs9 := HS9.out.below hb (Nat.le_refl _)
      have HS11 := Lib.hid ((ho11.sl).wide (show g ≤ w2.heap.size by have := World.block_lt_of_cell? w2 _ c2; simp only at this; omega) (Nat.le_refl _))
      replace HS9 := Lib.hid (hs9.wide (Nat.le_refl _) hb.size)
      have HRk3 := Lib.hid (HRk.out.later HB3.out)
      clear hb c2 ho11 hX2 hX3 HB HX hs9
      go_wp2_with fail
      refine (HNm.out _ _ HRk3.out).mono ?_; rintro e0 w4 ⟨v13, v2, rfl, hs, hrk, has⟩
      have hown := HRk.out.own.lt
      have hGf : ∀ b, g ≤ b → ¬ (b = q ∨ v.ownBlock = some b) := fun b hb hg2 => by
        rcases hg2 with rfl | hg2
        · omega
        · have := (hown b hg2).2; omega
      replace HS9 := Lib.hid ((sl_aside HS9.out has hGf (Nat.le_refl _)).wide (Nat.le_refl _) has.size)
      replace HS11 := Lib.hid ((sl_aside HS11.out has hGf (Nat.le_refl _)).wide (Nat.le_refl _) has.size)
      have HS13 := Lib.hid hs
      have HRk4 := Lib.hid hrk
      have HA4 := Lib.hid ((Aside.of_all HB3.out : Aside (fun b => b = q ∨ v.ownBlock = some b) w w3).trans has)
      have HKp := Lib.hid (fun B' v' (l' : List UInt8) (hB' : B ≤ B') (ho : OwnB w B' v' l') => (ho.below HB3.out).aside has fun b hb hg2 => by
        rcases hg2 with rfl | hg2
        · have := (ho.lt b hb).1; omega
        · exact apart_BK (ho.below HB3.out) HRk3.out.own b hb hg2)
      clear d0 hs hrk has hown hGf HRk3
      by_cases hC0 : C = 0
      · subst hC0
        rw [if_neg (by simp)] at HXv
        have hal : Below w4.heap.size w4 (w4.alloc (.cells #[] 5)) := (Below.refl _ _).alloc (Nat.le_refl _) _
        have hoE : OwnB (w4.alloc (.cells #[] 5)) w4.heap.size (.slice (some ⟨w4.heap.size, 0, none⟩) 0 0) [] := .inr ⟨w4.heap.size, 0, (0, 0), rfl, Nat.le_refl _, Nat.le_refl _, Nat.zero_le _, .inl rfl, heap_alloc_new w4 _⟩
        obtain ⟨a5, k5, w5, hr5, ho5, hb5⟩ := app_on hoE hal (HS13.out.below hal (Nat.le_refl _)) (by simp; omega)
        simp only [List.length_nil, Nat.zero_add, List.nil_append] at hr5 ho5
        obtain ⟨a6, k6, w6, hr6, ho6, hb6⟩ := app_on ho5 hb5 (HS9.out.below hb5 (Nat.le_refl _)) (by simp [two]; omega)
        simp only [two_l] at hr6 ho6
        obtain ⟨a7, k7, w7, hr7, ho7, hb7⟩ := app_on ho6 hb6 (HS11.out.below hb6 (Nat.le_refl _)) (by simp [two]; omega)
        simp only [List.length_append, two_l] at hr7 ho7
        have HR5 := Lib.hid hr5
        have HR6 := Lib.hid hr6
        have HR7 := Lib.hid hr7
        have HO7 := Lib.hid ho7
        have HB7 := Lib.hid hb7
        clear hal hoE hr5 hr6 hr7 ho5 ho6 ho7 hb5 hb6 hb7 hKE
        go_wp2_with (first | (at_builtin; refine wpList_append_run (.tmp 49) (.tmp 50) 28 28 rfl rfl rfl rfl HR5.out ?_) | (at_builtin; refine wpList_append_run (.tmp 51) (.tmp 52) 28 28 rfl rfl rfl rfl HR6.out ?_) | (at_builtin; refine wpList_append_run (.tmp 53) (.tmp 54) 28 28 rfl rfl rfl rfl HR7.out ?_))
        go_ret2
        rw [← HXv.out]
        have HO8 : OwnB w7 w4.heap.size (.slice a7 (T.length + 2 + 2) k7) (T ++ (two t ++ two c)) := by rw [← List.append_assoc]; exact HO7.out
        exact ⟨_, v2, rfl, HO8.mono HA4.out.size, HRk4.out.later HB7.out, HA4.out.trans (Aside.of_all HB7.out), fun B' v' l' hB' ho => (HKp.out B' v' l' hB' ho).below HB7.out⟩
      · have tC : (C != 0) = true := by simpa using hC0
        rw [if_pos hC0] at HXv
        obtain ⟨rfl, rfl⟩ := hKE hC0
        go_wp2_with fail
        go_ret2
        rw [← HXv.out]
        exact ⟨_, _, rfl, OwnB.nil _ _, HRk4.out, HA4.out, HKp.out⟩
    · have hA : askE n t c = 5 := by unfold askE; rw [if_neg (by simpa using hE), if_pos (by omega)]
      rw [hA, if_pos (by decide)] at HXv
      obtain ⟨E1, hE1⟩ : ∃ E1, putE 65535 t = E1 := ⟨_, rfl⟩
      obtain ⟨E2, hE2⟩ : ∃ E2, putE 65535 c = E2 := ⟨_, rfl⟩
      rw [hE1] at HPt
      rw [hE2] at HPc
      have hor : (E1 != 0) = true ∨ ((E1 != 0) = false ∧ (E2 != 0) = true) := by
        rw [← hE1, ← hE2]
        unfold putE
        by_cases h1 : 0 ≤ t ∧ t ≤ 65535
        · have h2 : ¬ (0 ≤ c ∧ c ≤ 65535) := fun h2 => htc ⟨h1.1, h1.2, h2⟩
          rw [if_pos h1, if_neg h2]
          exact .inr ⟨by decide, by decide⟩
        · rw [if_neg h1]
          exact .inl (by decide)
      clear hE1 hE2 hE hA htc hn255 hG
      rcases hor with hor | ⟨hor, hor2⟩
      all_goals
        go_enter Tryz.func42, Tryz.ntmps42
        go_wp2_with fail
        refine (HCk.out _).mono ?_; rintro e0 w1 ⟨rfl, hb⟩
        replace HB := Lib.hid (bel_call HB.out hb)
        have hX1 := HX.out.below (by simp) hb
        have c1 : w1.cell? ⟨g, 1, none⟩ = some (.int .i64 t) := hX1.c 1 (by simp)
        clear hb b0 b1 b2
        go_wp2_with fail
        refine (HPt.out _).mono ?_; rintro e0 w2 ⟨v9, rfl, ho9, hb⟩
        replace HB := Lib.hid (bel_call HB.out hb)
        have hX2 := hX1.below (by simp) hb
        have c2 : w2.cell? ⟨g, 2, none⟩ = some (.int .i64 c) := hX2.c 2 (by simp)
        clear hb c1 ho9 hX1
        go_wp2_with fail
        refine (HPc.out _).mono ?_; rintro e0 w3 ⟨v11, rfl, ho11, hb⟩
        have HB3 := Lib.hid (bel_call HB.out hb)
        clear hb c2 ho11 hX2 HB
        go_wp2_with fail
        go_ret2
        rw [← HXv.out]
        exact ⟨_, _, rfl, OwnB.nil _ _, HRk.out.later HB3.out, Aside.of_all HB3.out, fun B' v' l' _ ho => ho.below HB3.out⟩
  · have hA : askE n t c = E := by unfold askE; rw [hE, if_pos h0]
    rw [hA, if_pos h0] at HXv
    have tE : (E != 0) = true := by simpa using h0
    clear hE hA h0 hG
    go_enter Tryz.func42, Tryz.ntmps42
    go_wp2_with fail
    refine (HCk.out _).mono ?_; rintro e0 w1 ⟨rfl, hb⟩
    have HB1 := Lib.hid (bel_call HB.out hb)
    clear hb b0 b1 b2 HB
    go_wp2_with fail
    go_ret2
    rw [← HXv.out]
    exact ⟨_, _, rfl, OwnB.nil _ _, HRk.out.later HB1.out, Aside.of_all HB1.out, fun B' v' l' _ ho => ho.below HB1.out⟩
end Go.Proofs.YtdikgjbpjdnodaaGreat

/-
  The document's own: a record's bytes.
-/
namespace Go.Proofs.YtdikgjbpjdnodaaGreat
open Go.RowKit Go.Shelf
set_option linter.unusedVariables false
set_option linter.unusedSimpArgs false
set_option maxRecDepth 100000

set_option maxHeartbeats 16000000 in
theorem rwriteC_any {w : World} {B q e : Nat} {v : Value} {K : KK} (h : Rk w B q v K e) (hG : GoodK K) (hK : K.length ≤ 700000) (a : Int) (n : List UInt8) (t c l : Int) (d : List UInt8) (hn : n.length ≤ 1000000) (hd : d.length ≤ 1000000) :
    Calls Tryz.prog 43 #[.pointer (some ⟨q, 0, none⟩), .int .i64 a, .agg #[.string (bs n), .int .i64 t, .int .i64 c, .int .i64 l, .string (bs d)]] w (RWrPost w B q (wrC a ⟨n, t, c, l, d⟩ K e)) := by
  obtain ⟨W0, hW0⟩ : ∃ W0, w.alloc (.cells #[.string (bs n), .int .i64 t, .int .i64 c, .int .i64 l, .string (bs d)] 78) = W0 := ⟨_, rfl⟩
  have hb0 : Below w.heap.size w W0 := by rw [← hW0]; exact (Below.refl _ _).alloc (Nat.le_refl _) _
  have hx : Cel W0 w.heap.size [.string (bs n), .int .i64 t, .int .i64 c, .int .i64 l, .string (bs d)] := by rw [← hW0]; exact cel_new w _ _ _ _ _ _
  obtain ⟨g, hg⟩ : ∃ g, w.heap.size = g := ⟨_, rfl⟩
  have HX := Lib.hid hx
  rw [hg] at HX
  have HB := Lib.hid hb0
  have HRk := Lib.hid h
  have hqB := h.lt
  have hBw := h.size
  have hown := h.own.lt
  have hgv : ¬ (g = q ∨ v.ownBlock = some g) := fun hh => by
    rcases hh with hh | hh
    · omega
    · have := (hown g hh).2; omega
  have HCk := Lib.hid (fun wx => rcheck07_any n t c l d hn hd wx)
  obtain ⟨X, hX⟩ : ∃ X, wrC a ⟨n, t, c, l, d⟩ K e = X := ⟨_, rfl⟩
  rw [hX]
  have HXv := Lib.hid hX
  unfold wrC at HXv
  obtain ⟨b0, b1, b2, b3, b4⟩ := HX.out.five
  clear hX hx hb0 h hown
  by_cases hA : chkC ⟨n, t, c, l, d⟩ = 0
  · obtain ⟨hak, hl0, hl1, hsp⟩ := chkC_ok hA
    simp only at hak hl0 hl1 hsp
    obtain ⟨hch, ht0, ht1, hc0, hc1⟩ := askE_ok hak
    have hn255 := (chk_pos hch).2
    have HAs := Lib.hid (fun (wx : World) (hp : Rk wx B q v K e) => rask_any hp hG (by omega) a n hn t c)
    unfold RAskPost at HAs
    have hask : askW a n t c K e = if pkE e a n ≠ 0 then ⟨[], pkE e a n, K, e⟩ else ⟨nameB K e a n ++ (two t ++ two c), 0, nameK K e a n, nameE K e a n⟩ := by unfold askW; rw [if_neg (by simpa using hak)]
    rw [hask] at HAs
    rw [hA] at HCk
    rw [if_neg (by simpa using hA)] at HXv
    simp only at HXv
    have hnb := (nameB_len (e := e) (a := a) (n := n) hG).1
    have hng := nameK_good (e := e) (a := a) (n := n) hG
    have hpc := fun h => pkE_chk (e := e) (a := a) (n := n) h
    obtain ⟨E, hE⟩ : ∃ E, pkE e a n = E := ⟨_, rfl⟩
    obtain ⟨T, hT⟩ : ∃ T, nameB K e a n = T := ⟨_, rfl⟩
    obtain ⟨K2, hK2⟩ : ∃ K2, nameK K e a n = K2 := ⟨_, rfl⟩
    obtain ⟨e2, he2⟩ : ∃ e2, nameE K e a n = e2 := ⟨_, rfl⟩
    rw [hE, hT, hK2, he2] at HAs HXv
    rw [hE] at hpc
    rw [hT] at hnb
    rw [hK2, he2] at hng
    obtain ⟨hG2, hK22, he22⟩ := hng
    obtain ⟨m, hm⟩ : ∃ m, T.length = m := ⟨_, rfl⟩
    rw [hm] at HXv hnb
    obtain ⟨Y, hY⟩ : ∃ Y : Int, a + m + 10 = Y := ⟨_, rfl⟩
    rw [hY] at HXv
    have hlen := wrR_len Y t d K2 e2 hG2 hsp
    have HWt := Lib.hid (fun (wx : World) vx (hp : Rk wx B q vx K2 e2) => rwrite_any hp hG2 (by omega) Y t d hd)
    unfold RWrPost at HWt
    obtain ⟨R, hR⟩ : ∃ R, wrR Y t d K2 e2 = R := ⟨_, rfl⟩
    rw [hR] at HWt HXv hlen
    obtain ⟨O, C, K3, e3⟩ := R
    simp only at HWt hlen
    obtain ⟨k, hk⟩ : ∃ k, O.length = k := ⟨_, rfl⟩
    rw [hk] at hlen
    have HP4 := Lib.hid (fun wx => rput32_any l wx)
    have HP2 := Lib.hid (fun wx => rput16_any (k : Int) wx)
    unfold RPost at HP4 HP2
    have q1 : putE 4294967295 l = 0 := by unfold putE; rw [if_pos ⟨hl0, by omega⟩]
    have q2 : putE 65535 (k : Int) = 0 := by unfold putE; rw [if_pos ⟨by omega, by omega⟩]
    rw [q1, ← iz_four l hl0 (by omega)] at HP4
    rw [q2, ← iz_two (k : Int) (by omega) (by omega)] at HP2
    have HM1 := Lib.hid hm
    have HK1 := Lib.hid hk
    have hkl : k ≤ 65535 := by omega
    clear hE hT hK2 he2 hA hch ht0 ht1 hc0 hc1 hG hn255 hG2 hK22 he22 hR hlen hsp hak hl0 hl1 hm hk hask q1 q2
    by_cases hE0 : E = 0
    · subst hE0
      simp only [ne_eq, not_true_eq_false, if_false] at HAs HXv
      obtain ⟨_, hp0, hp1, hp2⟩ := hpc rfl
      have HPl := Lib.hid (show wrap64 (wrap64 (a + ((m : Int) + 8)) + 2) = Y by rw [IntWalk.wrap64_in (a + ((m : Int) + 8)) ⟨by omega, by omega⟩, IntWalk.wrap64_in _ ⟨by omega, by omega⟩, ← hY]; omega)
      clear hpc hp0 hp1 hp2 hY
      go_enter Tryz.func43, Tryz.ntmps43
      go_wp2_with fail
      refine (HCk.out _).mono ?_; rintro e0 w1 ⟨rfl, hb⟩
      replace HB := Lib.hid (bel_call HB.out hb)
      replace HX := Lib.hid (HX.out.below (by simp) hb)
      clear hb b0 b1 b2 b3 b4
      obtain ⟨b0, b1, b2, b3, b4⟩ := HX.out.five
      have HRk1 := Lib.hid (HRk.out.later HB.out)
      go_wp2_with fail
      refine (HAs.out _ HRk1.out).mono ?_; rintro e0 w2 ⟨v9, v2, rfl, ho, hrk, has, hkp⟩
      replace HX := Lib.hid (HX.out.aside (by simp) has hgv)
      have HRk2 := Lib.hid hrk
      have hg1 : g + 1 ≤ w1.heap.size := World.block_lt_of_cell? w1 _ b0
      have HO2 := Lib.hid (ho.mono hg1)
      have hlO : (T ++ (two t ++ two c)).length = m + 4 := by rw [List.length_append, List.length_append, two_l, two_l, HM1.out]
      have HA2 := Lib.hid ((Aside.of_all HB.out : Aside (fun b => b = q ∨ v.ownBlock = some b) w w1).trans has)
      have HKp := Lib.hid (fun B' v' (l' : List UInt8) (hB' : B ≤ B') (ho : OwnB w B' v' l') => hkp B' v' l' hB' (ho.below HB.out))
      have HHp := Lib.hid (((Hold.refl q w).below HB.out).name has HRk1.out.own)
      obtain ⟨a9, k9, rfl⟩ := ho.shape
      obtain ⟨A2, hA2⟩ : ∃ A2, T ++ (two t ++ two c) = A2 := ⟨_, rfl⟩
      rw [hA2] at HO2 hlO
      rw [hA2, hlO]
      rw [hlO] at HO2
      have HL2 := Lib.hid hlO
      have HA2e := Lib.hid hA2
      clear ho hrk has hkp b0 b1 b2 b3 b4 hlO hA2 HRk1
      have c3 : w2.cell? ⟨g, 3, none⟩ = some (.int .i64 l) := HX.out.c 3 (by simp)
      go_wp2_with fail
      refine (HP4.out _).mono ?_; rintro e0 w3 ⟨v10, rfl, ho, hb⟩
      have HS := Lib.hid ho.sl
      replace HX := Lib.hid (HX.out.below (by simp) hb)
      have HO3 := Lib.hid (HO2.out.below hb)
      have HRk3 := Lib.hid (HRk2.out.later hb)
      have HA3 := Lib.hid (HA2.out.trans (Aside.of_all hb))
      replace HKp := Lib.hid (fun B' v' (l' : List UInt8) (hB' : B ≤ B') (ho : OwnB w B' v' l') => (HKp.out B' v' l' hB' ho).below hb)
      replace HHp := Lib.hid (HHp.out.below hb)
      clear ho hb c3 HO2 HRk2 HA2
      have hol := HO3.out.lt
      obtain ⟨a4, k4, w4, hr4, ho4, ha4⟩ := run_appBs (g + 1) _ _ A2 (four l) HO3.out HS.out (by rw [HL2.out, four_l]; omega) (by have := World.block_lt_of_cell? w3 _ (HX.out.c 0 (by simp)); simp only at this; omega)
      rw [HL2.out, four_l, show m + 4 + 4 = m + 8 from rfl] at hr4 ho4
      have hX4 := HX.out.aside (by simp) ha4 (fun hh => by have := (hol g hh).1; omega)
      have HRk4 := Lib.hid (HRk3.out.aside ha4 (fun hh => by have := (hol q hh).1; omega) (fun b hb hh => apart_BK HO3.out HRk3.out.own b hh hb))
      have hov := HRk.out.own.lt
      have HA4 := Lib.hid ((HA3.out.mono (G' := fun b => b = q ∨ B ≤ b) fun b _ hh => hh.elim .inl fun hh => .inr (hov b hh).1).trans (ha4.mono fun b _ hh => .inr (by have := (hol b hh).1; omega)))
      replace HKp := Lib.hid (fun B' v' (l' : List UInt8) (hB' : B ≤ B') (ho : OwnB w B' v' l') => (HKp.out B' v' l' hB' ho).aside ha4 fun b hb hh => by
        have h1 := (ho.lt b hb).2
        have h2 := (hol b hh).1
        omega)
      replace HHp := Lib.hid (HHp.out.own ha4 HO3.out (by omega))
      have HO4 := Lib.hid ho4
      have HR4 := Lib.hid hr4
      have c1 : w4.cell? ⟨g, 1, none⟩ = some (.int .i64 t) := hX4.c 1 (by simp)
      have c4 : w4.cell? ⟨g, 4, none⟩ = some (.string (bs d)) := hX4.c 4 (by simp)
      clear hr4 ho4 ha4 hol hov HO3 HRk3 HA3 HS hX4 HX hg1
      go_wp2_with (at_builtin; refine wpList_append_run (.tmp 42) (.tmp 43) 28 28 rfl rfl rfl rfl HR4.out ?_)
      rw [HPl.out]
      refine (HWt.out _ _ HRk4.out).mono ?_; rintro e0 w5 ⟨v12, v3, rfl, hs, hrk, has, hkp, hhd⟩
      have hg5 : g + 1 ≤ w5.heap.size := Nat.le_trans (World.block_lt_of_cell? w4 _ c1) has.size
      have HO5 := Lib.hid (hkp (g + 1) _ _ (by omega) HO4.out)
      have HSd := Lib.hid hs
      have HRk5 := Lib.hid hrk
      have HA5 := Lib.hid (HA4.out.trans has)
      have HKp5 := Lib.hid (fun B' v' (l' : List UInt8) (hB' : B ≤ B') (ho : OwnB w B' v' l') => hkp B' v' l' hB' (HKp.out B' v' l' hB' ho))
      have HL4 := Lib.hid HO4.out.lt
      have HH5 := Lib.hid (HHp.out.trans hhd)
      clear hkp hrk has c1 c4 HRk4 HA4 HKp HHp hhd
      by_cases hC0 : C = 0
      · subst hC0
        have hXR : (⟨T ++ (headB t c l k ++ O), 0, K3, e3⟩ : WR) = X := by rw [← HXv.out]; unfold wrT; rw [if_neg (by simp)]; simp only [HK1.out]
        have HXR := Lib.hid hXR
        have hs2 := hs
        obtain ⟨a12, k12, rfl, _⟩ := hs
        rw [iz_len, HK1.out] at HSd ⊢
        clear HXv hXR hs2
        go_wp2_with fail
        refine (HP2.out _).mono ?_; rintro e0 w6 ⟨v13, rfl, ho, hb⟩
        have HO6 := Lib.hid (HO5.out.below hb)
        have HSd6 := Lib.hid (HSd.out.below hb (Nat.le_refl _))
        have HSz := Lib.hid ho.sl
        have hz45 : w5.heap.size ≤ w6.heap.size := hb.size
        have HRk6 := Lib.hid (HRk5.out.later hb)
        have HA6 := Lib.hid (HA5.out.trans (Aside.of_all hb))
        replace HKp5 := Lib.hid (fun B' v' (l' : List UInt8) (hB' : B ≤ B') (ho : OwnB w B' v' l') => (HKp5.out B' v' l' hB' ho).below hb)
        replace HH5 := Lib.hid (HH5.out.below hb)
        clear ho hb HO5 HSd HRk5 HA5
        have hol := HO6.out.lt
        have hol4 := HL4.out
        have hgs : g + 1 ≤ w6.heap.size := Nat.le_trans hg5 hz45
        obtain ⟨a7, k7, w7, hr7, ho7, ha7⟩ := run_appBs (g + 1) _ _ (A2 ++ four l) (two (k : Int)) HO6.out HSz.out (by rw [List.length_append, HL2.out, four_l, two_l]; omega) hgs
        rw [List.length_append, HL2.out, four_l, two_l, show m + 4 + 4 + 2 = m + 10 from rfl] at hr7 ho7
        have hSd7 := sl_aside HSd6.out ha7 (fun b hb hh => by have := (hol4 b hh).2; omega) hz45
        have hRk7 := HRk6.out.aside ha7 (fun hh => by have := (hol q hh).1; omega) (fun b hb hh => apart_BK HO6.out HRk6.out.own b hh hb)
        have hol7 := ho7.lt
        obtain ⟨a8, k8, w8, hr8, ho8, ha8⟩ := run_appBs (g + 1) _ _ (A2 ++ four l ++ two (k : Int)) O ho7 hSd7 (by rw [List.length_append, List.length_append, HL2.out, four_l, two_l, HK1.out]; omega) (Nat.le_trans hgs ha7.size)
        have hRk8 := hRk7.aside ha8 (fun hh => by have := (hol7 q hh).1; omega) (fun b hb hh => apart_BK ho7 hRk7.own b hh hb)
        rw [List.length_append, List.length_append, HL2.out, four_l, two_l, HK1.out, show m + 4 + 4 + 2 + k = m + 10 + k from rfl] at hr8 ho8
        have HA8 := Lib.hid ((HA6.out.trans (ha7.mono fun b _ hh => .inr (by have := (hol b hh).1; omega))).trans (ha8.mono fun b _ hh => .inr (by have := (hol7 b hh).1; omega)))
        have HKp8 := Lib.hid (fun B' v' (l' : List UInt8) (hB' : B ≤ B') (ho : OwnB w B' v' l') => (((HKp5.out B' v' l' hB' ho).aside ha7 fun b hb hh => by
          have h1 := (ho.lt b hb).2
          have h2 := (hol b hh).1
          omega).aside ha8 fun b hb hh => by
          have h1 := (ho.lt b hb).2
          have h2 := (hol7 b hh).1
          omega))
        have HH8 := Lib.hid ((HH5.out.own ha7 HO6.out (by omega)).own ha8 ho7 (by omega))
        have HR7 := Lib.hid hr7
        have HR8 := Lib.hid hr8
        have HO8 := Lib.hid ho8
        have HRk8 := Lib.hid hRk8
        clear hr7 hr8 ho7 ho8 ha7 ha8 hol hol4 hol7 hSd7 hRk7 hRk8 HO6 HRk6 HA6 HKp5 HSd6 HSz hgs hz45
        go_wp2_with (first | (at_builtin; refine wpList_append_run (.tmp 68) (.tmp 69) 28 28 rfl rfl rfl rfl HR7.out ?_) | (at_builtin; refine wpList_append_run (.tmp 71) (.tmp 72) 28 28 rfl rfl rfl rfl HR8.out ?_))
        go_ret2
        rw [← HXR.out]
        have eo : A2 ++ four l ++ two (k : Int) ++ O = T ++ (headB t c l k ++ O) := by rw [← HA2e.out]; unfold headB; simp
        have ho9 := HO8.out.sl
        rw [eo] at ho9
        exact ⟨_, v3, rfl, ho9.wide (by omega) (Nat.le_refl _), HRk8.out, HA8.out, HKp8.out, HH8.out⟩
      · have tC : (C != 0) = true := by simpa using hC0
        have hXR : (⟨[], C, K3, e3⟩ : WR) = X := by rw [← HXv.out]; unfold wrT; rw [if_pos hC0]
        have HXR := Lib.hid hXR
        clear HXv hXR
        go_wp2_with fail
        go_ret2
        rw [← HXR.out]
        exact ⟨_, v3, rfl, ⟨none, 0, rfl, by simp, fun _ => rfl, fun h => by simp at h⟩, HRk5.out, HA5.out, HKp5.out, HH5.out⟩
    · have tE : (E != 0) = true := by simpa using hE0
      rw [if_pos hE0] at HXv
      rw [if_pos hE0] at HAs
      simp only at HAs
      clear hpc HWt HP4 HP2 hY
      go_enter Tryz.func43, Tryz.ntmps43
      go_wp2_with fail
      refine (HCk.out _).mono ?_; rintro e0 w1 ⟨rfl, hb⟩
      replace HB := Lib.hid (bel_call HB.out hb)
      replace HX := Lib.hid (HX.out.below (by simp) hb)
      clear hb b0 b1 b2 b3 b4
      obtain ⟨b0, b1, b2, b3, b4⟩ := HX.out.five
      have HRk1 := Lib.hid (HRk.out.later HB.out)
      go_wp2_with fail
      refine (HAs.out _ HRk1.out).mono ?_; rintro e0 w2 ⟨v9, v2, rfl, ho, hrk, has, hkp⟩
      have HRk2 := Lib.hid hrk
      have hov := HRk.out.own.lt
      have HA2 := Lib.hid ((Aside.of_all HB.out : Aside (fun b => b = q ∨ B ≤ b) w w1).trans (has.mono fun b _ hh => hh.elim .inl fun hh => .inr (hov b hh).1))
      have HKp := Lib.hid (fun B' v' (l' : List UInt8) (hB' : B ≤ B') (ho : OwnB w B' v' l') => hkp B' v' l' hB' (ho.below HB.out))
      have HHp := Lib.hid (((Hold.refl q w).below HB.out).name has HRk1.out.own)
      clear ho hrk has hkp b0 b1 b2 b3 b4 HRk1 hov
      go_wp2_with fail
      go_ret2
      rw [← HXv.out]
      exact ⟨_, v2, rfl, ⟨none, 0, rfl, by simp, fun _ => rfl, fun h => by simp at h⟩, HRk2.out, HA2.out, HKp.out, HHp.out⟩
  · obtain ⟨E, hE⟩ : ∃ E, chkC ⟨n, t, c, l, d⟩ = E := ⟨_, rfl⟩
    rw [hE] at HCk HXv hA
    rw [if_pos hA] at HXv
    have tE : (E != 0) = true := by simpa using hA
    clear hE hA hG
    go_enter Tryz.func43, Tryz.ntmps43
    go_wp2_with fail
    refine (HCk.out _).mono ?_; rintro e0 w1 ⟨rfl, hb⟩
    have HB1 := Lib.hid (bel_call HB.out hb)
    clear hb b0 b1 b2 b3 b4 HB
    go_wp2_with fail
    go_ret2
    rw [← HXv.out]
    exact ⟨_, _, rfl, ⟨none, 0, rfl, by simp, fun _ => rfl, fun h => by simp at h⟩, HRk.out.later HB1.out, Aside.of_all HB1.out, fun B' v' l' _ ho => ho.below HB1.out, (Hold.refl q w).below HB1.out⟩
end Go.Proofs.YtdikgjbpjdnodaaGreat

/-
  What the program writes of records and questions and what the document's own text writes: the walk.
-/
namespace Go.Proofs.YtdikgjbpjdnodaaGreat
open Go.RowKit Go.Shelf
set_option linter.unusedVariables false
set_option linter.unusedSimpArgs false
set_option maxRecDepth 100000

theorem wrT_K (T : List UInt8) (t c l : Int) (R : WR) : (wrT T t c l R).K = R.K ∧ (wrT T t c l R).e = R.e := by
  unfold wrT; split <;> exact ⟨rfl, rfl⟩

theorem wrC_next {K : KK} {e : Nat} (a : Int) (x : Rc) (hG : GoodK K) (he : e ≤ 66000) : GoodK (wrC a x K e).K ∧ (wrC a x K e).K.length ≤ K.length + 600 ∧ (wrC a x K e).e ≤ 66000 := by
  unfold wrC
  split
  · exact ⟨hG, by simp, he⟩
  · split
    · exact ⟨hG, by simp, he⟩
    · obtain ⟨h1, h2, h3⟩ := nameK_good (e := e) (a := a) (n := x.n) hG
      obtain ⟨g1, g2, g3⟩ := wrR_next (e := nameE K e a x.n) (a + (nameB K e a x.n).length + 10) x.t x.d h1 (by omega)
      rw [(wrT_K _ _ _ _ _).1, (wrT_K _ _ _ _ _).2]
      exact ⟨g1, by omega, g3⟩

end Go.Proofs.YtdikgjbpjdnodaaGreat

/-
  A pointer to a list of a message: how many entries there are, why one may not be, its bytes.
-/
namespace Go.Proofs.YtdikgjbpjdnodaaGreat
open Go.RowKit Go.Shelf
set_option linter.unusedVariables false
set_option linter.unusedSimpArgs false
set_option maxRecDepth 100000

theorem mbound_yes (n : Int) (h : 0 ≤ n ∧ n ≤ 65535) (w : World) : Calls Tryz.prog 44 #[.int .i64 n] w fun e w' => e = .returned (.bool true) ∧ w = w' := by
  obtain ⟨h0, h1⟩ := h
  go_enter Tryz.func44, Tryz.ntmps44
  go_wp2
  go_ret
  exact ⟨rfl, rfl⟩

theorem mbound_no (n : Int) (h : n < 0 ∨ 65535 < n) (w : World) : Calls Tryz.prog 44 #[.int .i64 n] w fun e w' => e = .returned (.bool false) ∧ w = w' := by
  by_cases h0 : 0 ≤ n
  · have h1 : ¬ n ≤ 65535 := by omega
    go_enter Tryz.func44, Tryz.ntmps44
    go_wp2
    go_ret
    exact ⟨rfl, rfl⟩
  · go_enter Tryz.func44, Tryz.ntmps44
    go_wp2
    go_ret
    exact ⟨rfl, rfl⟩

/-- bounded, whatever the number. -/
theorem mbound_any (n : Int) (w : World) : Calls Tryz.prog 44 #[.int .i64 n] w fun e w' => e = .returned (.bool (decide (0 ≤ n ∧ n ≤ 65535))) ∧ w = w' := by
  by_cases h : 0 ≤ n ∧ n ≤ 65535
  · rw [decide_eq_true h]; exact mbound_yes n h w
  · rw [decide_eq_false h]; exact mbound_no n (by omega) w

theorem countQ_any {w : World} {M o hi : Nat} {v : Value} {l : List Qn} (hc : w.cell? ⟨M, o, none⟩ = some v) (hv : SQ w hi v l) :
    Calls Tryz.prog 92 #[.agg #[.pointer (some ⟨M, o, none⟩)]] w (Tells w (.int .i64 l.length)) := by
  obtain ⟨a, c, rfl⟩ := Lst.shape hv
  have hb := (Below.refl w.heap.size w).alloc (Nat.le_refl _) (.cells #[.pointer (some ⟨M, o, none⟩)] 94)
  have c0 := (hb.cell (p := ⟨M, o, none⟩) (World.block_lt_of_cell? w _ hc)).trans hc
  have HB := Lib.hid hb
  clear hb hc hv
  go_enter Tryz.func92, Tryz.ntmps92
  go_wp2_with fail
  go_ret
  exact ⟨rfl, HB.out⟩

theorem countR_any {w : World} {M o hi : Nat} {v : Value} {l : List Rc} (hc : w.cell? ⟨M, o, none⟩ = some v) (hv : SR w hi v l) :
    Calls Tryz.prog 125 #[.agg #[.pointer (some ⟨M, o, none⟩)]] w (Tells w (.int .i64 l.length)) := by
  obtain ⟨a, c, rfl⟩ := Lst.shape hv
  have hb := (Below.refl w.heap.size w).alloc (Nat.le_refl _) (.cells #[.pointer (some ⟨M, o, none⟩)] 97)
  have c0 := (hb.cell (p := ⟨M, o, none⟩) (World.block_lt_of_cell? w _ hc)).trans hc
  have HB := Lib.hid hb
  clear hb hc hv
  go_enter Tryz.func125, Tryz.ntmps125
  go_wp2_with fail
  go_ret
  exact ⟨rfl, HB.out⟩

set_option maxHeartbeats 2000000 in
theorem checkR_any {w : World} {M o hi : Nat} {v : Value} {l : List Rc} (hc : w.cell? ⟨M, o, none⟩ = some v) (hv : SR w hi v l) (hhi : hi ≤ w.heap.size) (j : Nat) (hj : j < l.length) (hn : l[j].n.length ≤ 1000000) (hd : l[j].d.length ≤ 1000000) :
    Calls Tryz.prog 124 #[.agg #[.pointer (some ⟨M, o, none⟩)], .int .i64 j] w (Tells w (.int .i64 (It.r l[j]).err)) := by
  obtain ⟨b, off, c, rfl, hb, hat⟩ := hv.at_ j hj
  have hlen := Lst.len hv
  have hbl := (Below.refl w.heap.size w).alloc (Nat.le_refl _) (.cells #[.pointer (some ⟨M, o, none⟩)] 97)
  have c0 := (hbl.cell (p := ⟨M, o, none⟩) (World.block_lt_of_cell? w _ hc)).trans hc
  have hat2 := hat.keep fun o => hbl.cell (p := ⟨b, o, none⟩) (Nat.lt_of_lt_of_le hb hhi)
  obtain ⟨d0, d1, d2, d3, d4⟩ := hat2
  have HB := Lib.hid hbl
  have HC := Lib.hid (fun wx => checkC_any l[j].n l[j].t l[j].c l[j].l l[j].d hn hd wx)
  have e : (It.r l[j]).err = chkC ⟨l[j].n, l[j].t, l[j].c, l[j].l, l[j].d⟩ := rfl
  rw [e]
  obtain ⟨E, hE⟩ : ∃ E, chkC ⟨l[j].n, l[j].t, l[j].c, l[j].l, l[j].d⟩ = E := ⟨_, rfl⟩
  rw [hE] at HC ⊢
  obtain ⟨x, hx⟩ : ∃ x, l[j] = x := ⟨_, rfl⟩
  rw [hx] at d0 d1 d2 d3 d4 HC
  clear hbl hc hv hat hE hx e hn hd
  go_enter Tryz.func124, Tryz.ntmps124
  go_wp2_with fail
  refine (tell_on HB (HC.out _)).mono ?_; rintro e w1 ⟨rfl, HB2⟩
  go_wp2_with fail
  go_ret
  exact ⟨rfl, HB2.out⟩

theorem mask_eq {n : List UInt8} {t c : Int} : askE n t c = if chk n ≠ 0 then chk n else if decide (0 ≤ t ∧ t ≤ 65535) = true ∧ decide (0 ≤ c ∧ c ≤ 65535) = true then 0 else 5 := by
  unfold askE
  split
  · rfl
  · simp only [decide_eq_true_eq]
    split <;> split <;> first | rfl | omega

set_option maxHeartbeats 4000000 in
theorem checkQ_any {w : World} {M o hi : Nat} {v : Value} {l : List Qn} (hc : w.cell? ⟨M, o, none⟩ = some v) (hv : SQ w hi v l) (hhi : hi ≤ w.heap.size) (j : Nat) (hj : j < l.length) (hn : l[j].n.length ≤ 1000000) :
    Calls Tryz.prog 91 #[.agg #[.pointer (some ⟨M, o, none⟩)], .int .i64 j] w (Tells w (.int .i64 (It.q l[j]).err)) := by
  obtain ⟨b, off, c, rfl, hb, hat⟩ := hv.at_ j hj
  have hlen := Lst.len hv
  have hbl := (Below.refl w.heap.size w).alloc (Nat.le_refl _) (.cells #[.pointer (some ⟨M, o, none⟩)] 94)
  have c0 := (hbl.cell (p := ⟨M, o, none⟩) (World.block_lt_of_cell? w _ hc)).trans hc
  have hat2 := hat.keep fun o => hbl.cell (p := ⟨b, o, none⟩) (Nat.lt_of_lt_of_le hb hhi)
  obtain ⟨d0, d1, d2⟩ := hat2
  obtain ⟨g, hg⟩ : ∃ g, w.heap.size = g := ⟨_, rfl⟩
  obtain ⟨W, hW⟩ : ∃ W, w.alloc (.cells #[.pointer (some ⟨M, o, none⟩)] 94) = W := ⟨_, rfl⟩
  have hWs : W.heap.size = g + 1 := by rw [← hW, World.size_alloc, hg]
  have k0 : W.cell? ⟨g, 0, none⟩ = some (.pointer (some ⟨M, o, none⟩)) := by rw [← hW, ← hg]; simp [go_sem]
  have HB := Lib.hid (bel_alloc hbl (.cells #[.string (bs l[j].n), .int .i64 l[j].t, .int .i64 l[j].c] 56))
  have HX := Lib.hid (cel_new3 W (.string (bs l[j].n)) (.int .i64 l[j].t) (.int .i64 l[j].c) 56)
  rw [hWs] at HX
  rw [hW] at HB c0 d0 d1 d2
  have HC := Lib.hid (fun wx => check_any l[j].n (by omega) wx)
  have HBT := Lib.hid (fun wx => mbound_any l[j].t wx)
  have HBC := Lib.hid (fun wx => mbound_any l[j].c wx)
  have e : (It.q l[j]).err = askE l[j].n l[j].t l[j].c := rfl
  rw [e, mask_eq]
  obtain ⟨E, hE⟩ : ∃ E, chk l[j].n = E := ⟨_, rfl⟩
  obtain ⟨B1, hB1⟩ : ∃ x, decide (0 ≤ l[j].t ∧ l[j].t ≤ 65535) = x := ⟨_, rfl⟩
  obtain ⟨B2, hB2⟩ : ∃ x, decide (0 ≤ l[j].c ∧ l[j].c ≤ 65535) = x := ⟨_, rfl⟩
  rw [hE] at HC ⊢
  rw [hB1] at HBT ⊢
  rw [hB2] at HBC ⊢
  obtain ⟨x, hx⟩ : ∃ x, l[j] = x := ⟨_, rfl⟩
  rw [hx] at d0 d1 d2 HX HC HBT HBC HB
  obtain ⟨x0, x1, x2⟩ := x
  simp only at d0 d1 d2 HX HC HBT HBC HB
  have HX0 := HX
  clear hbl hc hv hat hE hx e hn hB1 hB2 HX0
  have fin : ∀ R : Int, (if E ≠ 0 then E else if B1 = true ∧ B2 = true then 0 else 5) = R → Calls Tryz.prog 91 #[.agg #[.pointer (some ⟨M, o, none⟩)], .int .i64 j] w (Tells w (.int .i64 R)) := by
    intro R hR
    have HR := Lib.hid hR
    clear hR
    by_cases hE0 : E = 0
    · subst hE0
      cases B1 with
      | false =>
        have HR2 := Lib.hid (show (5 : Int) = R by rw [← HR.out]; simp)
        clear HR
        go_enter Tryz.func91, Tryz.ntmps91
        go_wp2_with fail
        refine (HC.out _).mono ?_; rintro e w1 ⟨rfl, hh⟩
        have HH := Lib.hid hh
        have HB2 := Lib.hid (bel_call HB.out hh)
        clear hh
        replace HX := Lib.hid (HX.out.below (by simp) HH.out)
        have e1 : w1.cell? ⟨g + 1, 1, none⟩ = some (.int .i64 x1) := HX.out.c 1 (by simp)
        have e2 : w1.cell? ⟨g + 1, 2, none⟩ = some (.int .i64 x2) := HX.out.c 2 (by simp)
        go_wp2_with fail
        refine (HBT.out _).mono ?_; rintro e w2 ⟨rfl, rfl⟩
        go_wp2_with fail
        go_ret
        exact ⟨by rw [← HR2.out]; rfl, HB2.out⟩
      | true =>
        cases B2 with
        | false =>
          have HR2 := Lib.hid (show (5 : Int) = R by rw [← HR.out]; simp)
          clear HR
          go_enter Tryz.func91, Tryz.ntmps91
          go_wp2_with fail
          refine (HC.out _).mono ?_; rintro e w1 ⟨rfl, hh⟩
          have HH := Lib.hid hh
          have HB2 := Lib.hid (bel_call HB.out hh)
          clear hh
          replace HX := Lib.hid (HX.out.below (by simp) HH.out)
          have e1 : w1.cell? ⟨g + 1, 1, none⟩ = some (.int .i64 x1) := HX.out.c 1 (by simp)
          have e2 : w1.cell? ⟨g + 1, 2, none⟩ = some (.int .i64 x2) := HX.out.c 2 (by simp)
          go_wp2_with fail
          refine (HBT.out _).mono ?_; rintro e w2 ⟨rfl, rfl⟩
          go_wp2_with fail
          refine (HBC.out _).mono ?_; rintro e w2 ⟨rfl, rfl⟩
          go_wp2_with fail
          go_ret
          exact ⟨by rw [← HR2.out]; rfl, HB2.out⟩
        | true =>
          have HR2 := Lib.hid (show (0 : Int) = R by rw [← HR.out]; simp)
          clear HR
          go_enter Tryz.func91, Tryz.ntmps91
          go_wp2_with fail
          refine (HC.out _).mono ?_; rintro e w1 ⟨rfl, hh⟩
          have HH := Lib.hid hh
          have HB2 := Lib.hid (bel_call HB.out hh)
          clear hh
          replace HX := Lib.hid (HX.out.below (by simp) HH.out)
          have e1 : w1.cell? ⟨g + 1, 1, none⟩ = some (.int .i64 x1) := HX.out.c 1 (by simp)
          have e2 : w1.cell? ⟨g + 1, 2, none⟩ = some (.int .i64 x2) := HX.out.c 2 (by simp)
          go_wp2_with fail
          refine (HBT.out _).mono ?_; rintro e w2 ⟨rfl, rfl⟩
          go_wp2_with fail
          refine (HBC.out _).mono ?_; rintro e w2 ⟨rfl, rfl⟩
          go_wp2_with fail
          go_ret
          exact ⟨by rw [← HR2.out]; rfl, HB2.out⟩
    · have tE : (E != 0) = true := by simpa using hE0
      have HR2 := Lib.hid (show E = R by rw [← HR.out, if_pos hE0])
      clear HR
      go_enter Tryz.func91, Tryz.ntmps91
      go_wp2_with fail
      refine (HC.out _).mono ?_; rintro e w1 ⟨rfl, hh⟩
      have HH := Lib.hid hh
      have HB2 := Lib.hid (bel_call HB.out hh)
      clear hh
      replace HX := Lib.hid (HX.out.below (by simp) HH.out)
      have e1 : w1.cell? ⟨g + 1, 1, none⟩ = some (.int .i64 x1) := HX.out.c 1 (by simp)
      have e2 : w1.cell? ⟨g + 1, 2, none⟩ = some (.int .i64 x2) := HX.out.c 2 (by simp)
      go_wp2_with fail
      go_ret
      exact ⟨by rw [← HR2.out]; rfl, HB2.out⟩
  exact fin _ rfl
end Go.Proofs.YtdikgjbpjdnodaaGreat

/-
  The bytes of an entry of a list.
-/
namespace Go.Proofs.YtdikgjbpjdnodaaGreat
open Go.RowKit Go.Shelf
set_option linter.unusedVariables false
set_option linter.unusedSimpArgs false
set_option maxRecDepth 100000

set_option maxHeartbeats 4000000 in
theorem writeQ_any {w : World} {M o hi p bm e : Nat} {v : Value} {l : List Qn} {K : KK} (hc : w.cell? ⟨M, o, none⟩ = some v) (hv : SQ w hi v l) (hhi : hi ≤ w.heap.size) (h : Pk w p bm K e) (hG : GoodK K) (hK : K.length ≤ 700000) (he : e ≤ 900000) (a : Int) (j : Nat) (hj : j < l.length) (hn : l[j].n.length ≤ 1000000) :
    Calls Tryz.prog 94 #[.agg #[.pointer (some ⟨M, o, none⟩)], .pointer (some ⟨p, 0, none⟩), .int .i64 a, .int .i64 j] w (WrPost w p bm (askW a l[j].n l[j].t l[j].c K e)) := by
  obtain ⟨b, off, c, rfl, hb, hat⟩ := hv.at_ j hj
  have hlen := Lst.len hv
  obtain ⟨W, hW⟩ : ∃ W, w.alloc (.cells #[.pointer (some ⟨M, o, none⟩)] 94) = W := ⟨_, rfl⟩
  have hbl : Below w.heap.size w W := by rw [← hW]; exact (Below.refl w.heap.size w).alloc (Nat.le_refl _) _
  have c0 := (hbl.cell (p := ⟨M, o, none⟩) (World.block_lt_of_cell? w _ hc)).trans hc
  have k0 : W.cell? ⟨w.heap.size, 0, none⟩ = some (.pointer (some ⟨M, o, none⟩)) := by rw [← hW]; simp [go_sem]
  obtain ⟨d0, d1, d2⟩ := hat.keep fun o => hbl.cell (p := ⟨b, o, none⟩) (Nat.lt_of_lt_of_le hb hhi)
  have HB := Lib.hid hbl
  have HP := h.later hbl
  have HC := Lib.hid (askC_any HP hG (by omega) he a l[j].n hn l[j].t l[j].c)
  have eR : askW a l[j].n l[j].t l[j].c K e = askW a l[j].n l[j].t l[j].c K e := rfl
  rw [eR]
  obtain ⟨R, hR⟩ : ∃ R, askW a l[j].n l[j].t l[j].c K e = R := ⟨_, rfl⟩
  rw [hR] at HC ⊢
  obtain ⟨x, hx⟩ : ∃ x, l[j] = x := ⟨_, rfl⟩
  rw [hx] at d0 d1 d2 HC
  clear hbl hc hv hat hR hx eR hn HP h 
  go_enter Tryz.func94, Tryz.ntmps94
  go_wp2_with fail
  refine HC.out.mono ?_; rintro e0 w1 ⟨v1, rfl, h1, h2, h3⟩
  have HQ := Lib.hid (show WrPost w p bm R (.returned (.tuple #[v1, .int .i64 R.code])) w1 from ⟨v1, rfl, h1.mono HB.out.size, h2, (Aside.of_all HB.out).trans h3⟩)
  clear h1 h2 h3
  go_wp2_with fail
  go_ret2
  exact HQ.out

set_option maxHeartbeats 4000000 in
theorem writeR_any {w : World} {M o hi p bm e : Nat} {v : Value} {l : List Rc} {K : KK} (hc : w.cell? ⟨M, o, none⟩ = some v) (hv : SR w hi v l) (hhi : hi ≤ w.heap.size) (h : Pk w p bm K e) (hG : GoodK K) (hK : K.length ≤ 700000) (he : e ≤ 900000) (a : Int) (j : Nat) (hj : j < l.length) (hn : l[j].n.length ≤ 1000000) (hd : l[j].d.length ≤ 1000000) :
    Calls Tryz.prog 127 #[.agg #[.pointer (some ⟨M, o, none⟩)], .pointer (some ⟨p, 0, none⟩), .int .i64 a, .int .i64 j] w (WrPost w p bm (wrC a l[j] K e)) := by
  obtain ⟨b, off, c, rfl, hb, hat⟩ := hv.at_ j hj
  have hlen := Lst.len hv
  obtain ⟨W, hW⟩ : ∃ W, w.alloc (.cells #[.pointer (some ⟨M, o, none⟩)] 97) = W := ⟨_, rfl⟩
  have hbl : Below w.heap.size w W := by rw [← hW]; exact (Below.refl w.heap.size w).alloc (Nat.le_refl _) _
  have c0 := (hbl.cell (p := ⟨M, o, none⟩) (World.block_lt_of_cell? w _ hc)).trans hc
  have k0 : W.cell? ⟨w.heap.size, 0, none⟩ = some (.pointer (some ⟨M, o, none⟩)) := by rw [← hW]; simp [go_sem]
  obtain ⟨d0, d1, d2, d3, d4⟩ := hat.keep fun o => hbl.cell (p := ⟨b, o, none⟩) (Nat.lt_of_lt_of_le hb hhi)
  have HB := Lib.hid hbl
  have HP := h.later hbl
  have HC := Lib.hid (writeC_any HP hG (by omega) he a l[j].n l[j].t l[j].c l[j].l l[j].d hn hd)
  have eR : wrC a l[j] K e = wrC a ⟨l[j].n, l[j].t, l[j].c, l[j].l, l[j].d⟩ K e := rfl
  rw [eR]
  obtain ⟨R, hR⟩ : ∃ R, wrC a ⟨l[j].n, l[j].t, l[j].c, l[j].l, l[j].d⟩ K e = R := ⟨_, rfl⟩
  rw [hR] at HC ⊢
  obtain ⟨x, hx⟩ : ∃ x, l[j] = x := ⟨_, rfl⟩
  rw [hx] at d0 d1 d2 d3 d4 HC
  clear hbl hc hv hat hR hx eR hn HP h hd
  go_enter Tryz.func127, Tryz.ntmps127
  go_wp2_with fail
  refine HC.out.mono ?_; rintro e0 w1 ⟨v1, rfl, h1, h2, h3⟩
  have HQ := Lib.hid (show WrPost w p bm R (.returned (.tuple #[v1, .int .i64 R.code])) w1 from ⟨v1, rfl, h1.mono HB.out.size, h2, (Aside.of_all HB.out).trans h3⟩)
  clear h1 h2 h3
  go_wp2_with fail
  go_ret2
  exact HQ.out

end Go.Proofs.YtdikgjbpjdnodaaGreat

/-
  The pointers to the lists of a message.
-/
namespace Go.Proofs.YtdikgjbpjdnodaaGreat
open Go.RowKit Go.Shelf
set_option linter.unusedVariables false
set_option linter.unusedSimpArgs false
set_option maxRecDepth 100000

/-- A pointer to the questions of the message in block M. -/
def lq (M : Nat) : Value := .iface 94 (.agg #[.pointer (some ⟨M, 2, none⟩)])
/-- A pointer to one of its lists of records. -/
def lr (M o : Nat) : Value := .iface 97 (.agg #[.pointer (some ⟨M, o, none⟩)])
/-- All of them. -/
def lall (M : Nat) : Array Value := #[lq M, lr M 3, lr M 4, lr M 5]

theorem cel_new4 (w : World) (a b c d : Value) (T : TypeId) : Cel (w.alloc (.cells #[a, b, c, d] T)) w.heap.size [a, b, c, d] := ⟨fun j hj => by
    match j, hj with
    | 0, _ => simp [go_sem]
    | 1, _ => simp [go_sem]
    | 2, _ => simp [go_sem]
    | 3, _ => simp [go_sem], fun j => by simp [go_sem]⟩

set_option maxHeartbeats 4000000 in
theorem lists_any (M : Nat) (w : World) (hM : M < w.heap.size) : Calls Tryz.prog 38 #[.pointer (some ⟨M, 0, none⟩)] w (Tells w (.agg (lall M))) := by
  obtain ⟨W, hW⟩ : ∃ W, w.alloc (.cells #[.nilIface, .nilIface, .nilIface, .nilIface] 60) = W := ⟨_, rfl⟩
  have hbl : Below w.heap.size w W := by rw [← hW]; exact (Below.refl w.heap.size w).alloc (Nat.le_refl _) _
  have HB := Lib.hid hbl
  obtain ⟨g, hg⟩ : ∃ g, w.heap.size = g := ⟨_, rfl⟩
  have hx : Cel W g [.nilIface, .nilIface, .nilIface, .nilIface] := by rw [← hW, ← hg]; exact cel_new4 w _ _ _ _ _
  have HX := Lib.hid hx
  have c0 : W.cell? ⟨g, 0, none⟩ = some .nilIface := hx.c 0 (by simp)
  have c1 : W.cell? ⟨g, 1, none⟩ = some .nilIface := hx.c 1 (by simp)
  have c2 : W.cell? ⟨g, 2, none⟩ = some .nilIface := hx.c 2 (by simp)
  have c3 : W.cell? ⟨g, 3, none⟩ = some .nilIface := hx.c 3 (by simp)
  have fz : ∀ j, W.frozen? ⟨g, j, none⟩ = false := hx.fz
  clear hx
  clear hbl
  go_enter Tryz.func38, Tryz.ntmps38
  go_wp2_with fail
  refine wp_region_held_drew (S := (fun wx => True)) (by kernel_rfl) trivial (fun hHeld => ?_)
  refine wpAnyH_take (i := 0) (oi := { dst := some 3, op := Op.move (Operand.tmp 0), type := 62, pos := "list.go:32", after := #[], guard := none }) (v := ?_) rfl (by kernel_rfl) (by kernel_rfl) (by kernel_rfl) (fun _ _ _ h => h) (Or.inl ⟨by rfl, ?_⟩) (by assumption) ?_
  rotate_left 1
  · intro w hSw; (try dsimp only at hSw); go_simp; try (with_reducible rfl)
  try simp only [Act.put, List.setIfInBounds_toArray, List.set_cons_zero, List.set_cons_succ]
  refine wpAnyH_take (i := 1) (oi := { dst := some 4, op := Op.nilCheck (Operand.tmp 3), type := 0, pos := "list.go:32", after := #[{ on := 0, ground := Ground.data }], guard := none }) (v := ?_) rfl (by kernel_rfl) (by kernel_rfl) (by kernel_rfl) (fun _ _ _ h => h) (Or.inl ⟨by rfl, ?_⟩) (by assumption) ?_
  rotate_left 1
  · intro w hSw; (try dsimp only at hSw); go_simp; try (with_reducible rfl)
  try simp only [Act.put, List.setIfInBounds_toArray, List.set_cons_zero, List.set_cons_succ]
  refine wpAnyH_take (i := 2) (oi := { dst := some 5, op := Op.fieldAddr 25 (Operand.tmp 4) 2, type := 0, pos := "list.go:32", after := #[{ on := 1, ground := Ground.data }], guard := none }) (v := ?_) rfl (by kernel_rfl) (by kernel_rfl) (by kernel_rfl) (fun _ _ _ h => h) (Or.inl ⟨by rfl, ?_⟩) (by assumption) ?_
  rotate_left 1
  · intro w hSw; (try dsimp only at hSw); go_simp; try (with_reducible rfl)
  try simp only [Act.put, List.setIfInBounds_toArray, List.set_cons_zero, List.set_cons_succ]
  refine wpAnyH_take (i := 3) (oi := { dst := some 6, op := Op.build 94 #[(0, Operand.tmp 5)], type := 94, pos := "list.go:32", after := #[{ on := 2, ground := Ground.data }], guard := none }) (v := ?_) rfl (by kernel_rfl) (by kernel_rfl) (by kernel_rfl) (fun _ _ _ h => h) (Or.inl ⟨by rfl, ?_⟩) (by assumption) ?_
  rotate_left 1
  · intro w hSw; (try dsimp only at hSw); go_simp; try (with_reducible rfl)
  try simp only [Act.put, List.setIfInBounds_toArray, List.set_cons_zero, List.set_cons_succ]
  refine wpAnyH_take (i := 4) (oi := { dst := some 7, op := Op.makeInterface 94 (Operand.tmp 6), type := 59, pos := "list.go:32", after := #[{ on := 3, ground := Ground.data }], guard := none }) (v := ?_) rfl (by kernel_rfl) (by kernel_rfl) (by kernel_rfl) (fun _ _ _ h => h) (Or.inl ⟨by rfl, ?_⟩) (by assumption) ?_
  rotate_left 1
  · intro w hSw; (try dsimp only at hSw); go_simp; try (with_reducible rfl)
  try simp only [Act.put, List.setIfInBounds_toArray, List.set_cons_zero, List.set_cons_succ]
  refine wpAnyH_take (i := 5) (oi := { dst := some 8, op := Op.move (Operand.tmp 0), type := 62, pos := "list.go:32", after := #[], guard := none }) (v := ?_) rfl (by kernel_rfl) (by kernel_rfl) (by kernel_rfl) (fun _ _ _ h => h) (Or.inl ⟨by rfl, ?_⟩) (by assumption) ?_
  rotate_left 1
  · intro w hSw; (try dsimp only at hSw); go_simp; try (with_reducible rfl)
  try simp only [Act.put, List.setIfInBounds_toArray, List.set_cons_zero, List.set_cons_succ]
  refine wpAnyH_take (i := 6) (oi := { dst := some 9, op := Op.nilCheck (Operand.tmp 8), type := 0, pos := "list.go:32", after := #[{ on := 5, ground := Ground.data }], guard := none }) (v := ?_) rfl (by kernel_rfl) (by kernel_rfl) (by kernel_rfl) (fun _ _ _ h => h) (Or.inl ⟨by rfl, ?_⟩) (by assumption) ?_
  rotate_left 1
  · intro w hSw; (try dsimp only at hSw); go_simp; try (with_reducible rfl)
  try simp only [Act.put, List.setIfInBounds_toArray, List.set_cons_zero, List.set_cons_succ]
  refine wpAnyH_take (i := 7) (oi := { dst := some 10, op := Op.fieldAddr 25 (Operand.tmp 9) 3, type := 0, pos := "list.go:32", after := #[{ on := 6, ground := Ground.data }], guard := none }) (v := ?_) rfl (by kernel_rfl) (by kernel_rfl) (by kernel_rfl) (fun _ _ _ h => h) (Or.inl ⟨by rfl, ?_⟩) (by assumption) ?_
  rotate_left 1
  · intro w hSw; (try dsimp only at hSw); go_simp; try (with_reducible rfl)
  try simp only [Act.put, List.setIfInBounds_toArray, List.set_cons_zero, List.set_cons_succ]
  refine wpAnyH_take (i := 8) (oi := { dst := some 11, op := Op.build 97 #[(0, Operand.tmp 10)], type := 97, pos := "list.go:32", after := #[{ on := 7, ground := Ground.data }], guard := none }) (v := ?_) rfl (by kernel_rfl) (by kernel_rfl) (by kernel_rfl) (fun _ _ _ h => h) (Or.inl ⟨by rfl, ?_⟩) (by assumption) ?_
  rotate_left 1
  · intro w hSw; (try dsimp only at hSw); go_simp; try (with_reducible rfl)
  try simp only [Act.put, List.setIfInBounds_toArray, List.set_cons_zero, List.set_cons_succ]
  refine wpAnyH_take (i := 9) (oi := { dst := some 12, op := Op.makeInterface 97 (Operand.tmp 11), type := 59, pos := "list.go:32", after := #[{ on := 8, ground := Ground.data }], guard := none }) (v := ?_) rfl (by kernel_rfl) (by kernel_rfl) (by kernel_rfl) (fun _ _ _ h => h) (Or.inl ⟨by rfl, ?_⟩) (by assumption) ?_
  rotate_left 1
  · intro w hSw; (try dsimp only at hSw); go_simp; try (with_reducible rfl)
  try simp only [Act.put, List.setIfInBounds_toArray, List.set_cons_zero, List.set_cons_succ]
  refine wpAnyH_take (i := 10) (oi := { dst := some 13, op := Op.move (Operand.tmp 0), type := 62, pos := "list.go:32", after := #[], guard := none }) (v := ?_) rfl (by kernel_rfl) (by kernel_rfl) (by kernel_rfl) (fun _ _ _ h => h) (Or.inl ⟨by rfl, ?_⟩) (by assumption) ?_
  rotate_left 1
  · intro w hSw; (try dsimp only at hSw); go_simp; try (with_reducible rfl)
  try simp only [Act.put, List.setIfInBounds_toArray, List.set_cons_zero, List.set_cons_succ]
  refine wpAnyH_take (i := 11) (oi := { dst := some 14, op := Op.nilCheck (Operand.tmp 13), type := 0, pos := "list.go:32", after := #[{ on := 10, ground := Ground.data }], guard := none }) (v := ?_) rfl (by kernel_rfl) (by kernel_rfl) (by kernel_rfl) (fun _ _ _ h => h) (Or.inl ⟨by rfl, ?_⟩) (by assumption) ?_
  rotate_left 1
  · intro w hSw; (try dsimp only at hSw); go_simp; try (with_reducible rfl)
  try simp only [Act.put, List.setIfInBounds_toArray, List.set_cons_zero, List.set_cons_succ]
  refine wpAnyH_take (i := 12) (oi := { dst := some 15, op := Op.fieldAddr 25 (Operand.tmp 14) 4, type := 0, pos := "list.go:32", after := #[{ on := 11, ground := Ground.data }], guard := none }) (v := ?_) rfl (by kernel_rfl) (by kernel_rfl) (by kernel_rfl) (fun _ _ _ h => h) (Or.inl ⟨by rfl, ?_⟩) (by assumption) ?_
  rotate_left 1
  · intro w hSw; (try dsimp only at hSw); go_simp; try (with_reducible rfl)
  try simp only [Act.put, List.setIfInBounds_toArray, List.set_cons_zero, List.set_cons_succ]
  refine wpAnyH_take (i := 13) (oi := { dst := some 16, op := Op.build 97 #[(0, Operand.tmp 15)], type := 97, pos := "list.go:32", after := #[{ on := 12, ground := Ground.data }], guard := none }) (v := ?_) rfl (by kernel_rfl) (by kernel_rfl) (by kernel_rfl) (fun _ _ _ h => h) (Or.inl ⟨by rfl, ?_⟩) (by assumption) ?_
  rotate_left 1
  · intro w hSw; (try dsimp only at hSw); go_simp; try (with_reducible rfl)
  try simp only [Act.put, List.setIfInBounds_toArray, List.set_cons_zero, List.set_cons_succ]
  refine wpAnyH_take (i := 14) (oi := { dst := some 17, op := Op.makeInterface 97 (Operand.tmp 16), type := 59, pos := "list.go:32", after := #[{ on := 13, ground := Ground.data }], guard := none }) (v := ?_) rfl (by kernel_rfl) (by kernel_rfl) (by kernel_rfl) (fun _ _ _ h => h) (Or.inl ⟨by rfl, ?_⟩) (by assumption) ?_
  rotate_left 1
  · intro w hSw; (try dsimp only at hSw); go_simp; try (with_reducible rfl)
  try simp only [Act.put, List.setIfInBounds_toArray, List.set_cons_zero, List.set_cons_succ]
  refine wpAnyH_take (i := 15) (oi := { dst := some 18, op := Op.move (Operand.tmp 0), type := 62, pos := "list.go:32", after := #[], guard := none }) (v := ?_) rfl (by kernel_rfl) (by kernel_rfl) (by kernel_rfl) (fun _ _ _ h => h) (Or.inl ⟨by rfl, ?_⟩) (by assumption) ?_
  rotate_left 1
  · intro w hSw; (try dsimp only at hSw); go_simp; try (with_reducible rfl)
  try simp only [Act.put, List.setIfInBounds_toArray, List.set_cons_zero, List.set_cons_succ]
  refine wpAnyH_take (i := 16) (oi := { dst := some 19, op := Op.nilCheck (Operand.tmp 18), type := 0, pos := "list.go:32", after := #[{ on := 15, ground := Ground.data }], guard := none }) (v := ?_) rfl (by kernel_rfl) (by kernel_rfl) (by kernel_rfl) (fun _ _ _ h => h) (Or.inl ⟨by rfl, ?_⟩) (by assumption) ?_
  rotate_left 1
  · intro w hSw; (try dsimp only at hSw); go_simp; try (with_reducible rfl)
  try simp only [Act.put, List.setIfInBounds_toArray, List.set_cons_zero, List.set_cons_succ]
  refine wpAnyH_take (i := 17) (oi := { dst := some 20, op := Op.fieldAddr 25 (Operand.tmp 19) 5, type := 0, pos := "list.go:32", after := #[{ on := 16, ground := Ground.data }], guard := none }) (v := ?_) rfl (by kernel_rfl) (by kernel_rfl) (by kernel_rfl) (fun _ _ _ h => h) (Or.inl ⟨by rfl, ?_⟩) (by assumption) ?_
  rotate_left 1
  · intro w hSw; (try dsimp only at hSw); go_simp; try (with_reducible rfl)
  try simp only [Act.put, List.setIfInBounds_toArray, List.set_cons_zero, List.set_cons_succ]
  refine wpAnyH_take (i := 18) (oi := { dst := some 21, op := Op.build 97 #[(0, Operand.tmp 20)], type := 97, pos := "list.go:32", after := #[{ on := 17, ground := Ground.data }], guard := none }) (v := ?_) rfl (by kernel_rfl) (by kernel_rfl) (by kernel_rfl) (fun _ _ _ h => h) (Or.inl ⟨by rfl, ?_⟩) (by assumption) ?_
  rotate_left 1
  · intro w hSw; (try dsimp only at hSw); go_simp; try (with_reducible rfl)
  try simp only [Act.put, List.setIfInBounds_toArray, List.set_cons_zero, List.set_cons_succ]
  refine wpAnyH_take (i := 19) (oi := { dst := some 22, op := Op.makeInterface 97 (Operand.tmp 21), type := 59, pos := "list.go:32", after := #[{ on := 18, ground := Ground.data }], guard := none }) (v := ?_) rfl (by kernel_rfl) (by kernel_rfl) (by kernel_rfl) (fun _ _ _ h => h) (Or.inl ⟨by rfl, ?_⟩) (by assumption) ?_
  rotate_left 1
  · intro w hSw; (try dsimp only at hSw); go_simp; try (with_reducible rfl)
  try simp only [Act.put, List.setIfInBounds_toArray, List.set_cons_zero, List.set_cons_succ]
  refine wpAnyH_take (i := 20) (oi := { dst := some 23, op := Op.build 60 #[(0, Operand.tmp 7), (1, Operand.tmp 12), (2, Operand.tmp 17), (3, Operand.tmp 22)], type := 60, pos := "list.go:32", after := #[{ on := 4, ground := Ground.data }, { on := 9, ground := Ground.data }, { on := 14, ground := Ground.data }, { on := 19, ground := Ground.data }], guard := none }) (v := ?_) rfl (by kernel_rfl) (by kernel_rfl) (by kernel_rfl) (fun _ _ _ h => h) (Or.inl ⟨by rfl, ?_⟩) (by assumption) ?_
  rotate_left 1
  · intro w hSw; (try dsimp only at hSw); go_simp; try (with_reducible rfl)
  try simp only [Act.put, List.setIfInBounds_toArray, List.set_cons_zero, List.set_cons_succ]
  refine wpAnyH_ready (rs := [21]) (by kernel_rfl) (by simp) ?_
  refine AllReadyH.cons (o := { dst := none, op := Op.store 60 (Operand.tmp 2) (Operand.tmp 23), type := 0, pos := "list.go:32", after := #[{ on := 20, ground := Ground.data }, { on := 0, ground := Ground.phase }, { on := 1, ground := Ground.phase }, { on := 2, ground := Ground.phase }, { on := 3, ground := Ground.phase }, { on := 4, ground := Ground.phase }, { on := 5, ground := Ground.phase }, { on := 6, ground := Ground.phase }, { on := 7, ground := Ground.phase }, { on := 8, ground := Ground.phase }, { on := 9, ground := Ground.phase }, { on := 10, ground := Ground.phase }, { on := 11, ground := Ground.phase }, { on := 12, ground := Ground.phase }, { on := 13, ground := Ground.phase }, { on := 14, ground := Ground.phase }, { on := 15, ground := Ground.phase }, { on := 16, ground := Ground.phase }, { on := 17, ground := Ground.phase }, { on := 18, ground := Ground.phase }, { on := 19, ground := Ground.phase }, { on := 20, ground := Ground.phase }], guard := none }) rfl (fun K hK => ?_) (AllReadyH.nil)
  go_simp
  refine hK.out _ _ trivial (fun hHeld => ?_)
  clear hK K
  try simp only [Act.put, List.setIfInBounds_toArray, List.set_cons_zero, List.set_cons_succ]
  refine wpAnyH_done (by kernel_rfl) ?_ _
  clear hHeld
  go_wp2_with fail
  have h4 := (((HX.out.set (o := 0) (by simp) (lq M)).set (o := 1) (by simp) (lr M 3)).set (o := 2) (by simp) (lr M 4)).set (o := 3) (by simp) (lr M 5)
  simp only [List.set_cons_zero, List.set_cons_succ] at h4
  have y0 := h4.c 0 (by simp)
  have y1 := h4.c 1 (by simp)
  have y2 := h4.c 2 (by simp)
  have y3 := h4.c 3 (by simp)
  simp only [List.getElem_cons_zero, List.getElem_cons_succ] at y0 y1 y2 y3
  clear h4 c0 c1 c2 c3 fz
  unfold lq lr at y0 y1 y2 y3
  refine bodyPost_ret (by simp [results, Tryz.results38, go_sem, y0, y1, y2, y3]; rfl) rfl ⟨rfl, ?_⟩
  rw [hg]
  have hb := HB.out
  rw [hg] at hb
  exact ((((hb.setCell (by simp) _).setCell (by simp) _).setCell (by simp) _).setCell (by simp) _).drew
end Go.Proofs.YtdikgjbpjdnodaaGreat
