/-
  The document's Parse.
-/
import Derived.Test.YtkoohdacneflfaaGreatDoorZ12
import Derived.Deep.Cut
import Derived.RegionTactic
import Derived.ChangeAlike
import Derived.BigRegion
import Derived.Deep.RegionLaw
import Derived.Deep.RegionHeld
import Derived.Deep.CutRange
namespace Go.Proofs.YtkoohdacneflfaaGreatDoor
open Go.RowKit Go.Shelf
set_option linter.unusedVariables false
set_option linter.unusedSimpArgs false
set_option maxRecDepth 100000

/-- An append that runs so, as one step of a region that draws its order. -/
theorem step_app_run {ops : Array Oper} {o : Oper} {a : Act} {w w' : World} {v v' xv : Value} {K : Act → World → Prop} {Q : Exit → Act → World → Prop} {E : Prop} (hgd : o.guard = none) (s x : Operand) (t u : TypeId)
    (ho : o.op = .call { callee := .builtin .append, args := #[s, x], argTypes := #[t, u] }) (hs : a.eval s = v) (hx : a.eval x = xv) (hrun : (Builtin.append_ #[t, u] o.type #[v, xv]).run Tryz.prog w = .ok v' w') (h : K (a.put o.dst v') w') :
    if Region.wanted o (yielded ops a.tmps) = true then Oper.wp Tryz.prog o a w K Q else E := by
  rw [if_pos (by simp [Region.wanted, hgd])]
  unfold Oper.wp
  simp [execOp, ho, resolve, invoke, builtin, hs, hx, hrun, Result.andThen]
  exact h

set_option maxHeartbeats 32000000 in
theorem rparse_any {w : World} {v : Value} (b : List UInt8) (hs : Sl w 0 w.heap.size v (iz b)) (hl : b.length ≤ 1000000) : Calls Tryz.prog 37 #[v] w (HedPost w (parH b)) := by
  obtain ⟨N, hN⟩ : ∃ N, w.heap.size = N := ⟨_, rfl⟩
  have hb0 : Below w.heap.size w (w.alloc (.cells #[.string ⟨#[]⟩, .string ⟨#[]⟩, .int .i64 0, .slice none 0 0] 42)) := (Below.refl _ _).alloc (Nat.le_refl _) _
  have hx := cel_new4 w (.string ⟨#[]⟩) (.string ⟨#[]⟩) (.int .i64 0) (.slice none 0 0) 42
  have hsz : (w.alloc (.cells #[.string ⟨#[]⟩, .string ⟨#[]⟩, .int .i64 0, .slice none 0 0] 42)).heap.size = N + 1 := by simp [hN]
  have hs1 : Sl (w.alloc (.cells #[.string ⟨#[]⟩, .string ⟨#[]⟩, .int .i64 0, .slice none 0 0] 42)) 0 (w.alloc (.cells #[.string ⟨#[]⟩, .string ⟨#[]⟩, .int .i64 0, .slice none 0 0] 42)).heap.size v (iz b) := (hs.below hb0 (Nat.le_refl _)).wide (Nat.le_refl _) hb0.size
  obtain ⟨va, vc, rfl⟩ := sl_shape hs rfl
  rw [hN] at hx hb0
  have HB0 := Lib.hid hb0
  have HX0 := Lib.hid hx
  obtain ⟨W, hW⟩ : ∃ W, w.alloc (.cells #[.string ⟨#[]⟩, .string ⟨#[]⟩, .int .i64 0, .slice none 0 0] 42) = W := ⟨_, rfl⟩
  rw [hW] at HB0 HX0 hs1 hsz
  have HSZ := Lib.hid hsz
  have HD0 := Lib.hid (Below.refl W.heap.size W)
  have HS := Lib.hid hs1
  have HNN := Lib.hid hN
  obtain ⟨X, hX⟩ : ∃ X, parH b = X := ⟨_, rfl⟩
  rw [hX]
  unfold parH at hX
  clear hb0 hx hsz hs hs1
  by_cases h4 : 4096 < b.length
  · have HF := Lib.hid (show X = (z0, 431) by rw [← hX, if_pos h4])
    have t1 : (4096 : Int) < b.length := by omega
    clear hX h4
    go_enter Tryz.func37, Tryz.ntmps37
    obtain ⟨m0, m1, m2, m3⟩ := HX0.out.four
    have mf := HX0.out.fz
    go_wp2_with fail
    have HBt := Lib.hid (HB0.out.trans (HD0.out.mono (by have := HSZ.out; omega)))
    have HKt := Lib.hid (cel_put4 HX0.out (.string ⟨#[]⟩) (.string ⟨#[]⟩) (.int .i64 0) (.slice none 0 0))
    have HBf := Lib.hid (below_put4 HBt.out (Nat.le_refl _) (.string ⟨#[]⟩) (.string ⟨#[]⟩) (.int .i64 0) (.slice none 0 0))
    clear m0 m1 m2 m3 mf
    obtain ⟨m0, m1, m2, m3⟩ := HKt.out.four
    unfold put4 at HBf m0 m1 m2 m3
    refine bodyPost_ret (v := .tuple #[hdv z0, .int .i64 431]) (by simp [results, Tryz.results37, go_sem, m0, m1, m2, m3]; rfl) rfl ⟨hdv z0, by rw [HF.out], by rw [HF.out]; exact ho_zero _ _, by rw [HNN.out]; exact HBf.out⟩
  · have t1 : ¬ ((4096 : Int) < b.length) := by omega
    have HQ2 := Lib.hid (show par1 (linesB b) = X by rw [← hX, if_neg h4])
    have HLN := Lib.hid (rlines_any b HS.out (by omega))
    have HLB := Lib.hid (show (linesB b).length ≤ 4096 ∧ ∀ x ∈ linesB b, x.length ≤ 4096 from by
      obtain ⟨q1, q2⟩ := lines_len b
      exact ⟨by omega, fun x hx => by have := q2 x hx; omega⟩)
    have HDL := Lib.hid (docL_cases b)
    obtain ⟨L, hL⟩ : ∃ L, linesB b = L := ⟨_, rfl⟩
    obtain ⟨DL, hDL⟩ : ∃ D, docL b = D := ⟨_, rfl⟩
    rw [hL] at HQ2 HLB HDL
    rw [hDL] at HLN HDL
    unfold RlPost at HLN
    clear hX h4 hL hDL
    rcases HDL.out with ⟨rfl, rfl⟩ | ⟨rfl, rfl⟩ | ⟨l0, ls, rfl, rfl⟩
    · have HF := Lib.hid (show X = (z0, 400) from HQ2.out.symm)
      simp only [Option.isSome_none, Option.getD_none] at HLN
      go_enter Tryz.func37, Tryz.ntmps37
      go_wp2_with fail
      refine (HLN.out).mono ?_; rintro e w1 ⟨v1, rfl, ho1, hb1⟩
      have HD1 := Lib.hid (bel_call HD0.out hb1)
      have HX1 := Lib.hid (HX0.out.below (by simp) hb1)
      obtain ⟨a1, c1, rfl⟩ := OwnT.shape ho1
      clear hb1
      obtain ⟨m0, m1, m2, m3⟩ := HX1.out.four
      have mf := HX1.out.fz
      go_wp2_with fail
      have HBt := Lib.hid (HB0.out.trans (HD1.out.mono (by have := HSZ.out; omega)))
      have HKt := Lib.hid (cel_put4 HX1.out (.string ⟨#[]⟩) (.string ⟨#[]⟩) (.int .i64 0) (.slice none 0 0))
      have HBf := Lib.hid (below_put4 HBt.out (Nat.le_refl _) (.string ⟨#[]⟩) (.string ⟨#[]⟩) (.int .i64 0) (.slice none 0 0))
      clear m0 m1 m2 m3 mf
      obtain ⟨m0, m1, m2, m3⟩ := HKt.out.four
      unfold put4 at HBf m0 m1 m2 m3
      refine bodyPost_ret (v := .tuple #[hdv z0, .int .i64 400]) (by simp [results, Tryz.results37, go_sem, m0, m1, m2, m3]; rfl) rfl ⟨hdv z0, by rw [HF.out], by rw [HF.out]; exact ho_zero _ _, by rw [HNN.out]; exact HBf.out⟩
    · have HF := Lib.hid (show X = (z0, 400) from HQ2.out.symm)
      simp only [Option.isSome_some, Option.getD_some] at HLN
      go_enter Tryz.func37, Tryz.ntmps37
      go_wp2_with fail
      refine (HLN.out).mono ?_; rintro e w1 ⟨v1, rfl, ho1, hb1⟩
      have HD1 := Lib.hid (bel_call HD0.out hb1)
      have HX1 := Lib.hid (HX0.out.below (by simp) hb1)
      obtain ⟨a1, c1, rfl⟩ := OwnT.shape ho1
      clear hb1
      obtain ⟨m0, m1, m2, m3⟩ := HX1.out.four
      have mf := HX1.out.fz
      go_wp2_with fail
      have HBt := Lib.hid (HB0.out.trans (HD1.out.mono (by have := HSZ.out; omega)))
      have HKt := Lib.hid (cel_put4 HX1.out (.string ⟨#[]⟩) (.string ⟨#[]⟩) (.int .i64 0) (.slice none 0 0))
      have HBf := Lib.hid (below_put4 HBt.out (Nat.le_refl _) (.string ⟨#[]⟩) (.string ⟨#[]⟩) (.int .i64 0) (.slice none 0 0))
      clear m0 m1 m2 m3 mf
      obtain ⟨m0, m1, m2, m3⟩ := HKt.out.four
      unfold put4 at HBf m0 m1 m2 m3
      refine bodyPost_ret (v := .tuple #[hdv z0, .int .i64 400]) (by simp [results, Tryz.results37, go_sem, m0, m1, m2, m3]; rfl) rfl ⟨hdv z0, by rw [HF.out], by rw [HF.out]; exact ho_zero _ _, by rw [HNN.out]; exact HBf.out⟩
    · simp only [Option.isSome_some, Option.getD_some] at HLN
      go_enter Tryz.func37, Tryz.ntmps37
      go_wp2_with fail
      refine (HLN.out).mono ?_; rintro e w1 ⟨v1, rfl, ho1, hb1⟩
      have HD1 := Lib.hid (bel_call HD0.out hb1)
      have HX1 := Lib.hid (HX0.out.below (by simp) hb1)
      have HO1 := Lib.hid (OwnT.st ho1)
      obtain ⟨a1, c1, rfl⟩ := OwnT.shape ho1
      clear hb1
      obtain ⟨g1, o1, rfl, _, hg1, hc1⟩ := st_at HO1.out (by simp)
      obtain ⟨NL, hNL⟩ : ∃ n, (l0 :: ls ++ [[]]).length = n := ⟨_, rfl⟩
      have hNL2 : NL = ls.length + 2 := by rw [← hNL]; simp
      have HT1 := Lib.hid (show Tx w1 g1 o1 (l0 :: ls ++ [[]]) from hc1)
      have HG1 := Lib.hid hg1
      have q0 := hc1 0 (by simp)
      have q0 : w1.cell? ⟨g1, o1, none⟩ = some (.string (bs l0)) := q0
      rw [hNL]
      have t2 : ¬ ((NL : Int) < 2) := by omega
      have hNLb : NL ≤ 4100 := by have := HLB.out.1; rw [List.length_cons] at this; omega
      have HNL := Lib.hid hNL2
      have hl0 : l0.length ≤ 4096 := HLB.out.2 l0 (by simp)
      have HSP : Hid (Calls Tryz.prog 55 #[.string (bs l0), .int .u8 32] w1 (SpPost w1 (spl 32 l0))) := Lib.hid (rsplit_any l0 32 (by omega))
      have HSL := Lib.hid (spl_sum 32 l0)
      have HFN := Lib.hid (fstL_no (l := l0))
      have HF3 := Lib.hid (fun (a b c : List UInt8) (h : spl 32 l0 = [a, b, c]) => fstL_3 (l := l0) h)
      obtain ⟨P, hP⟩ : ∃ P, spl 32 l0 = P := ⟨_, rfl⟩
      rw [hP] at HSP HSL HFN HF3
      unfold SpPost at HSP
      clear hP hc1 HO1 hg1 hNL hNL2 ho1
      go_wp2_with fail
      refine (HSP.out).mono ?_; rintro e w2 ⟨v2, rfl, ho2, hb2⟩
      have HD2 := Lib.hid (bel_call HD1.out hb2)
      have HX2 := Lib.hid (HX1.out.below (by simp) hb2)
      have HT2 := Lib.hid (HT1.out.later hb2 HG1.out)
      have HZ2 := Lib.hid hb2.size
      have HO2 := Lib.hid (OwnT.st ho2)
      obtain ⟨a2, c2, rfl⟩ := OwnT.shape ho2
      clear ho2 q0
      clear hb2
      by_cases h3 : P.length = 3
      · obtain ⟨a, b', c, rfl⟩ : ∃ a b c, P = [a, b, c] := by
          match P, h3 with
          | [a, b, c], _ => exact ⟨a, b, c, rfl⟩
        have hF3 := HF3.out a b' c rfl
        have hla := Nat.le_trans (HSL.out a (by simp)) hl0
        have hlb := Nat.le_trans (HSL.out b' (by simp)) hl0
        have hlc := Nat.le_trans (HSL.out c (by simp)) hl0
        obtain ⟨g2, o2, rfl, _, hg2, hc2⟩ := st_at HO2.out (by simp)
        have HG2 := Lib.hid hg2
        have HT2w := Lib.hid (show Tx w2 g2 o2 [a, b', c] from hc2)
        have p0 : w2.cell? ⟨g2, o2, none⟩ = some (.string (bs a)) := hc2 0 (by simp)
        have p1 : w2.cell? ⟨g2, o2 + 1, none⟩ = some (.string (bs b')) := hc2 1 (by simp)
        have p2 : w2.cell? ⟨g2, o2 + 2, none⟩ = some (.string (bs c)) := hc2 2 (by simp)
        clear HFN HF3 HSL HO2 hc2 hg2 h3
        simp only [List.length_cons, List.length_nil, Nat.zero_add, Nat.reduceAdd]
        by_cases ea : a = []
        · have HF := Lib.hid (show X = (z0, 400) by rw [← HQ2.out, par1_no (hF3.trans (fst3_e (.inl ea))) (by decide)])
          have ta : (bs a).toList = [] := by rw [bs_toList, ea]
          clear ea
          obtain ⟨m0, m1, m2, m3⟩ := HX2.out.four
          have mf := HX2.out.fz
          go_wp2_with fail
          have HBt := Lib.hid (HB0.out.trans (HD2.out.mono (by have := HSZ.out; omega)))
          have HKt := Lib.hid (cel_put4 HX2.out (.string ⟨#[]⟩) (.string ⟨#[]⟩) (.int .i64 0) (.slice none 0 0))
          have HBf := Lib.hid (below_put4 HBt.out (Nat.le_refl _) (.string ⟨#[]⟩) (.string ⟨#[]⟩) (.int .i64 0) (.slice none 0 0))
          clear m0 m1 m2 m3 mf
          obtain ⟨m0, m1, m2, m3⟩ := HKt.out.four
          unfold put4 at HBf m0 m1 m2 m3
          refine bodyPost_ret (v := .tuple #[hdv z0, .int .i64 400]) (by simp [results, Tryz.results37, go_sem, m0, m1, m2, m3]; rfl) rfl ⟨hdv z0, by rw [HF.out], by rw [HF.out]; exact ho_zero _ _, by rw [HNN.out]; exact HBf.out⟩
        · by_cases eb : b' = []
          · have HF := Lib.hid (show X = (z0, 400) by rw [← HQ2.out, par1_no (hF3.trans (fst3_e (.inr (.inl eb)))) (by decide)])
            have ta : ¬ (bs a).toList = [] := by rw [bs_toList]; exact ea
            have tb : (bs b').toList = [] := by rw [bs_toList, eb]
            clear ea eb
            obtain ⟨m0, m1, m2, m3⟩ := HX2.out.four
            have mf := HX2.out.fz
            go_wp2_with fail
            have HBt := Lib.hid (HB0.out.trans (HD2.out.mono (by have := HSZ.out; omega)))
            have HKt := Lib.hid (cel_put4 HX2.out (.string ⟨#[]⟩) (.string ⟨#[]⟩) (.int .i64 0) (.slice none 0 0))
            have HBf := Lib.hid (below_put4 HBt.out (Nat.le_refl _) (.string ⟨#[]⟩) (.string ⟨#[]⟩) (.int .i64 0) (.slice none 0 0))
            clear m0 m1 m2 m3 mf
            obtain ⟨m0, m1, m2, m3⟩ := HKt.out.four
            unfold put4 at HBf m0 m1 m2 m3
            refine bodyPost_ret (v := .tuple #[hdv z0, .int .i64 400]) (by simp [results, Tryz.results37, go_sem, m0, m1, m2, m3]; rfl) rfl ⟨hdv z0, by rw [HF.out], by rw [HF.out]; exact ho_zero _ _, by rw [HNN.out]; exact HBf.out⟩
          · by_cases ec : c = []
            · have HF := Lib.hid (show X = (z0, 400) by rw [← HQ2.out, par1_no (hF3.trans (fst3_e (.inr (.inr ec)))) (by decide)])
              have ta : ¬ (bs a).toList = [] := by rw [bs_toList]; exact ea
              have tb : ¬ (bs b').toList = [] := by rw [bs_toList]; exact eb
              have tc : (bs c).toList = [] := by rw [bs_toList, ec]
              clear ea eb ec
              obtain ⟨m0, m1, m2, m3⟩ := HX2.out.four
              have mf := HX2.out.fz
              go_wp2_with fail
              have HBt := Lib.hid (HB0.out.trans (HD2.out.mono (by have := HSZ.out; omega)))
              have HKt := Lib.hid (cel_put4 HX2.out (.string ⟨#[]⟩) (.string ⟨#[]⟩) (.int .i64 0) (.slice none 0 0))
              have HBf := Lib.hid (below_put4 HBt.out (Nat.le_refl _) (.string ⟨#[]⟩) (.string ⟨#[]⟩) (.int .i64 0) (.slice none 0 0))
              clear m0 m1 m2 m3 mf
              obtain ⟨m0, m1, m2, m3⟩ := HKt.out.four
              unfold put4 at HBf m0 m1 m2 m3
              refine bodyPost_ret (v := .tuple #[hdv z0, .int .i64 400]) (by simp [results, Tryz.results37, go_sem, m0, m1, m2, m3]; rfl) rfl ⟨hdv z0, by rw [HF.out], by rw [HF.out]; exact ho_zero _ _, by rw [HNN.out]; exact HBf.out⟩
            · have ta : ¬ (bs a).toList = [] := by rw [bs_toList]; exact ea
              have tb : ¬ (bs b').toList = [] := by rw [bs_toList]; exact eb
              have tc : ¬ (bs c).toList = [] := by rw [bs_toList]; exact ec
              have hne : ¬ (a = [] ∨ b' = [] ∨ c = []) := by simp [ea, eb, ec]
              have va' : (bs a).toList.isEmpty = false := by rw [bs_toList]; exact List.isEmpty_eq_false_iff.2 ea
              have vb' : (bs b').toList.isEmpty = false := by rw [bs_toList]; exact List.isEmpty_eq_false_iff.2 eb
              have vc' : (bs c).toList.isEmpty = false := by rw [bs_toList]; exact List.isEmpty_eq_false_iff.2 ec
              have HNE := Lib.hid (And.intro hne hF3)
              have HWD : Hid (∀ w, Calls Tryz.prog 56 #[.string (bs a), .int .i64 16] w (Tells w (.bool (wordL a 16)))) := Lib.hid (fun w => rword_any a 16 (by omega) (by omega) w)
              obtain ⟨K1, hK1⟩ : ∃ K, wordL a 16 = K := ⟨_, rfl⟩
              rw [hK1] at HWD
              have HK1 := Lib.hid hK1
              clear ea eb ec hne hF3 hK1
              go_wp2_with fail
              refine (HWD.out _).mono ?_; rintro e w3 ⟨rfl, hb3⟩
              have HD3 := Lib.hid (bel_call HD2.out hb3)
              have HX3 := Lib.hid (HX2.out.below (by simp) hb3)
              have HT3 := Lib.hid (HT2.out.later hb3 (Nat.lt_of_lt_of_le HG1.out HZ2.out))
              have HW3 := Lib.hid (HT2w.out.later hb3 HG2.out)
              have HG3 := Lib.hid (Nat.lt_of_lt_of_le HG2.out hb3.size)
              have HZ3 := Lib.hid (Nat.lt_of_lt_of_le HG1.out (Nat.le_trans HZ2.out hb3.size))
              clear p0 p1 p2
              clear hb3
              cases K1 with
              | false =>
                have HF := Lib.hid (show X = (z0, 400) by rw [← HQ2.out, par1_no (HNE.out.2.trans (fst3_w HNE.out.1 HK1.out)) (by decide)])
                obtain ⟨m0, m1, m2, m3⟩ := HX3.out.four
                have mf := HX3.out.fz
                go_wp2_with fail
                have HBt := Lib.hid (HB0.out.trans (HD3.out.mono (by have := HSZ.out; omega)))
                have HKt := Lib.hid (cel_put4 HX3.out (.string ⟨#[]⟩) (.string ⟨#[]⟩) (.int .i64 0) (.slice none 0 0))
                have HBf := Lib.hid (below_put4 HBt.out (Nat.le_refl _) (.string ⟨#[]⟩) (.string ⟨#[]⟩) (.int .i64 0) (.slice none 0 0))
                clear m0 m1 m2 m3 mf
                obtain ⟨m0, m1, m2, m3⟩ := HKt.out.four
                unfold put4 at HBf m0 m1 m2 m3
                refine bodyPost_ret (v := .tuple #[hdv z0, .int .i64 400]) (by simp [results, Tryz.results37, go_sem, m0, m1, m2, m3]; rfl) rfl ⟨hdv z0, by rw [HF.out], by rw [HF.out]; exact ho_zero _ _, by rw [HNN.out]; exact HBf.out⟩
              | true =>
                as_aux_lemma =>
                clear HWD
                have HVQ := Lib.hid (fun (st : Int) (hv : verL c = (0, st)) (h2 : st ≠ 200) => show X = (z0, st) by rw [← HQ2.out, par1_no (HNE.out.2.trans (fst3_v HNE.out.1 HK1.out hv h2)) h2])
                have HLQ := Lib.hid (fun (v : Int) (hv : verL c = (v, 200)) (h2 : 2048 < b'.length) => show X = (z0, 414) by rw [← HQ2.out, par1_no (HNE.out.2.trans (fst3_l HNE.out.1 HK1.out hv h2)) (by decide)])
                have HTQ := Lib.hid (fun (v : Int) (hv : verL c = (v, 200)) (h2 : ¬ 2048 < b'.length) (ht : tgtD b' = false) => show X = (z0, 400) by rw [← HQ2.out, par1_no (HNE.out.2.trans (fst3_t HNE.out.1 HK1.out hv h2 ht)) (by decide)])
                have HYQ := Lib.hid (fun (v : Int) (hv : verL c = (v, 200)) (h2 : ¬ 2048 < b'.length) (ht : tgtD b' = true) => show par2 ⟨a, b', v, []⟩ ls = X by rw [← HQ2.out, par1_yes (HNE.out.2.trans (fst3_ok HNE.out.1 HK1.out hv h2 ht))])
                clear HNE HK1 HQ2 HLN HSP
                have p0 : w3.cell? ⟨g2, o2, none⟩ = some (.string (bs a)) := HW3.out 0 (by simp)
                have p1 : w3.cell? ⟨g2, o2 + 1, none⟩ = some (.string (bs b')) := HW3.out 1 (by simp)
                have p2 : w3.cell? ⟨g2, o2 + 2, none⟩ = some (.string (bs c)) := HW3.out 2 (by simp)
                by_cases h8 : c.length = 8
                · obtain ⟨x0, x1, x2, x3, x4, x5, x6, x7, rfl⟩ : ∃ x0 x1 x2 x3 x4 x5 x6 x7, c = [x0, x1, x2, x3, x4, x5, x6, x7] := by
                    match c, h8 with
                    | [x0, x1, x2, x3, x4, x5, x6, x7], _ => exact ⟨_, _, _, _, _, _, _, _, rfl⟩
                  clear h8 hlc
                  have s5 : ∀ (w : World), (Instr.slice 9 (.string (bs [x0, x1, x2, x3, x4, x5, x6, x7])) none (some (.int .i64 5)) none).run Tryz.prog w = .ok (.string (bs [x0, x1, x2, x3, x4])) w := fun w => take_run [x0, x1, x2, x3, x4, x5, x6, x7] 5 (by simp) w
                  have i5 : ∀ (w : World), (Instr.index 9 (.string (bs [x0, x1, x2, x3, x4, x5, x6, x7])) (.int .i64 5)).run Tryz.prog w = .ok (.int .u8 (x5.toNat : Nat)) w := fun w => ix_run [x0, x1, x2, x3, x4, x5, x6, x7] 5 (by simp) w
                  have i6 : ∀ (w : World), (Instr.index 9 (.string (bs [x0, x1, x2, x3, x4, x5, x6, x7])) (.int .i64 6)).run Tryz.prog w = .ok (.int .u8 (x6.toNat : Nat)) w := fun w => ix_run [x0, x1, x2, x3, x4, x5, x6, x7] 6 (by simp) w
                  have i7 : ∀ (w : World), (Instr.index 9 (.string (bs [x0, x1, x2, x3, x4, x5, x6, x7])) (.int .i64 7)).run Tryz.prog w = .ok (.int .u8 (x7.toNat : Nat)) w := fun w => ix_run [x0, x1, x2, x3, x4, x5, x6, x7] 7 (by simp) w
                  have hl8 : [x0, x1, x2, x3, x4, x5, x6, x7].length = 8 := rfl
                  by_cases hp : [x0, x1, x2, x3, x4] = http
                  · unfold http at hp
                    injection hp with e0 hp; injection hp with e1 hp; injection hp with e2 hp; injection hp with e3 hp; injection hp with e4 hp
                    subst e0; subst e1; subst e2; subst e3; subst e4
                    clear hp
                    have q5 : ((bs [72, 84, 84, 80, 47]).toList == [72, 84, 84, 80, 47]) = true := by rw [bs_toList]; rfl
                    have q5n : ((bs [72, 84, 84, 80, 47]).toList != [72, 84, 84, 80, 47]) = false := by rw [bs_toList]; rfl
                    obtain ⟨H5, hH5⟩ : ∃ H, bs [72, 84, 84, 80, 47] = H := ⟨_, rfl⟩
                    rw [hH5] at q5 q5n
                    simp only [hH5] at s5
                    clear hH5
                    obtain ⟨CC, hCC⟩ : ∃ C, bs [72, 84, 84, 80, 47, x5, x6, x7] = C := ⟨_, rfl⟩
                    have hCs : CC.size = 8 := by rw [← hCC]; rfl
                    simp only [hCC] at p2 s5 i5 i6 i7
                    have HCC := Lib.hid hCC
                    clear hCC hl8
                    obtain ⟨D1, hD1⟩ : ∃ D, inR dR x5.toNat = D := ⟨_, rfl⟩
                    have HG1' : Hid (∀ w, Calls Tryz.prog 57 #[.int .u8 (x5.toNat : Nat)] w fun e w' => e = .returned (.bool D1) ∧ w' = w) := Lib.hid (fun w => by have := digit_any x5 w; rw [hD1] at this; exact this)
                    obtain ⟨D2, hD2⟩ : ∃ D, inR dR x7.toNat = D := ⟨_, rfl⟩
                    have HG2' : Hid (∀ w, Calls Tryz.prog 57 #[.int .u8 (x7.toNat : Nat)] w fun e w' => e = .returned (.bool D2) ∧ w' = w) := Lib.hid (fun w => by have := digit_any x7 w; rw [hD2] at this; exact this)
                    have HGG := Lib.hid (And.intro HG1.out HG2.out)
                    clear HG1 HG2
                    have HG1 := HG1'
                    have HG2 := HG2'
                    clear HG1' HG2'
                    have HE1 := Lib.hid hD1
                    have HE2 := Lib.hid hD2
                    clear hD1 hD2
                    cases D1 with
                    | false =>
                      have HF := Lib.hid (HVQ.out 400 (ver_d1 HE1.out) (by decide))
                      clear HVQ HLQ HTQ HYQ
                      go_wp2_with fail
                      refine (HG1.out _).mono ?_; rintro e wq ⟨rfl, hwq⟩; subst hwq
                      obtain ⟨m0, m1, m2, m3⟩ := HX3.out.four
                      have mf := HX3.out.fz
                      go_wp2_with fail
                      have HBt := Lib.hid (HB0.out.trans (HD3.out.mono (by have := HSZ.out; omega)))
                      have HKt := Lib.hid (cel_put4 HX3.out (.string ⟨#[]⟩) (.string ⟨#[]⟩) (.int .i64 0) (.slice none 0 0))
                      have HBf := Lib.hid (below_put4 HBt.out (Nat.le_refl _) (.string ⟨#[]⟩) (.string ⟨#[]⟩) (.int .i64 0) (.slice none 0 0))
                      clear m0 m1 m2 m3 mf
                      obtain ⟨m0, m1, m2, m3⟩ := HKt.out.four
                      unfold put4 at HBf m0 m1 m2 m3
                      refine bodyPost_ret (v := .tuple #[hdv z0, .int .i64 400]) (by simp [results, Tryz.results37, go_sem, m0, m1, m2, m3]; rfl) rfl ⟨hdv z0, by rw [HF.out], by rw [HF.out]; exact ho_zero _ _, by rw [HNN.out]; exact HBf.out⟩
                    | true =>
                      by_cases hdot : x6 = 46
                      · subst hdot
                        have i6 : ∀ (w : World), (Instr.index 9 (.string CC) (.int .i64 6)).run Tryz.prog w = .ok (.int .u8 46) w := i6
                        cases D2 with
                        | false =>
                          have HF := Lib.hid (HVQ.out 400 (ver_d2 HE2.out) (by decide))
                          clear HVQ HLQ HTQ HYQ
                          go_wp2_with fail
                          refine (HG1.out _).mono ?_; rintro e wq ⟨rfl, hwq⟩; subst hwq
                          go_wp2_with fail
                          refine (HG2.out _).mono ?_; rintro e wq ⟨rfl, hwq⟩; subst hwq
                          obtain ⟨m0, m1, m2, m3⟩ := HX3.out.four
                          have mf := HX3.out.fz
                          go_wp2_with fail
                          have HBt := Lib.hid (HB0.out.trans (HD3.out.mono (by have := HSZ.out; omega)))
                          have HKt := Lib.hid (cel_put4 HX3.out (.string ⟨#[]⟩) (.string ⟨#[]⟩) (.int .i64 0) (.slice none 0 0))
                          have HBf := Lib.hid (below_put4 HBt.out (Nat.le_refl _) (.string ⟨#[]⟩) (.string ⟨#[]⟩) (.int .i64 0) (.slice none 0 0))
                          clear m0 m1 m2 m3 mf
                          obtain ⟨m0, m1, m2, m3⟩ := HKt.out.four
                          unfold put4 at HBf m0 m1 m2 m3
                          refine bodyPost_ret (v := .tuple #[hdv z0, .int .i64 400]) (by simp [results, Tryz.results37, go_sem, m0, m1, m2, m3]; rfl) rfl ⟨hdv z0, by rw [HF.out], by rw [HF.out]; exact ho_zero _ _, by rw [HNN.out]; exact HBf.out⟩
                        | true =>
                          by_cases e2 : [x5, 46, x7] = [49, 46, 48] ∨ [x5, 46, x7] = [49, 46, 49]
                          · obtain ⟨V, hvl, hv01, hx7⟩ : ∃ V : Int, verL [72, 84, 84, 80, 47, x5, 46, x7] = (V, 200) ∧ (V = 0 ∨ V = 1) ∧ (x7.toNat : Int) = V + 48 := by
                              rcases e2 with e | e
                              · injection e with f0 e; injection e with f1 e; injection e with f2 e; subst f0; subst f2; exact ⟨0, rfl, .inl rfl, by decide⟩
                              · injection e with f0 e; injection e with f1 e; injection e with f2 e; subst f0; subst f2; exact ⟨1, rfl, .inr rfl, by decide⟩
                            have HQ12 := Lib.hid (show ((CC.toList == [72, 84, 84, 80, 47, 49, 46, 48]) = true) ∨ ((CC.toList == [72, 84, 84, 80, 47, 49, 46, 48]) = false ∧ (CC.toList == [72, 84, 84, 80, 47, 49, 46, 49]) = true) from by
                              rw [← HCC.out, bs_toList]
                              rcases e2 with e | e
                              · left; injection e with f0 e; injection e with f1 e; injection e with f2 e; subst f0; subst f2; rfl
                              · right; injection e with f0 e; injection e with f1 e; injection e with f2 e; subst f0; subst f2; exact ⟨rfl, rfl⟩)
                            have HX7 := Lib.hid hx7
                            have HV01 := Lib.hid hv01
                            have hwv : IntKind.u8.wrap ((x7.toNat : Int) - 48) = V := by rcases hv01 with h | h <;> rw [hx7, h] <;> decide
                            have hwi : IntKind.i64.wrap V = V := by rcases hv01 with h | h <;> rw [h] <;> decide
                            clear e2 HVQ HE1 HE2 hx7 hv01
                            by_cases hL : 2048 < b'.length
                            · have HF := Lib.hid (HLQ.out V hvl hL)
                              have tL : (2048 : Int) < b'.length := by omega
                              clear HLQ HTQ HYQ hL
                              rcases HQ12.out with q | ⟨q, q'⟩
                              · have qn : (CC.toList != [72, 84, 84, 80, 47, 49, 46, 48]) = false := by rw [bne, q]; rfl
                                go_wp2_with fail
                                refine (HG1.out _).mono ?_; rintro e wq ⟨rfl, hwq⟩; subst hwq
                                go_wp2_with fail
                                refine (HG2.out _).mono ?_; rintro e wq ⟨rfl, hwq⟩; subst hwq
                                obtain ⟨m0, m1, m2, m3⟩ := HX3.out.four
                                have mf := HX3.out.fz
                                go_wp2_with fail
                                have HBt := Lib.hid (HB0.out.trans (HD3.out.mono (by have := HSZ.out; omega)))
                                have HKt := Lib.hid (cel_put4 HX3.out (.string ⟨#[]⟩) (.string ⟨#[]⟩) (.int .i64 0) (.slice none 0 0))
                                have HBf := Lib.hid (below_put4 HBt.out (Nat.le_refl _) (.string ⟨#[]⟩) (.string ⟨#[]⟩) (.int .i64 0) (.slice none 0 0))
                                clear m0 m1 m2 m3 mf
                                obtain ⟨m0, m1, m2, m3⟩ := HKt.out.four
                                unfold put4 at HBf m0 m1 m2 m3
                                refine bodyPost_ret (v := .tuple #[hdv z0, .int .i64 414]) (by simp [results, Tryz.results37, go_sem, m0, m1, m2, m3]; rfl) rfl ⟨hdv z0, by rw [HF.out], by rw [HF.out]; exact ho_zero _ _, by rw [HNN.out]; exact HBf.out⟩
                              · have qn : (CC.toList != [72, 84, 84, 80, 47, 49, 46, 48]) = true := by rw [bne, q]; rfl
                                have qm : (CC.toList != [72, 84, 84, 80, 47, 49, 46, 49]) = false := by rw [bne, q']; rfl
                                go_wp2_with fail
                                refine (HG1.out _).mono ?_; rintro e wq ⟨rfl, hwq⟩; subst hwq
                                go_wp2_with fail
                                refine (HG2.out _).mono ?_; rintro e wq ⟨rfl, hwq⟩; subst hwq
                                obtain ⟨m0, m1, m2, m3⟩ := HX3.out.four
                                have mf := HX3.out.fz
                                go_wp2_with fail
                                have HBt := Lib.hid (HB0.out.trans (HD3.out.mono (by have := HSZ.out; omega)))
                                have HKt := Lib.hid (cel_put4 HX3.out (.string ⟨#[]⟩) (.string ⟨#[]⟩) (.int .i64 0) (.slice none 0 0))
                                have HBf := Lib.hid (below_put4 HBt.out (Nat.le_refl _) (.string ⟨#[]⟩) (.string ⟨#[]⟩) (.int .i64 0) (.slice none 0 0))
                                clear m0 m1 m2 m3 mf
                                obtain ⟨m0, m1, m2, m3⟩ := HKt.out.four
                                unfold put4 at HBf m0 m1 m2 m3
                                refine bodyPost_ret (v := .tuple #[hdv z0, .int .i64 414]) (by simp [results, Tryz.results37, go_sem, m0, m1, m2, m3]; rfl) rfl ⟨hdv z0, by rw [HF.out], by rw [HF.out]; exact ho_zero _ _, by rw [HNN.out]; exact HBf.out⟩
                            · have tL : ¬ ((2048 : Int) < b'.length) := by omega
                              have HTQ1 := Lib.hid (HTQ.out V hvl hL)
                              have HYQ1 := Lib.hid (HYQ.out V hvl hL)
                              clear HLQ HTQ HYQ hL
                              obtain ⟨K2, hK2⟩ : ∃ K, tgtD b' = K := ⟨_, rfl⟩
                              have HTG : Hid (∀ w, Calls Tryz.prog 58 #[.string (bs b')] w (Tells w (.bool K2))) := Lib.hid (fun w => by have := rtarget_any b' (by omega) w; rw [hK2] at this; exact this)
                              rw [hK2] at HTQ1 HYQ1
                              clear hK2 hvl
                              go_wp2_with fail
                              refine (HG1.out _).mono ?_; rintro e wq ⟨rfl, hwq⟩; subst hwq
                              go_wp2_with fail
                              refine (HG2.out _).mono ?_; rintro e wq ⟨rfl, hwq⟩; subst hwq
                              go_upto_region 12 with fail
                              go_cut [95] from 90 to 94 (fun s95 wx => s95 = .bool false ∧ wx = wq)
                              case first =>
                                rcases HQ12.out with q | ⟨q, q'⟩
                                · have qn : (CC.toList != [72, 84, 84, 80, 47, 49, 46, 48]) = false := by rw [bne, q]; rfl
                                  go_wp2_with fail
                                  go_meet
                                  exact ⟨rfl, rfl⟩
                                · have qn : (CC.toList != [72, 84, 84, 80, 47, 49, 46, 48]) = true := by rw [bne, q]; rfl
                                  have qm : (CC.toList != [72, 84, 84, 80, 47, 49, 46, 49]) = false := by rw [bne, q']; rfl
                                  go_wp2_with fail
                                  go_meet
                                  exact ⟨rfl, rfl⟩
                              case rest =>
                              obtain ⟨rfl, rfl⟩ := hcut
                              go_wp2_with fail
                              refine (HTG.out _).mono ?_; rintro e w4 ⟨rfl, hb4⟩
                              have HD4 := Lib.hid (bel_call HD3.out hb4)
                              have HX4 := Lib.hid (HX3.out.below (by simp) hb4)
                              have HT4 := Lib.hid (HT3.out.later hb4 HZ3.out)
                              have HW4 := Lib.hid (HW3.out.later hb4 HG3.out)
                              have HZ4 := Lib.hid (Nat.lt_of_lt_of_le HZ3.out hb4.size)
                              have hg2l : g2 < w4.heap.size := Nat.lt_of_lt_of_le HG3.out hb4.size
                              clear p0 p1 p2 hb4 HT3 HW3
                              cases K2 with
                              | false =>
                                have HF := Lib.hid (HTQ1.out rfl)
                                clear HTQ1 HYQ1
                                obtain ⟨m0, m1, m2, m3⟩ := HX4.out.four
                                have mf := HX4.out.fz
                                go_wp2_with fail
                                have HBt := Lib.hid (HB0.out.trans (HD4.out.mono (by have := HSZ.out; omega)))
                                have HKt := Lib.hid (cel_put4 HX4.out (.string ⟨#[]⟩) (.string ⟨#[]⟩) (.int .i64 0) (.slice none 0 0))
                                have HBf := Lib.hid (below_put4 HBt.out (Nat.le_refl _) (.string ⟨#[]⟩) (.string ⟨#[]⟩) (.int .i64 0) (.slice none 0 0))
                                clear m0 m1 m2 m3 mf
                                obtain ⟨m0, m1, m2, m3⟩ := HKt.out.four
                                unfold put4 at HBf m0 m1 m2 m3
                                refine bodyPost_ret (v := .tuple #[hdv z0, .int .i64 400]) (by simp [results, Tryz.results37, go_sem, m0, m1, m2, m3]; rfl) rfl ⟨hdv z0, by rw [HF.out], by rw [HF.out]; exact ho_zero _ _, by rw [HNN.out]; exact HBf.out⟩
                              | true =>
                                as_aux_lemma =>
                                have HQ4 := Lib.hid (HYQ1.out rfl)
                                clear HTQ1 HYQ1
                                have p0 : w4.cell? ⟨g2, o2, none⟩ = some (.string (bs a)) := HW4.out 0 (by simp)
                                have p1 : w4.cell? ⟨g2, o2 + 1, none⟩ = some (.string (bs b')) := HW4.out 1 (by simp)
                                go_wp2_with fail
                                go_region
                                have hba : Below w4.heap.size w4 (w4.alloc (.cells #[.string (bs a), .string (bs b'), .int .i64 V, .slice none 0 0] 42)).drew := ((Below.refl _ _).alloc (Nat.le_refl _) _).drew
                                have hxm : Cel (w4.alloc (.cells #[.string (bs a), .string (bs b'), .int .i64 V, .slice none 0 0] 42)).drew w4.heap.size [.string (bs a), .string (bs b'), .int .i64 V, .slice none 0 0] := (cel_new4 w4 (.string (bs a)) (.string (bs b')) (.int .i64 V) (.slice none 0 0) 42).below (by simp) (Below.refl _ _).drew
                                have hsm : (w4.alloc (.cells #[.string (bs a), .string (bs b'), .int .i64 V, .slice none 0 0] 42)).drew.heap.size = w4.heap.size + 1 := by simp
                                obtain ⟨w5, hw5⟩ : ∃ wx, (w4.alloc (.cells #[.string (bs a), .string (bs b'), .int .i64 V, .slice none 0 0] 42)).drew = wx := ⟨_, rfl⟩
                                rw [hw5] at hba hxm hsm ⊢
                                obtain ⟨M, hM⟩ : ∃ M, w4.heap.size = M := ⟨_, rfl⟩
                                have HNM := Lib.hid (show N < M by have := HD4.out.size; have := HSZ.out; omega)
                                have HGM := Lib.hid (show g1 < M by have := HZ4.out; omega)
                                have HD5S := Lib.hid (show W.heap.size ≤ M by have := HD4.out.size; omega)
                                have HD5 := Lib.hid (bel_call HD4.out hba)
                                have HX5 := Lib.hid (HX4.out.below (by simp) hba)
                                have HT5 := Lib.hid (HT4.out.later hba HZ4.out)
                                rw [hM] at hxm hsm ⊢
                                have HM5 := Lib.hid hxm
                                have HS5 := Lib.hid hsm
                                obtain ⟨R, hR⟩ : ∃ R, fldsA [] ls = R := ⟨_, rfl⟩
                                have HPR := Lib.hid (show (if R.2 ≠ 200 then (z0, R.2) else if hostL R.1 V = false then (z0, 400) else (⟨a, b', V, R.1⟩, 200)) = X by rw [← HQ4.out, par2, hR])
                                have HFT := Lib.hid (show R.1.length ≤ 32 ∧ ∀ x ∈ R.1, x.1.length ≤ 4096 ∧ x.2.length ≤ 4096 from by
                                  have q1 := (flds_len ls [] (by simp)).1
                                  have q2 := flds_fits 4096 ls [] (fun x hx => HLB.out.2 x (by simp [hx])) (by simp)
                                  rw [hR] at q1 q2
                                  exact ⟨q1, q2⟩)
                                have HR0 := Lib.hid (show fldsA [] (ls.drop (1 - 1)) = R from hR)
                                have HMM := Lib.hid hM
                                clear hba hxm hsm hw5 hM hR hg2l HT4 HW4 HX4 HQ4 p0 p1 tL
                                go_wp2_with fail
                                go_loopg [9] ls.length (fun n v9 wr => ∃ (j k : Nat) (acc : List Fd) (a8 : Option Addr) (c8 : Nat), j + n = ls.length + 1 ∧ v9 = .int .i64 j ∧ Hid (k + 1 = j) ∧ k ≤ 32 ∧ Hid (k = acc.length) ∧ Hid (Cel wr M [.string (bs a), .string (bs b'), .int .i64 V, .slice a8 k c8]) ∧ Hid (OwnF wr (M + 1) (.slice a8 k c8) acc) ∧ Hid (Cel wr N [.string ⟨#[]⟩, .string ⟨#[]⟩, .int .i64 0, .slice none 0 0]) ∧ Hid (Tx wr g1 o1 (l0 :: ls ++ [[]])) ∧ Hid (fldsA acc (ls.drop (j - 1)) = R) ∧ Hid (Below W.heap.size W wr) ∧ Hid (M + 1 ≤ wr.heap.size))
                                case atStart => exact ⟨1, 0, [], none, 0, by omega, rfl, Lib.hid rfl, by omega, Lib.hid rfl, HM5, Lib.hid (OwnF.nil _ _), HX5, HT5, HR0, HD5, Lib.hid (by have := HS5.out; omega)⟩
                                case round =>
                                  as_aux_lemma =>
                                  clear HM5 HX5 HT5 HR0 HD5
                                  obtain ⟨j, k, acc, a8, c8, hjn, rfl, HKJ, hk32, HKA, HM, HO, HX6, HT, HF0, HD6, HMS⟩ := hrel
                                  have hj1 : 1 ≤ j := by have := HKJ.out; omega
                                  by_cases hlt : j < ls.length + 1
                                  · have tj : (j : Int) < (NL : Int) - 1 := by have := HNL.out; omega
                                    have hp := HT.out j (by simp; omega)
                                    have hget : (l0 :: ls ++ [[]])[j]'(by simp; omega) = ls[j - 1]'(by omega) := by
                                      obtain ⟨i, rfl⟩ : ∃ i, j = i + 1 := ⟨j - 1, by omega⟩
                                      simp [List.getElem_append, show i < ls.length by omega]
                                    rw [hget] at hp
                                    have hdr : ls.drop (j - 1) = ls[j - 1]'(by omega) :: ls.drop (j - 1 + 1) := List.drop_eq_getElem_cons (by omega)
                                    have hF := HF0.out
                                    rw [hdr] at hF
                                    have hxl := HLB.out.2 (ls[j - 1]'(by omega)) (List.mem_cons_of_mem _ (List.getElem_mem _))
                                    obtain ⟨x, hx⟩ : ∃ x, ls[j - 1]'(by omega) = x := ⟨_, rfl⟩
                                    rw [hx] at hp hF hxl
                                    rw [show j - 1 + 1 = (j + 1) - 1 by omega] at hF
                                    have HFF := Lib.hid hF
                                    clear hget hdr hF HF0 hx
                                    have hgl : g1 < wr.heap.size := by have := HGM.out; have := HMS.out; omega
                                    by_cases h32 : 32 < j
                                    · have tg : (32 : Int) < j := by omega
                                      have HF := Lib.hid (show X = (z0, 431) by
                                        have := HKA.out
                                        have := HKJ.out
                                        rw [fldsA_stop (by omega)] at HFF
                                        rw [← HPR.out, ← HFF.out]
                                        exact if_pos (by decide))
                                      clear HFF HPR h32
                                      obtain ⟨m0, m1, m2, m3⟩ := HX6.out.four
                                      have mf := HX6.out.fz
                                      go_wp2_with fail
                                      have HBt := Lib.hid (HB0.out.trans (HD6.out.mono (by have := HSZ.out; omega)))
                                      have HKt := Lib.hid (cel_put4 HX6.out (.string ⟨#[]⟩) (.string ⟨#[]⟩) (.int .i64 0) (.slice none 0 0))
                                      have HBf := Lib.hid (below_put4 HBt.out (Nat.le_refl _) (.string ⟨#[]⟩) (.string ⟨#[]⟩) (.int .i64 0) (.slice none 0 0))
                                      clear m0 m1 m2 m3 mf
                                      obtain ⟨m0, m1, m2, m3⟩ := HKt.out.four
                                      unfold put4 at HBf m0 m1 m2 m3
                                      refine bodyPost_ret (v := .tuple #[hdv z0, .int .i64 431]) (by simp [results, Tryz.results37, go_sem, m0, m1, m2, m3]; rfl) rfl ⟨hdv z0, by rw [HF.out], by rw [HF.out]; exact ho_zero _ _, by rw [HNN.out]; exact HBf.out⟩
                                    · have tg : ¬ ((32 : Int) < j) := by omega
                                      have HH32 := Lib.hid (show acc.length ≠ 32 by have := HKA.out; have := HKJ.out; omega)
                                      have hal := ahd_len x
                                      have HAT := Lib.hid (fun h => ahd_at (l := x) h)
                                      have HAB := Lib.hid (fun (p : Nat) (h1 : p < (ahd x).length) (h2 : p < x.length) => ahd_before (l := x) h1 h2)
                                      have HTK := Lib.hid (ahd_take x)
                                      obtain ⟨na, hna⟩ : ∃ n, (ahd x).length = n := ⟨_, rfl⟩
                                      rw [hna] at hal HAT HAB HTK
                                      have HBD := Lib.hid (show x.drop (na + 1) = bhd x by rw [← hna]; exact bhd_drop x)
                                      have HNA := Lib.hid hna
                                      clear hna h32
                                      go_wp2_with fail
                                      go_loopg [10] na (fun n v10 wx => ∃ p : Nat, p + n = na ∧ v10 = .int .i64 p ∧ wr = wx)
                                      case atStart => exact ⟨0, by omega, rfl, rfl⟩
                                      case round =>
                                        as_aux_lemma =>
                                        obtain ⟨p, hpn, rfl, rfl⟩ := hrel
                                        by_cases hpl : p < x.length
                                        · have tp : (p : Int) < x.length := by omega
                                          have ixp : ∀ (w : World), (Instr.index 9 (.string (bs x)) (.int .i64 p)).run Tryz.prog w = .ok (.int .u8 ((x[p]).toNat : Nat)) w := fun w => ix_run x p hpl w
                                          by_cases hpa : p < na
                                          · have hyn := HAB.out p hpa hpl
                                            obtain ⟨y, hy⟩ : ∃ y, x[p] = y := ⟨_, rfl⟩
                                            rw [hy] at hyn
                                            have ty : ((y.toNat : Int) != 58) = true := (u8_ne (n := 58) (by decide) hyn).2
                                            simp only [hy] at ixp
                                            clear hy
                                            go_wp2_with fail
                                            go_roundg (na - (p + 1))
                                            case measure => omega
                                            case rel => exact ⟨p + 1, by omega, by go_num, rfl⟩
                                          · obtain rfl : p = na := by omega
                                            have h58 : x[p] = 58 := by have := HAT.out hpl; rw [List.getElem?_eq_getElem hpl] at this; exact Option.some.inj this
                                            rw [h58] at ixp
                                            have ixp : ∀ (w : World), (Instr.index 9 (.string (bs x)) (.int .i64 p)).run Tryz.prog w = .ok (.int .u8 58) w := ixp
                                            have te : ((p : Int) == x.length) = false := by rw [beq_eq_false_iff_ne]; omega
                                            have tk : ∀ (w : World), (Instr.slice 9 (.string (bs x)) none (some (.int .i64 p)) none).run Tryz.prog w = .ok (.string (bs (ahd x))) w := fun w => by have := take_run x p (by omega) w; rw [HTK.out] at this; exact this
                                            have fr : ∀ (w : World), (Instr.slice 9 (.string (bs x)) (some (.int .i64 ((p : Int) + 1))) none none).run Tryz.prog w = .ok (.string (bs (bhd x))) w := fun w => by have := from_run x (p + 1) (by omega) w; rw [HBD.out] at this; exact this
                                            have hbl := bhd_len x
                                            have HBK := Lib.hid (fun (hw : wordL (ahd x) 64 = true) (hv : valL (trimB (bhd x)) = true) => badF_ok (l := x) (by rw [HNA.out]; exact hpl) hw hv)
                                            have HB2 := Lib.hid (fun (hw : wordL (ahd x) 64 = false) => badF_2 (l := x) hw)
                                            have HB3 := Lib.hid (fun (hw : valL (trimB (bhd x)) = false) => badF_3 (l := x) hw)
                                            have hyl := trimB_len (bhd x)
                                            have HWD : Hid (∀ w, Calls Tryz.prog 56 #[.string (bs (ahd x)), .int .i64 64] w (Tells w (.bool (wordL (ahd x) 64)))) := Lib.hid (fun w => rword_any (ahd x) 64 (by have := HNA.out; omega) (by omega) w)
                                            have HTR : Hid (∀ w, Calls Tryz.prog 60 #[.string (bs (bhd x))] w (Tells w (.string (bs (trimB (bhd x)))))) := Lib.hid (fun w => rtrim_any (bhd x) (by omega) w)
                                            have HVA : Hid (∀ w, Calls Tryz.prog 59 #[.string (bs (trimB (bhd x)))] w (Tells w (.bool (valL (trimB (bhd x)))))) := Lib.hid (fun w => rvalue_any (trimB (bhd x)) (by omega) w)
                                            obtain ⟨k1, hk1⟩ : ∃ K, wordL (ahd x) 64 = K := ⟨_, rfl⟩
                                            obtain ⟨k3, hk3⟩ : ∃ K, valL (trimB (bhd x)) = K := ⟨_, rfl⟩
                                            rw [hk1] at HWD HBK HB2
                                            rw [hk3] at HVA HBK HB3
                                            obtain ⟨z, hz⟩ : ∃ z, ahd x = z := ⟨_, rfl⟩
                                            obtain ⟨u, hu⟩ : ∃ u, bhd x = u := ⟨_, rfl⟩
                                            obtain ⟨y, hy⟩ : ∃ y, trimB u = y := ⟨_, rfl⟩
                                            have HFA := Lib.hid (fun (h : badF x = false) => fldsA_go (acc := acc) (l := x) (r := ls.drop (j + 1 - 1)) HH32.out h)
                                            rw [hz] at HWD HFA
                                            simp only [hz] at tk
                                            rw [hu, hy] at HTR HVA HFA
                                            simp only [hu] at fr
                                            clear h58 hk1 hk3 hpa hbl hyl hz hu hy
                                            cases k1 with
                                            | false =>
                                              have HF := Lib.hid (show X = (z0, 400) by
                                                rw [← HPR.out, ← HFF.out, fldsA_bad HH32.out (HB2.out rfl)]
                                                exact if_pos (by decide))
                                              clear HPR HFF HFA HBK HB2 HB3
                                              go_wp2_with fail
                                              refine (HWD.out _).mono ?_; rintro e w7 ⟨rfl, hb7⟩
                                              have HD7 := Lib.hid (bel_call HD6.out hb7)
                                              have HX7 := Lib.hid (HX6.out.below (by simp) hb7)
                                              clear hb7 hp
                                              obtain ⟨m0, m1, m2, m3⟩ := HX7.out.four
                                              have mf := HX7.out.fz
                                              go_wp2_with fail
                                              have HBt := Lib.hid (HB0.out.trans (HD7.out.mono (by have := HSZ.out; omega)))
                                              have HKt := Lib.hid (cel_put4 HX7.out (.string ⟨#[]⟩) (.string ⟨#[]⟩) (.int .i64 0) (.slice none 0 0))
                                              have HBf := Lib.hid (below_put4 HBt.out (Nat.le_refl _) (.string ⟨#[]⟩) (.string ⟨#[]⟩) (.int .i64 0) (.slice none 0 0))
                                              clear m0 m1 m2 m3 mf
                                              obtain ⟨m0, m1, m2, m3⟩ := HKt.out.four
                                              unfold put4 at HBf m0 m1 m2 m3
                                              refine bodyPost_ret (v := .tuple #[hdv z0, .int .i64 400]) (by simp [results, Tryz.results37, go_sem, m0, m1, m2, m3]; rfl) rfl ⟨hdv z0, by rw [HF.out], by rw [HF.out]; exact ho_zero _ _, by rw [HNN.out]; exact HBf.out⟩
                                            | true =>
                                              go_wp2_with fail
                                              refine (HWD.out _).mono ?_; rintro e w7 ⟨rfl, hb7⟩
                                              have HD7 := Lib.hid (bel_call HD6.out hb7)
                                              have HX7 := Lib.hid (HX6.out.below (by simp) hb7)
                                              have HM7 := Lib.hid (HM.out.below (by simp) hb7)
                                              have HO7 := Lib.hid (HO.out.below hb7)
                                              have HT7 := Lib.hid (HT.out.later hb7 hgl)
                                              have HS7 := Lib.hid (Nat.le_trans HMS.out hb7.size)
                                              have hp7 := (hb7.cell (p := ⟨g1, o1 + j, none⟩) hgl).trans hp
                                              have hgl7 := Nat.lt_of_lt_of_le hgl hb7.size
                                              clear hb7 hp hgl HWD HD6 HX6 HM HO HT HMS
                                              go_wp2_with fail
                                              refine (HTR.out _).mono ?_; rintro e w8 ⟨rfl, hb8⟩
                                              have HD8 := Lib.hid (bel_call HD7.out hb8)
                                              have HX8 := Lib.hid (HX7.out.below (by simp) hb8)
                                              have HM8 := Lib.hid (HM7.out.below (by simp) hb8)
                                              have HO8 := Lib.hid (HO7.out.below hb8)
                                              have HT8 := Lib.hid (HT7.out.later hb8 hgl7)
                                              have HS8 := Lib.hid (Nat.le_trans HS7.out hb8.size)
                                              have hp8 := (hb8.cell (p := ⟨g1, o1 + j, none⟩) hgl7).trans hp7
                                              have hgl8 := Nat.lt_of_lt_of_le hgl7 hb8.size
                                              clear hb8 hp7 hgl7 HD7 HX7 HM7 HO7 HT7 HS7
                                              go_wp2_with fail
                                              refine (HVA.out _).mono ?_; rintro e w9 ⟨rfl, hb9⟩
                                              have HD9 := Lib.hid (bel_call HD8.out hb9)
                                              have HX9 := Lib.hid (HX8.out.below (by simp) hb9)
                                              have HM9 := Lib.hid (HM8.out.below (by simp) hb9)
                                              have HO9 := Lib.hid (HO8.out.below hb9)
                                              have HT9 := Lib.hid (HT8.out.later hb9 hgl8)
                                              have HS9 := Lib.hid (Nat.le_trans HS8.out hb9.size)
                                              have hp9 := (hb9.cell (p := ⟨g1, o1 + j, none⟩) hgl8).trans hp8
                                              have hgl9 := Nat.lt_of_lt_of_le hgl8 hb9.size
                                              clear hb9 hp8 hgl8 HD8 HX8 HM8 HO8 HT8 HS8 HVA
                                              cases k3 with
                                              | false =>
                                                have HF := Lib.hid (show X = (z0, 400) by
                                                  rw [← HPR.out, ← HFF.out, fldsA_bad HH32.out (HB3.out rfl)]
                                                  exact if_pos (by decide))
                                                clear HPR HFF HFA HBK HB2 HB3 hp9
                                                obtain ⟨m0, m1, m2, m3⟩ := HX9.out.four
                                                have mf := HX9.out.fz
                                                go_wp2_with fail
                                                have HBt := Lib.hid (HB0.out.trans (HD9.out.mono (by have := HSZ.out; omega)))
                                                have HKt := Lib.hid (cel_put4 HX9.out (.string ⟨#[]⟩) (.string ⟨#[]⟩) (.int .i64 0) (.slice none 0 0))
                                                have HBf := Lib.hid (below_put4 HBt.out (Nat.le_refl _) (.string ⟨#[]⟩) (.string ⟨#[]⟩) (.int .i64 0) (.slice none 0 0))
                                                clear m0 m1 m2 m3 mf
                                                obtain ⟨m0, m1, m2, m3⟩ := HKt.out.four
                                                unfold put4 at HBf m0 m1 m2 m3
                                                refine bodyPost_ret (v := .tuple #[hdv z0, .int .i64 400]) (by simp [results, Tryz.results37, go_sem, m0, m1, m2, m3]; rfl) rfl ⟨hdv z0, by rw [HF.out], by rw [HF.out]; exact ho_zero _ _, by rw [HNN.out]; exact HBf.out⟩
                                              | true =>
                                                as_aux_lemma =>
                                                have HFN := Lib.hid (show fldsA (acc ++ [(z, y)]) (ls.drop (j + 1 - 1)) = R by rw [← HFF.out, HFA.out (HBK.out (by trivial) (by trivial))])
                                                have HAPP := Lib.hid (fun (wc : World) (hb : Below w9.drew.heap.size w9.drew wc) => (show ∃ a9 c9 W2, (Builtin.append_ #[40, 40] 40 #[.slice a8 k c8, .slice (some ⟨wc.heap.size, 0, none⟩) 1 1]).run Tryz.prog (wc.alloc (.cells #[.string (bs z), .string (bs y)] 71)) = .ok (.slice a9 (k + 1) c9) W2 ∧
                                                    W2.cell? ⟨M, 3, none⟩ = some (.slice a8 k c8) ∧ W2.frozen? ⟨M, 3, none⟩ = false ∧ wc.cell? ⟨M, 3, none⟩ = some (.slice a8 k c8) ∧ M < wc.heap.size ∧ wc.cell? ⟨g1, o1 + j, none⟩ = some (.string (bs x)) ∧ g1 < wc.heap.size ∧ W2.cell? ⟨g1, o1 + j, none⟩ = some (.string (bs x)) ∧
                                                    Cel (W2.setCell ⟨M, 3, none⟩ (.slice a9 (k + 1) c9)) M [.string (bs a), .string (bs b'), .int .i64 V, .slice a9 (k + 1) c9] ∧ OwnF (W2.setCell ⟨M, 3, none⟩ (.slice a9 (k + 1) c9)) (M + 1) (.slice a9 (k + 1) c9) (acc ++ [(z, y)]) ∧ Cel (W2.setCell ⟨M, 3, none⟩ (.slice a9 (k + 1) c9)) N [.string ⟨#[]⟩, .string ⟨#[]⟩, .int .i64 0, .slice none 0 0] ∧ Tx (W2.setCell ⟨M, 3, none⟩ (.slice a9 (k + 1) c9)) g1 o1 (l0 :: ls ++ [[]]) ∧ Below W.heap.size W (W2.setCell ⟨M, 3, none⟩ (.slice a9 (k + 1) c9)) ∧ M + 1 ≤ (W2.setCell ⟨M, 3, none⟩ (.slice a9 (k + 1) c9)).heap.size from by
                                                  have hb0 : Below w9.heap.size w9 wc := (Below.refl _ w9).drew.trans hb
                                                  have hMc := HM9.out.below (by simp) hb0
                                                  have hOc := HO9.out.below hb0
                                                  have hXc := HX9.out.below (by simp) hb0
                                                  have hTc := HT9.out.later hb0 hgl9
                                                  have hSc := Nat.le_trans HS9.out hb0.size
                                                  have hDc := bel_call HD9.out hb0
                                                  obtain ⟨a9, c9, W2, r1, r2, r3, r4, r5, r6, r7⟩ := box_app (z, y) hOc HKA.out hMc (fun q hq => by have := (OwnF.lt hOc q hq).1; omega) hSc (by omega)
                                                  refine ⟨a9, c9, W2, r1, r2, r3 3, hMc.c 3 (by simp), by omega, (hb0.cell (p := ⟨g1, o1 + j, none⟩) hgl9).trans hp9, Nat.lt_of_lt_of_le hgl9 hb0.size, (World.cell?_setCell_other W2 ⟨M, 3, none⟩ ⟨g1, o1 + j, none⟩ (.slice a9 (k + 1) c9) (fun e => by have := HGM.out; have e := congrArg Addr.block e; simp only at e; omega)).symm.trans ((r7.cell (p := ⟨g1, o1 + j, none⟩) (Nat.lt_of_lt_of_le hgl9 hb0.size) (fun h => by have := HGM.out; have h : g1 = M ∨ M + 1 ≤ g1 := h; omega)).trans ((hb0.cell (p := ⟨g1, o1 + j, none⟩) hgl9).trans hp9)), r4, r5, hXc.aside (by simp) r7 (fun h => by have := HNM.out; omega), fun i hi => (r7.cell (p := ⟨g1, o1 + i, none⟩) (Nat.lt_of_lt_of_le hgl9 hb0.size) (fun h => by have := HGM.out; have h : g1 = M ∨ M + 1 ≤ g1 := h; omega)).trans (hTc i hi), below_aside hDc r7 (fun q hq => ⟨by have := hDc.size; omega, fun h => by have := HD5S.out; have h : q = M ∨ M + 1 ≤ q := h; omega⟩), by have := r7.size; omega⟩))
                                                have hm3 := HM9.out.c 3 (by simp)
                                                have hm3 : w9.cell? ⟨M, 3, none⟩ = some (.slice a8 k c8) := hm3
                                                have hml : M < w9.heap.size := by have := HS9.out; omega
                                                have tjn : j < NL := by have := HNL.out; omega
                                                clear HFF HFA HBK HB2 HB3 HX9 HM9 HO9 HT9 HPR
                                                go_wp2_with fail
                                                have twr : IntKind.i64.wrap ((p : Int) + 1) = (p : Int) + 1 := IntWalk.i64_in _ (by omega)
                                                refine wp_region_till (S := (fun wx => wx.cell? ⟨M, 3, none⟩ = some (.slice a8 k c8) ∧ wx.cell? ⟨g1, o1 + j, none⟩ = some (.string (bs x)))) 20 (by kernel_rfl) ⟨hm3, hp9⟩ (fun hHeld => ?_)
                                                refine till_take (i := 0) (oi := { dst := some 178, op := Op.fieldAddr 42 (Operand.tmp 8) 3, type := 0, pos := "ref.go:211", after := #[], guard := none }) (v := ?_) rfl (by kernel_rfl) (by kernel_rfl) (by kernel_rfl) (fun _ _ _ h => h) (Or.inl ⟨by rfl, ?_⟩) (by assumption) ?_
                                                rotate_left 1
                                                · intro w hSw; (try dsimp only at hSw); go_simp; try (with_reducible rfl)
                                                try simp only [Act.put, List.setIfInBounds_toArray, List.set_cons_zero, List.set_cons_succ]
                                                refine till_take (i := 1) (oi := { dst := some 179, op := Op.load 40 (Operand.tmp 178), type := 40, pos := "ref.go:211", after := #[{ on := 0, ground := Ground.data }], guard := none }) (v := ?_) rfl (by kernel_rfl) (by kernel_rfl) (by kernel_rfl) (fun _ _ _ h => h) (Or.inl ⟨by rfl, ?_⟩) (by assumption) ?_
                                                rotate_left 1
                                                · intro w hSw; (try dsimp only at hSw); go_simp; try (with_reducible rfl)
                                                try simp only [Act.put, List.setIfInBounds_toArray, List.set_cons_zero, List.set_cons_succ]
                                                refine till_take (i := 2) (oi := { dst := some 180, op := Op.move (Operand.tmp 4), type := 89, pos := "ref.go:211", after := #[], guard := none }) (v := ?_) rfl (by kernel_rfl) (by kernel_rfl) (by kernel_rfl) (fun _ _ _ h => h) (Or.inl ⟨by rfl, ?_⟩) (by assumption) ?_
                                                rotate_left 1
                                                · intro w hSw; (try dsimp only at hSw); go_simp; try (with_reducible rfl)
                                                try simp only [Act.put, List.setIfInBounds_toArray, List.set_cons_zero, List.set_cons_succ]
                                                refine till_take (i := 3) (oi := { dst := some 181, op := Op.move (Operand.tmp 9), type := 3, pos := "ref.go:211", after := #[], guard := none }) (v := ?_) rfl (by kernel_rfl) (by kernel_rfl) (by kernel_rfl) (fun _ _ _ h => h) (Or.inl ⟨by rfl, ?_⟩) (by assumption) ?_
                                                rotate_left 1
                                                · intro w hSw; (try dsimp only at hSw); go_simp; try (with_reducible rfl)
                                                try simp only [Act.put, List.setIfInBounds_toArray, List.set_cons_zero, List.set_cons_succ]
                                                refine till_take (i := 4) (oi := { dst := some 182, op := Op.indexAddr 89 (Operand.tmp 180) (Operand.tmp 181), type := 0, pos := "ref.go:211", after := #[{ on := 2, ground := Ground.data }, { on := 3, ground := Ground.data }], guard := none }) (v := ?_) rfl (by kernel_rfl) (by kernel_rfl) (by kernel_rfl) (fun _ _ _ h => h) (Or.inl ⟨by rfl, ?_⟩) (by assumption) ?_
                                                rotate_left 1
                                                · intro w hSw; (try dsimp only at hSw); go_simp; try (with_reducible rfl)
                                                try simp only [Act.put, List.setIfInBounds_toArray, List.set_cons_zero, List.set_cons_succ]
                                                refine till_take (i := 5) (oi := { dst := some 183, op := Op.load 9 (Operand.tmp 182), type := 9, pos := "ref.go:211", after := #[{ on := 4, ground := Ground.data }], guard := none }) (v := ?_) rfl (by kernel_rfl) (by kernel_rfl) (by kernel_rfl) (fun _ _ _ h => h) (Or.inl ⟨by rfl, ?_⟩) (by assumption) ?_
                                                rotate_left 1
                                                · intro w hSw; (try dsimp only at hSw); go_simp; try (with_reducible rfl)
                                                try simp only [Act.put, List.setIfInBounds_toArray, List.set_cons_zero, List.set_cons_succ]
                                                refine till_take (i := 6) (oi := { dst := some 184, op := Op.move (Operand.tmp 10), type := 3, pos := "ref.go:211", after := #[], guard := none }) (v := ?_) rfl (by kernel_rfl) (by kernel_rfl) (by kernel_rfl) (fun _ _ _ h => h) (Or.inl ⟨by rfl, ?_⟩) (by assumption) ?_
                                                rotate_left 1
                                                · intro w hSw; (try dsimp only at hSw); go_simp; try (with_reducible rfl)
                                                try simp only [Act.put, List.setIfInBounds_toArray, List.set_cons_zero, List.set_cons_succ]
                                                refine till_take (i := 7) (oi := { dst := some 185, op := Op.slice 9 (Operand.tmp 183) none (some (Operand.tmp 184)) none, type := 9, pos := "ref.go:211", after := #[{ on := 5, ground := Ground.data }, { on := 6, ground := Ground.data }], guard := none }) (v := ?_) rfl (by kernel_rfl) (by kernel_rfl) (by kernel_rfl) (fun _ _ _ h => h) (Or.inl ⟨by rfl, ?_⟩) (by assumption) ?_
                                                rotate_left 1
                                                · intro w hSw; (try dsimp only at hSw); go_simp; try (with_reducible rfl)
                                                try simp only [Act.put, List.setIfInBounds_toArray, List.set_cons_zero, List.set_cons_succ]
                                                refine till_take (i := 8) (oi := { dst := some 186, op := Op.move (Operand.tmp 4), type := 89, pos := "ref.go:211", after := #[], guard := none }) (v := ?_) rfl (by kernel_rfl) (by kernel_rfl) (by kernel_rfl) (fun _ _ _ h => h) (Or.inl ⟨by rfl, ?_⟩) (by assumption) ?_
                                                rotate_left 1
                                                · intro w hSw; (try dsimp only at hSw); go_simp; try (with_reducible rfl)
                                                try simp only [Act.put, List.setIfInBounds_toArray, List.set_cons_zero, List.set_cons_succ]
                                                refine till_take (i := 9) (oi := { dst := some 187, op := Op.move (Operand.tmp 9), type := 3, pos := "ref.go:211", after := #[], guard := none }) (v := ?_) rfl (by kernel_rfl) (by kernel_rfl) (by kernel_rfl) (fun _ _ _ h => h) (Or.inl ⟨by rfl, ?_⟩) (by assumption) ?_
                                                rotate_left 1
                                                · intro w hSw; (try dsimp only at hSw); go_simp; try (with_reducible rfl)
                                                try simp only [Act.put, List.setIfInBounds_toArray, List.set_cons_zero, List.set_cons_succ]
                                                refine till_take (i := 10) (oi := { dst := some 188, op := Op.indexAddr 89 (Operand.tmp 186) (Operand.tmp 187), type := 0, pos := "ref.go:211", after := #[{ on := 8, ground := Ground.data }, { on := 9, ground := Ground.data }], guard := none }) (v := ?_) rfl (by kernel_rfl) (by kernel_rfl) (by kernel_rfl) (fun _ _ _ h => h) (Or.inl ⟨by rfl, ?_⟩) (by assumption) ?_
                                                rotate_left 1
                                                · intro w hSw; (try dsimp only at hSw); go_simp; try (with_reducible rfl)
                                                try simp only [Act.put, List.setIfInBounds_toArray, List.set_cons_zero, List.set_cons_succ]
                                                refine till_take (i := 11) (oi := { dst := some 189, op := Op.load 9 (Operand.tmp 188), type := 9, pos := "ref.go:211", after := #[{ on := 10, ground := Ground.data }], guard := none }) (v := ?_) rfl (by kernel_rfl) (by kernel_rfl) (by kernel_rfl) (fun _ _ _ h => h) (Or.inl ⟨by rfl, ?_⟩) (by assumption) ?_
                                                rotate_left 1
                                                · intro w hSw; (try dsimp only at hSw); go_simp; try (with_reducible rfl)
                                                try simp only [Act.put, List.setIfInBounds_toArray, List.set_cons_zero, List.set_cons_succ]
                                                refine till_take (i := 12) (oi := { dst := some 190, op := Op.move (Operand.tmp 10), type := 3, pos := "ref.go:211", after := #[], guard := none }) (v := ?_) rfl (by kernel_rfl) (by kernel_rfl) (by kernel_rfl) (fun _ _ _ h => h) (Or.inl ⟨by rfl, ?_⟩) (by assumption) ?_
                                                rotate_left 1
                                                · intro w hSw; (try dsimp only at hSw); go_simp; try (with_reducible rfl)
                                                try simp only [Act.put, List.setIfInBounds_toArray, List.set_cons_zero, List.set_cons_succ]
                                                refine till_take (i := 13) (oi := { dst := some 191, op := Op.binOp BinOp.add 3 (Operand.tmp 190) (Operand.const (Value.int IntKind.i64 1)) 3, type := 3, pos := "ref.go:211", after := #[{ on := 12, ground := Ground.data }], guard := none }) (v := ?_) rfl (by kernel_rfl) (by kernel_rfl) (by kernel_rfl) (fun _ _ _ h => h) (Or.inl ⟨by rfl, ?_⟩) (by assumption) ?_
                                                rotate_left 1
                                                · intro w hSw; (try dsimp only at hSw); go_simp; try (with_reducible rfl)
                                                try simp only [Act.put, List.setIfInBounds_toArray, List.set_cons_zero, List.set_cons_succ]
                                                refine till_take (i := 14) (oi := { dst := some 192, op := Op.slice 9 (Operand.tmp 189) (some (Operand.tmp 191)) none none, type := 9, pos := "ref.go:211", after := #[{ on := 11, ground := Ground.data }, { on := 13, ground := Ground.data }], guard := none }) (v := ?_) rfl (by kernel_rfl) (by kernel_rfl) (by kernel_rfl) (fun _ _ _ h => h) (Or.inl ⟨by rfl, ?_⟩) (by assumption) ?_
                                                rotate_left 1
                                                · intro w hSw; (try dsimp only at hSw); go_simp; try (with_reducible rfl)
                                                try simp only [Act.put, List.setIfInBounds_toArray, List.set_cons_zero, List.set_cons_succ]
                                                refine till_ready (rs := [15]) (by kernel_rfl) (by simp) ?_
                                                refine TillAll.cons (o := { dst := some 193, op := Op.call { callee := Callee.value (Operand.func 60), args := #[Operand.tmp 192], argTypes := #[9] }, type := 9, pos := "ref.go:211", after := #[{ on := 14, ground := Ground.data }], guard := none }) rfl (fun K hK => ?_) (TillAll.nil)
                                                go_simp
                                                refine (HTR.out _).mono ?_; rintro en wc ⟨rfl, hb⟩
                                                obtain ⟨a9, c9, W2, hrun, k2, k3, k4, k5, k6, k7, k8, HZ⟩ := HAPP.out wc hb
                                                have HRUN := Lib.hid hrun
                                                replace HZ := Lib.hid HZ
                                                have HQ4 := Lib.hid (And.intro k4 k6)
                                                clear hrun hb
                                                refine hK.out _ _ HQ4.out (fun hHeld => ?_)
                                                clear hK K
                                                try simp only [Act.put, List.setIfInBounds_toArray, List.set_cons_zero, List.set_cons_succ]
                                                refine till_take (i := 16) (oi := { dst := some 194, op := Op.build 71 #[(0, Operand.tmp 185), (1, Operand.tmp 193)], type := 71, pos := "ref.go:211", after := #[{ on := 7, ground := Ground.data }, { on := 15, ground := Ground.data }], guard := none }) (v := ?_) rfl (by kernel_rfl) (by kernel_rfl) (by kernel_rfl) (fun _ _ _ h => h) (Or.inl ⟨by rfl, ?_⟩) (by assumption) ?_
                                                rotate_left 1
                                                · intro w hSw; (try dsimp only at hSw); go_simp; try (with_reducible rfl)
                                                try simp only [Act.put, List.setIfInBounds_toArray, List.set_cons_zero, List.set_cons_succ]
                                                refine till_ready (rs := [17]) (by kernel_rfl) (by simp) ?_
                                                refine TillAll.cons (o := { dst := some 195, op := Op.buildSlice 40 1 #[(0, Operand.tmp 194)], type := 40, pos := "ref.go:211", after := #[{ on := 16, ground := Ground.data }], guard := none }) rfl (fun K hK => ?_) (TillAll.nil)
                                                go_simp
                                                refine hK.out _ _ ⟨(((Below.refl _ wc).alloc (Nat.le_refl _) _).cell (p := ⟨M, 3, none⟩) k5).trans k4, (((Below.refl _ wc).alloc (Nat.le_refl _) _).cell (p := ⟨g1, o1 + j, none⟩) k7).trans k6⟩ (fun hHeld => ?_)
                                                clear hK K
                                                try simp only [Act.put, List.setIfInBounds_toArray, List.set_cons_zero, List.set_cons_succ]
                                                refine till_ready (rs := [18]) (by kernel_rfl) (by simp) ?_
                                                refine TillAll.cons (o := { dst := some 196, op := Op.call { callee := Callee.builtin Builtin.append, args := #[Operand.tmp 179, Operand.tmp 195], argTypes := #[40, 40] }, type := 40, pos := "ref.go:211", after := #[{ on := 1, ground := Ground.data }, { on := 17, ground := Ground.data }, { on := 15, ground := Ground.chain }], guard := none }) rfl (fun K hK => ?_) (TillAll.nil)
                                                refine step_app_run rfl (.tmp 179) (.tmp 195) 40 40 rfl rfl rfl HRUN.out ?_
                                                refine hK.out _ _ ⟨k2, k8⟩ (fun hHeld => ?_)
                                                clear hK K
                                                try simp only [Act.put, List.setIfInBounds_toArray, List.set_cons_zero, List.set_cons_succ]
                                                refine till_take (i := 19) (oi := { dst := some 197, op := Op.fieldAddr 42 (Operand.tmp 8) 3, type := 0, pos := "ref.go:211", after := #[{ on := 0, ground := Ground.phase }, { on := 1, ground := Ground.phase }, { on := 2, ground := Ground.phase }, { on := 3, ground := Ground.phase }, { on := 4, ground := Ground.phase }, { on := 5, ground := Ground.phase }, { on := 6, ground := Ground.phase }, { on := 7, ground := Ground.phase }, { on := 8, ground := Ground.phase }, { on := 9, ground := Ground.phase }, { on := 10, ground := Ground.phase }, { on := 11, ground := Ground.phase }, { on := 12, ground := Ground.phase }, { on := 13, ground := Ground.phase }, { on := 14, ground := Ground.phase }, { on := 15, ground := Ground.phase }, { on := 16, ground := Ground.phase }, { on := 17, ground := Ground.phase }, { on := 18, ground := Ground.phase }], guard := none }) (v := ?_) rfl (by kernel_rfl) (by kernel_rfl) (by kernel_rfl) (fun _ _ _ h => h) (Or.inl ⟨by rfl, ?_⟩) (by assumption) ?_
                                                rotate_left 1
                                                · intro w hSw; (try dsimp only at hSw); go_simp; try (with_reducible rfl)
                                                try simp only [Act.put, List.setIfInBounds_toArray, List.set_cons_zero, List.set_cons_succ]
                                                refine till_ready (rs := [20]) (by kernel_rfl) (by simp) ?_
                                                refine TillAll.last (o := { dst := none, op := Op.store 40 (Operand.tmp 197) (Operand.tmp 196), type := 0, pos := "ref.go:211", after := #[{ on := 19, ground := Ground.data }, { on := 18, ground := Ground.data }, { on := 18, ground := Ground.chain }, { on := 0, ground := Ground.phase }, { on := 1, ground := Ground.phase }, { on := 2, ground := Ground.phase }, { on := 3, ground := Ground.phase }, { on := 4, ground := Ground.phase }, { on := 5, ground := Ground.phase }, { on := 6, ground := Ground.phase }, { on := 7, ground := Ground.phase }, { on := 8, ground := Ground.phase }, { on := 9, ground := Ground.phase }, { on := 10, ground := Ground.phase }, { on := 11, ground := Ground.phase }, { on := 12, ground := Ground.phase }, { on := 13, ground := Ground.phase }, { on := 14, ground := Ground.phase }, { on := 15, ground := Ground.phase }, { on := 16, ground := Ground.phase }, { on := 17, ground := Ground.phase }, { on := 18, ground := Ground.phase }], guard := none }) rfl (fun K hK => ?_) (TillAll.nil)
                                                go_simp
                                                refine hK.out _ _ trivial (fun hHeld => ?_)
                                                clear hK K
                                                try simp only [Act.put, List.setIfInBounds_toArray, List.set_cons_zero, List.set_cons_succ]
                                                refine till_done (by kernel_rfl) ?_ _
                                                clear hHeld
                                                go_wp2_with fail
                                                go_roundg (ls.length + 1 - (j + 1))
                                                case measure => omega
                                                case rel => exact ⟨j + 1, k + 1, acc ++ [(z, y)], a9, c9, by omega, by go_num, Lib.hid (by have := HKJ.out; omega), by have := HKJ.out; omega, Lib.hid (by have := HKA.out; rw [List.length_append, List.length_singleton]; omega), Lib.hid HZ.out.1, Lib.hid HZ.out.2.1, Lib.hid HZ.out.2.2.1, Lib.hid HZ.out.2.2.2.1, HFN, Lib.hid HZ.out.2.2.2.2.1, Lib.hid HZ.out.2.2.2.2.2⟩
                                        · have tp : ¬ ((p : Int) < x.length) := by omega
                                          have te : ((p : Int) == x.length) = true := by rw [beq_iff_eq]; omega
                                          have HF := Lib.hid (show X = (z0, 400) by
                                            have := HNA.out
                                            rw [← HPR.out, ← HFF.out, fldsA_bad HH32.out (badF_1 (by omega))]
                                            exact if_pos (by decide))
                                          clear HPR HFF
                                          obtain ⟨m0, m1, m2, m3⟩ := HX6.out.four
                                          have mf := HX6.out.fz
                                          go_wp2_with fail
                                          have HBt := Lib.hid (HB0.out.trans (HD6.out.mono (by have := HSZ.out; omega)))
                                          have HKt := Lib.hid (cel_put4 HX6.out (.string ⟨#[]⟩) (.string ⟨#[]⟩) (.int .i64 0) (.slice none 0 0))
                                          have HBf := Lib.hid (below_put4 HBt.out (Nat.le_refl _) (.string ⟨#[]⟩) (.string ⟨#[]⟩) (.int .i64 0) (.slice none 0 0))
                                          clear m0 m1 m2 m3 mf
                                          obtain ⟨m0, m1, m2, m3⟩ := HKt.out.four
                                          unfold put4 at HBf m0 m1 m2 m3
                                          refine bodyPost_ret (v := .tuple #[hdv z0, .int .i64 400]) (by simp [results, Tryz.results37, go_sem, m0, m1, m2, m3]; rfl) rfl ⟨hdv z0, by rw [HF.out], by rw [HF.out]; exact ho_zero _ _, by rw [HNN.out]; exact HBf.out⟩
                                  · have tj : ¬ ((j : Int) < (NL : Int) - 1) := by have := HNL.out; omega
                                    have HRR := Lib.hid (show (acc, 200) = R by rw [← HF0.out, List.drop_of_length_le (by omega)]; rfl)
                                    have HPX := Lib.hid (show (if hostL acc V = false then (z0, 400) else (⟨a, b', V, acc⟩, 200)) = X from by have h := HPR.out; rw [← HRR.out] at h; rw [← h]; exact (if_neg (by simp)).symm)
                                    have HFC := Lib.hid (show acc.length ≤ 32 ∧ ∀ x ∈ acc, x.1.length ≤ 4096 ∧ x.2.length ≤ 4096 from by have := HFT.out; rw [← HRR.out] at this; exact this)
                                    have HHs := Lib.hid (rhosts_any (w := wr) (u := .agg #[.string (bs a), .string (bs b'), .int .i64 V, .slice a8 k c8]) (h := ⟨a, b', V, acc⟩) (by have := HKA.out; subst this; exact hv_own HO.out (by have := HFC.out.1; omega)) (Nat.le_refl _) ⟨by have := HFC.out.1; simp only; omega, fun x hx => by have := HFC.out.2 x hx; omega⟩)
                                    obtain ⟨KH, hKH⟩ : ∃ K, hostL acc V = K := ⟨_, rfl⟩
                                    simp only [hKH] at HHs
                                    rw [hKH] at HPX
                                    clear hKH HF0 HPR HRR hlt
                                    obtain ⟨y0, y1, y2, y3⟩ := HM.out.four
                                    go_wp2_with fail
                                    refine (HHs.out).mono ?_; rintro e w7 ⟨rfl, hb7⟩
                                    have HD7 := Lib.hid (bel_call HD6.out hb7)
                                    have HX7 := Lib.hid (HX6.out.below (by simp) hb7)
                                    have HM7 := Lib.hid (HM.out.below (by simp) hb7)
                                    have HO7 := Lib.hid (HO.out.below hb7)
                                    clear hb7 y0 y1 y2 y3 HHs
                                    cases KH with
                                    | false =>
                                      have HF := Lib.hid (show X = (z0, 400) by rw [← HPX.out, if_pos rfl])
                                      clear HPX
                                      obtain ⟨m0, m1, m2, m3⟩ := HX7.out.four
                                      have mf := HX7.out.fz
                                      go_wp2_with fail
                                      have HBt := Lib.hid (HB0.out.trans (HD7.out.mono (by have := HSZ.out; omega)))
                                      have HKt := Lib.hid (cel_put4 HX7.out (.string ⟨#[]⟩) (.string ⟨#[]⟩) (.int .i64 0) (.slice none 0 0))
                                      have HBf := Lib.hid (below_put4 HBt.out (Nat.le_refl _) (.string ⟨#[]⟩) (.string ⟨#[]⟩) (.int .i64 0) (.slice none 0 0))
                                      clear m0 m1 m2 m3 mf
                                      obtain ⟨m0, m1, m2, m3⟩ := HKt.out.four
                                      unfold put4 at HBf m0 m1 m2 m3
                                      refine bodyPost_ret (v := .tuple #[hdv z0, .int .i64 400]) (by simp [results, Tryz.results37, go_sem, m0, m1, m2, m3]; rfl) rfl ⟨hdv z0, by rw [HF.out], by rw [HF.out]; exact ho_zero _ _, by rw [HNN.out]; exact HBf.out⟩
                                    | true =>
                                      have HF := Lib.hid (show X = (⟨a, b', V, acc⟩, 200) by rw [← HPX.out, if_neg (by simp)])
                                      clear HPX
                                      obtain ⟨y0, y1, y2, y3⟩ := HM7.out.four
                                      obtain ⟨m0, m1, m2, m3⟩ := HX7.out.four
                                      have mf := HX7.out.fz
                                      go_wp2_with fail
                                      have HBt := Lib.hid (HB0.out.trans (HD7.out.mono (by have := HSZ.out; omega)))
                                      have HKt := Lib.hid (cel_put4 HX7.out (.string (bs a)) (.string (bs b')) (.int .i64 V) (.slice a8 k c8))
                                      have HBf := Lib.hid (below_put4 HBt.out (Nat.le_refl _) (.string (bs a)) (.string (bs b')) (.int .i64 V) (.slice a8 k c8))
                                      have HOf := Lib.hid (show OwnF (put4 w7 N (.string (bs a)) (.string (bs b')) (.int .i64 V) (.slice a8 k c8)) w.heap.size (.slice a8 k c8) acc from by
                                        have hlt := World.ownsRow.lt HO7.out
                                        have := HNM.out
                                        refine row_base (row_aside HO7.out (aside_put4 w7 N _ _ _ _) (fun q hk hg => ?_)) (by rw [HNN.out]; omega)
                                        have := (hlt q hk).1
                                        omega)
                                      clear m0 m1 m2 m3 mf y0 y1 y2 y3
                                      obtain ⟨m0, m1, m2, m3⟩ := HKt.out.four
                                      unfold put4 at HBf HOf m0 m1 m2 m3
                                      refine bodyPost_ret (v := .tuple #[.agg #[.string (bs a), .string (bs b'), .int .i64 V, .slice a8 k c8], .int .i64 200]) (by simp [results, Tryz.results37, go_sem, m0, m1, m2, m3]) rfl ⟨_, by rw [HF.out], by rw [HF.out]; exact ⟨_, rfl, HOf.out⟩, by rw [HNN.out]; exact HBf.out⟩
                          · have e0 : [x5, 46, x7] ≠ [49, 46, 48] := fun h => e2 (.inl h)
                            have e1 : [x5, 46, x7] ≠ [49, 46, 49] := fun h => e2 (.inr h)
                            have HF := Lib.hid (HVQ.out 505 (ver_505 HE1.out HE2.out e0 e1) (by decide))
                            have q1 : (CC.toList == [72, 84, 84, 80, 47, 49, 46, 48]) = false := by rw [← HCC.out, bs_toList]; simpa using e0
                            have q1n : (CC.toList != [72, 84, 84, 80, 47, 49, 46, 48]) = true := by rw [bne, q1]; rfl
                            have q2 : (CC.toList == [72, 84, 84, 80, 47, 49, 46, 49]) = false := by rw [← HCC.out, bs_toList]; simpa using e1
                            have q2n : (CC.toList != [72, 84, 84, 80, 47, 49, 46, 49]) = true := by rw [bne, q2]; rfl
                            clear HVQ HLQ HTQ HYQ e0 e1 e2
                            go_wp2_with fail
                            refine (HG1.out _).mono ?_; rintro e wq ⟨rfl, hwq⟩; subst hwq
                            go_wp2_with fail
                            refine (HG2.out _).mono ?_; rintro e wq ⟨rfl, hwq⟩; subst hwq
                            obtain ⟨m0, m1, m2, m3⟩ := HX3.out.four
                            have mf := HX3.out.fz
                            go_wp2_with fail
                            have HBt := Lib.hid (HB0.out.trans (HD3.out.mono (by have := HSZ.out; omega)))
                            have HKt := Lib.hid (cel_put4 HX3.out (.string ⟨#[]⟩) (.string ⟨#[]⟩) (.int .i64 0) (.slice none 0 0))
                            have HBf := Lib.hid (below_put4 HBt.out (Nat.le_refl _) (.string ⟨#[]⟩) (.string ⟨#[]⟩) (.int .i64 0) (.slice none 0 0))
                            clear m0 m1 m2 m3 mf
                            obtain ⟨m0, m1, m2, m3⟩ := HKt.out.four
                            unfold put4 at HBf m0 m1 m2 m3
                            refine bodyPost_ret (v := .tuple #[hdv z0, .int .i64 505]) (by simp [results, Tryz.results37, go_sem, m0, m1, m2, m3]; rfl) rfl ⟨hdv z0, by rw [HF.out], by rw [HF.out]; exact ho_zero _ _, by rw [HNN.out]; exact HBf.out⟩
                      · have t6 : ((x6.toNat : Int) != 46) = true := (u8_ne (n := 46) (by decide) hdot).2
                        have HF := Lib.hid (HVQ.out 400 (ver_dot hdot) (by decide))
                        clear HVQ HLQ HTQ HYQ hdot
                        go_wp2_with fail
                        refine (HG1.out _).mono ?_; rintro e wq ⟨rfl, hwq⟩; subst hwq
                        obtain ⟨m0, m1, m2, m3⟩ := HX3.out.four
                        have mf := HX3.out.fz
                        go_wp2_with fail
                        have HBt := Lib.hid (HB0.out.trans (HD3.out.mono (by have := HSZ.out; omega)))
                        have HKt := Lib.hid (cel_put4 HX3.out (.string ⟨#[]⟩) (.string ⟨#[]⟩) (.int .i64 0) (.slice none 0 0))
                        have HBf := Lib.hid (below_put4 HBt.out (Nat.le_refl _) (.string ⟨#[]⟩) (.string ⟨#[]⟩) (.int .i64 0) (.slice none 0 0))
                        clear m0 m1 m2 m3 mf
                        obtain ⟨m0, m1, m2, m3⟩ := HKt.out.four
                        unfold put4 at HBf m0 m1 m2 m3
                        refine bodyPost_ret (v := .tuple #[hdv z0, .int .i64 400]) (by simp [results, Tryz.results37, go_sem, m0, m1, m2, m3]; rfl) rfl ⟨hdv z0, by rw [HF.out], by rw [HF.out]; exact ho_zero _ _, by rw [HNN.out]; exact HBf.out⟩
                  · have HF := Lib.hid (HVQ.out 400 (ver_pre hp) (by decide))
                    have q5 : ((bs [x0, x1, x2, x3, x4]).toList == [72, 84, 84, 80, 47]) = false := by rw [bs_toList, beq_eq_false_iff_ne]; exact hp
                    have q5n : ((bs [x0, x1, x2, x3, x4]).toList != [72, 84, 84, 80, 47]) = true := by rw [bne, q5]; rfl
                    clear HVQ HLQ HTQ HYQ hp
                    obtain ⟨m0, m1, m2, m3⟩ := HX3.out.four
                    have mf := HX3.out.fz
                    go_wp2_with fail
                    have HBt := Lib.hid (HB0.out.trans (HD3.out.mono (by have := HSZ.out; omega)))
                    have HKt := Lib.hid (cel_put4 HX3.out (.string ⟨#[]⟩) (.string ⟨#[]⟩) (.int .i64 0) (.slice none 0 0))
                    have HBf := Lib.hid (below_put4 HBt.out (Nat.le_refl _) (.string ⟨#[]⟩) (.string ⟨#[]⟩) (.int .i64 0) (.slice none 0 0))
                    clear m0 m1 m2 m3 mf
                    obtain ⟨m0, m1, m2, m3⟩ := HKt.out.four
                    unfold put4 at HBf m0 m1 m2 m3
                    refine bodyPost_ret (v := .tuple #[hdv z0, .int .i64 400]) (by simp [results, Tryz.results37, go_sem, m0, m1, m2, m3]; rfl) rfl ⟨hdv z0, by rw [HF.out], by rw [HF.out]; exact ho_zero _ _, by rw [HNN.out]; exact HBf.out⟩
                · have HF := Lib.hid (HVQ.out 400 (ver_len h8) (by decide))
                  have t8 : ((c.length : Int) != 8) = true := by rw [bne_iff_ne]; omega
                  obtain ⟨m0, m1, m2, m3⟩ := HX3.out.four
                  have mf := HX3.out.fz
                  go_wp2_with fail
                  have HBt := Lib.hid (HB0.out.trans (HD3.out.mono (by have := HSZ.out; omega)))
                  have HKt := Lib.hid (cel_put4 HX3.out (.string ⟨#[]⟩) (.string ⟨#[]⟩) (.int .i64 0) (.slice none 0 0))
                  have HBf := Lib.hid (below_put4 HBt.out (Nat.le_refl _) (.string ⟨#[]⟩) (.string ⟨#[]⟩) (.int .i64 0) (.slice none 0 0))
                  clear m0 m1 m2 m3 mf
                  obtain ⟨m0, m1, m2, m3⟩ := HKt.out.four
                  unfold put4 at HBf m0 m1 m2 m3
                  refine bodyPost_ret (v := .tuple #[hdv z0, .int .i64 400]) (by simp [results, Tryz.results37, go_sem, m0, m1, m2, m3]; rfl) rfl ⟨hdv z0, by rw [HF.out], by rw [HF.out]; exact ho_zero _ _, by rw [HNN.out]; exact HBf.out⟩
      · have HF := Lib.hid (show X = (z0, 400) by rw [← HQ2.out, par1_no (HFN.out h3) (by decide)])
        have t3 : (((P.length : Nat) : Int) != 3) = true := by rw [bne_iff_ne]; omega
        obtain ⟨m0, m1, m2, m3⟩ := HX2.out.four
        have mf := HX2.out.fz
        go_wp2_with fail
        have HBt := Lib.hid (HB0.out.trans (HD2.out.mono (by have := HSZ.out; omega)))
        have HKt := Lib.hid (cel_put4 HX2.out (.string ⟨#[]⟩) (.string ⟨#[]⟩) (.int .i64 0) (.slice none 0 0))
        have HBf := Lib.hid (below_put4 HBt.out (Nat.le_refl _) (.string ⟨#[]⟩) (.string ⟨#[]⟩) (.int .i64 0) (.slice none 0 0))
        clear m0 m1 m2 m3 mf
        obtain ⟨m0, m1, m2, m3⟩ := HKt.out.four
        unfold put4 at HBf m0 m1 m2 m3
        refine bodyPost_ret (v := .tuple #[hdv z0, .int .i64 400]) (by simp [results, Tryz.results37, go_sem, m0, m1, m2, m3]; rfl) rfl ⟨hdv z0, by rw [HF.out], by rw [HF.out]; exact ho_zero _ _, by rw [HNN.out]; exact HBf.out⟩
end Go.Proofs.YtkoohdacneflfaaGreatDoor
