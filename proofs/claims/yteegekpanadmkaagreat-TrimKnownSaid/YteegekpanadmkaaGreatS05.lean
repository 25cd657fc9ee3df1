/-
  read, where names stand as their bytes.
-/
import Derived.Test.YteegekpanadmkaaGreatS04
import Derived.Test.YteegekpanadmkaaGreatS03
import Derived.Test.YteegekpanadmkaaGreatS01
import Derived.Test.YteegekpanadmkaaGreatShelf
import Derived.Lib.FrozenHead
import Derived.BigQuiet
namespace Go.Proofs.YteegekpanadmkaaGreat
open Go.RowKit Go.Shelf
set_option linter.unusedVariables false
set_option linter.unusedSimpArgs false
set_option maxRecDepth 100000

set_option maxHeartbeats 8000000 in
theorem read_plain {w : World} {s p e : Nat} {vb : Value} {b : List UInt8} {lo hi : Nat} {F : Nat → Got} (t : Int) (ht : (Lit.int .i64 t).wf = true) (hS : Sl w lo hi vb (iz b)) (hhi : hi ≤ w.heap.size) (hbl : b.length ≤ 1000000) (hpe : p ≤ e) (he : e ≤ b.length)
    (hfind : ∀ wx, Sl wx lo hi vb (iz b) → hi ≤ wx.heap.size → ∀ p : Nat, Calls Tryz.prog 171 #[vb, .int .i64 p] wx (Tells wx (gotV (F p)))) :
    Calls Tryz.prog 170 #[.agg #[vb, .int .i64 s, .int .i64 p, .int .i64 e, (.func (.func 171) #[] #[]), .slice none 0 0], .int .i64 t] w (ReadPost w (goP F b s e (kinds t) p [])) := by
  have hmf : ∀ (fn : Fn) (first cap : Array Value) (w : World), (Instr.makeFunc fn first cap).run Tryz.prog w = .ok (.func fn first cap) w := fun _ _ _ _ => rfl
  have HPt := Lib.hid (fun w => parts_any w)
  obtain ⟨R, hR⟩ : ∃ R, goP F b s e (kinds t) p [] = R := ⟨_, rfl⟩
  rw [hR]
  have HR := Lib.hid hR
  have HSM0 := Lib.hid (kinds_small t).2
  have HL0 := Lib.hid (kinds_small t).1
  have HSH := Lib.hid hS
  have HFD := Lib.hid hfind
  obtain ⟨av, cv, rfl, _⟩ := hS
  rw [iz_len] at HSH HFD ⊢
  clear hR hfind
  go_enter_defers Tryz.func170, Tryz.ntmps170
  go_wp2_with fail
  refine (HPt.out _).mono ?_
  rintro e0 w1 ⟨m, rfl, hb1, hlook⟩
  have HB1 := Lib.hid hb1
  rcases hlook t ht with ⟨hk, hl⟩ | ⟨v, hrow, hl⟩
  · have hrw := row_r (W := w1)
    have hbw := bel_call HB1.out hrw.2
    obtain ⟨ks, hks⟩ : ∃ ks, [PK.rst] = ks := ⟨_, rfl⟩
    rw [hk, hks] at HR HSM0 HL0
    have HN := Lib.hid (show ks.length = 1 by rw [← hks]; rfl)
    have HROW := Lib.hid (show RowK (w1.alloc (.cells #[.func (.func 177) #[] #[]] 228)) (w1.heap.size + 1) (.slice (some ⟨w1.heap.size, 0, none⟩) 1 1) ks from hks ▸ hrw.1)
    obtain ⟨HRR0, HCS0, HKC0, HSLA0, HFI0, HBAD0, HFIN0⟩ := rd_setup (f := 171) hbw HSH.out hhi HFD.out
    have HRR := Lib.hid HRR0
    have HCS := Lib.hid HCS0
    have HKC := Lib.hid HKC0
    have HSLA := Lib.hid HSLA0
    have HFI := Lib.hid HFI0
    have HBAD := Lib.hid HBAD0
    have HFIN := Lib.hid HFIN0
    have HSM := HSM0
    clear HRR0 HCS0 HKC0 HSLA0 HFI0 HBAD0 HFIN0 hbw hrw hks hb1 hlook HB1 HPt
    go_wp2_with fail
    obtain ⟨w4, hw4⟩ : ∃ w4, w1.alloc (.cells #[.func (.func 177) #[] #[]] 228) = w4 := ⟨_, rfl⟩
    rw [hw4] at HROW HRR HCS HKC HSLA HFI HBAD HFIN ⊢
    obtain ⟨mm, hmm⟩ : ∃ mm, w1.heap.size + 1 = mm := ⟨_, rfl⟩
    obtain ⟨gg, hgg⟩ : ∃ gg, w1.heap.size = gg := ⟨_, rfl⟩
    rw [hmm, hgg] at HROW
    rw [hgg]
    clear hw4 hmm hgg
    obtain ⟨B, hB⟩ : ∃ B, w4.heap.size = B := ⟨_, rfl⟩
    have HB := Lib.hid hB
    rw [hB] at HRR HKC HSLA HFI HBAD HFIN
    clear hB
    go_loopg [22] 1 (fun g v22 wr => ∃ (k q : Nat) (acc : List Pc), k + g = 1 ∧ v22 = .int .i64 k ∧ q ≤ e ∧ acc.length = k ∧ Hid (Rr wr B w.heap.size (.slice av b.length cv) (.func (.func 171) #[] #[]) s q e acc) ∧ Hid (Aside (RG B w.heap.size) w4 wr) ∧ Hid (goP F b s e (ks.drop k) q acc = R))
    case atStart => exact ⟨0, p, [], by omega, rfl, hpe, rfl, HRR, Aside.refl _ _, HR⟩
    case round =>
      obtain ⟨k, q, acc, hk, rfl, hqe, hacc, HRr, HAs, HG⟩ := hrel
      by_cases hlt0 : k < 1
      · have hlt : k < ks.length := by have := HN.out; omega
        have hrow := (HROW.out).over (by omega) HCS.out (Nat.le_of_eq HB.out) HAs.out
        obtain ⟨g0, c0, _, he0, hcell⟩ := hrow
        injection he0 with he1 he2 he3
        injection he1 with he1
        injection he1 with he1 _ _
        subst he1
        clear he2 he3
        obtain ⟨u, hu, hpv⟩ := hcell k hlt
        have hg := HG.out
        rw [List.drop_eq_getElem_cons hlt, goP] at hg
        have hle := fun x y => step_le (F := F) (b := b) (s := s) (x := x) (q := y) hqe (k := ks[k])
        have hsm := HSM.out ks[k] (List.getElem_mem hlt)
        have HSL := Lib.hid (HSLA.out _ HAs.out)
        have HFO := Lib.hid (HFI.out.later HAs.out)
        have HST : Hid (∀ k0, ks[k] = k0 → stepP F b s e q ks[k] = stepP F b s e q k0) := fun k0 h => by rw [h]
        obtain ⟨k0, hk0⟩ : ∃ k0, ks[k] = k0 := ⟨_, rfl⟩
        rw [hk0] at hpv hg hle hsm
        obtain ⟨Y, hY⟩ : ∃ Y, stepP F b s e q k0 = Y := ⟨_, rfl⟩
        rw [hY] at hg hle
        clear hcell HST hk0
        cases k0 with
        | fix n =>
          obtain ⟨bx, _, rfl, hbx⟩ := hpv
          have HC : Hid (Calls Tryz.prog 186 #[.pointer (some ⟨w.heap.size, 0, none⟩), .pointer (some ⟨bx, 0, none⟩)] wr (StepPost wr B w.heap.size (.slice av b.length cv) (.func (.func 171) #[] #[]) s e acc Y)) := hY ▸ fixedR_any HRr.out HSL.out he hqe (by have := hsm n rfl; omega) hbl hbx (by omega)
          clear hY
          rcases Y with ⟨x, q'⟩ | ⟨cc, aa⟩
          · have hq' := hle x q' rfl
            have HG2 := Lib.hid hg
            have HCC := Lib.hid (show Calls Tryz.prog 186 #[.pointer (some ⟨w.heap.size, 0, none⟩), .pointer (some ⟨bx, 0, none⟩)] wr (Gone wr B w.heap.size (.slice av b.length cv) (.func (.func 171) #[] #[]) s e q' (acc ++ [x])) from HC.out)
            clear hg hle hsm HC
            go_wp2_with fail
            refine HCC.out.mono ?_; rintro en w5 ⟨rfl, hr5, ha5⟩
            have HR5 := Lib.hid hr5
            have HA5 := Lib.hid (HAs.out.trans ha5)
            clear hr5 ha5
            go_wp2_with fail
            go_roundg (1 - (k + 1))
            case measure => omega
            case rel => exact ⟨k + 1, q', acc ++ [x], by omega, by go_num, hq', by rw [List.length_append, hacc]; rfl, HR5, HA5, HG2⟩
          · have hRb : R = .bad cc aa := hg.symm
            subst hRb
            have HCC := Lib.hid (show Calls Tryz.prog 186 #[.pointer (some ⟨w.heap.size, 0, none⟩), .pointer (some ⟨bx, 0, none⟩)] wr (Lost wr B w.heap.size cc aa) from HC.out)
            clear hg hle hsm HC
            go_wp2_with fail
            refine HCC.out.mono ?_; rintro en w5 ⟨rfl, ha5⟩
            have HAd := Lib.hid (HAs.out.trans ha5)
            obtain ⟨k0, k1, k2, f2, f3⟩ := HKC.out _ HAd.out
            refine leaves_cons (f := 175) (args := #[.pointer (some ⟨w.heap.size + 1, 0, none⟩), .pointer (some ⟨w.heap.size + 1 + 1, 0, none⟩)]) (by simp) (by simp [go_sem]) ?_
            refine (mcatch_fault (w.heap.size + 1) (w.heap.size + 1 + 1) (by omega) cc aa _ _ k0 k1 k2 f2 f3).mono ?_
            rintro e9 u' w9 ⟨rfl, rfl, hc9⟩
            obtain ⟨_, m0, m1, m2⟩ := id hc9
            simp [Leaves, settle, results, Tryz.results170, go_sem, m0, m1, m2]
            exact HBAD.out _ _ _ _ HAd.out hc9
        | nam =>
          have hpv : u = _ := hpv; subst hpv
          have HC : Hid (Calls Tryz.prog 182 #[.pointer (some ⟨w.heap.size, 0, none⟩)] wr (StepPost wr B w.heap.size (.slice av b.length cv) (.func (.func 171) #[] #[]) s e acc Y)) := hY ▸ nameR_plain HRr.out HFO.out (by omega) (by omega)
          clear hY
          rcases Y with ⟨x, q'⟩ | ⟨cc, aa⟩
          · have hq' := hle x q' rfl
            have HG2 := Lib.hid hg
            have HCC := Lib.hid (show Calls Tryz.prog 182 #[.pointer (some ⟨w.heap.size, 0, none⟩)] wr (Gone wr B w.heap.size (.slice av b.length cv) (.func (.func 171) #[] #[]) s e q' (acc ++ [x])) from HC.out)
            clear hg hle hsm HC
            go_wp2_with fail
            refine HCC.out.mono ?_; rintro en w5 ⟨rfl, hr5, ha5⟩
            have HR5 := Lib.hid hr5
            have HA5 := Lib.hid (HAs.out.trans ha5)
            clear hr5 ha5
            go_wp2_with fail
            go_roundg (1 - (k + 1))
            case measure => omega
            case rel => exact ⟨k + 1, q', acc ++ [x], by omega, by go_num, hq', by rw [List.length_append, hacc]; rfl, HR5, HA5, HG2⟩
          · have hRb : R = .bad cc aa := hg.symm
            subst hRb
            have HCC := Lib.hid (show Calls Tryz.prog 182 #[.pointer (some ⟨w.heap.size, 0, none⟩)] wr (Lost wr B w.heap.size cc aa) from HC.out)
            clear hg hle hsm HC
            go_wp2_with fail
            refine HCC.out.mono ?_; rintro en w5 ⟨rfl, ha5⟩
            have HAd := Lib.hid (HAs.out.trans ha5)
            obtain ⟨k0, k1, k2, f2, f3⟩ := HKC.out _ HAd.out
            refine leaves_cons (f := 175) (args := #[.pointer (some ⟨w.heap.size + 1, 0, none⟩), .pointer (some ⟨w.heap.size + 1 + 1, 0, none⟩)]) (by simp) (by simp [go_sem]) ?_
            refine (mcatch_fault (w.heap.size + 1) (w.heap.size + 1 + 1) (by omega) cc aa _ _ k0 k1 k2 f2 f3).mono ?_
            rintro e9 u' w9 ⟨rfl, rfl, hc9⟩
            obtain ⟨_, m0, m1, m2⟩ := id hc9
            simp [Leaves, settle, results, Tryz.results170, go_sem, m0, m1, m2]
            exact HBAD.out _ _ _ _ HAd.out hc9
        | txt =>
          have hpv : u = _ := hpv; subst hpv
          have HC : Hid (Calls Tryz.prog 183 #[.pointer (some ⟨w.heap.size, 0, none⟩)] wr (StepPost wr B w.heap.size (.slice av b.length cv) (.func (.func 171) #[] #[]) s e acc Y)) := hY ▸ textsR_any HRr.out HSL.out he hqe hbl (by omega)
          clear hY
          rcases Y with ⟨x, q'⟩ | ⟨cc, aa⟩
          · have hq' := hle x q' rfl
            have HG2 := Lib.hid hg
            have HCC := Lib.hid (show Calls Tryz.prog 183 #[.pointer (some ⟨w.heap.size, 0, none⟩)] wr (Gone wr B w.heap.size (.slice av b.length cv) (.func (.func 171) #[] #[]) s e q' (acc ++ [x])) from HC.out)
            clear hg hle hsm HC
            go_wp2_with fail
            refine HCC.out.mono ?_; rintro en w5 ⟨rfl, hr5, ha5⟩
            have HR5 := Lib.hid hr5
            have HA5 := Lib.hid (HAs.out.trans ha5)
            clear hr5 ha5
            go_wp2_with fail
            go_roundg (1 - (k + 1))
            case measure => omega
            case rel => exact ⟨k + 1, q', acc ++ [x], by omega, by go_num, hq', by rw [List.length_append, hacc]; rfl, HR5, HA5, HG2⟩
          · have hRb : R = .bad cc aa := hg.symm
            subst hRb
            have HCC := Lib.hid (show Calls Tryz.prog 183 #[.pointer (some ⟨w.heap.size, 0, none⟩)] wr (Lost wr B w.heap.size cc aa) from HC.out)
            clear hg hle hsm HC
            go_wp2_with fail
            refine HCC.out.mono ?_; rintro en w5 ⟨rfl, ha5⟩
            have HAd := Lib.hid (HAs.out.trans ha5)
            obtain ⟨k0, k1, k2, f2, f3⟩ := HKC.out _ HAd.out
            refine leaves_cons (f := 175) (args := #[.pointer (some ⟨w.heap.size + 1, 0, none⟩), .pointer (some ⟨w.heap.size + 1 + 1, 0, none⟩)]) (by simp) (by simp [go_sem]) ?_
            refine (mcatch_fault (w.heap.size + 1) (w.heap.size + 1 + 1) (by omega) cc aa _ _ k0 k1 k2 f2 f3).mono ?_
            rintro e9 u' w9 ⟨rfl, rfl, hc9⟩
            obtain ⟨_, m0, m1, m2⟩ := id hc9
            simp [Leaves, settle, results, Tryz.results170, go_sem, m0, m1, m2]
            exact HBAD.out _ _ _ _ HAd.out hc9
        | rst =>
          have hpv : u = _ := hpv; subst hpv
          have HC : Hid (Calls Tryz.prog 177 #[.pointer (some ⟨w.heap.size, 0, none⟩)] wr (StepPost wr B w.heap.size (.slice av b.length cv) (.func (.func 171) #[] #[]) s e acc Y)) := hY ▸ restR_any HRr.out HSL.out he hqe (by omega)
          clear hY
          rcases Y with ⟨x, q'⟩ | ⟨cc, aa⟩
          · have hq' := hle x q' rfl
            have HG2 := Lib.hid hg
            have HCC := Lib.hid (show Calls Tryz.prog 177 #[.pointer (some ⟨w.heap.size, 0, none⟩)] wr (Gone wr B w.heap.size (.slice av b.length cv) (.func (.func 171) #[] #[]) s e q' (acc ++ [x])) from HC.out)
            clear hg hle hsm HC
            go_wp2_with fail
            refine HCC.out.mono ?_; rintro en w5 ⟨rfl, hr5, ha5⟩
            have HR5 := Lib.hid hr5
            have HA5 := Lib.hid (HAs.out.trans ha5)
            clear hr5 ha5
            go_wp2_with fail
            go_roundg (1 - (k + 1))
            case measure => omega
            case rel => exact ⟨k + 1, q', acc ++ [x], by omega, by go_num, hq', by rw [List.length_append, hacc]; rfl, HR5, HA5, HG2⟩
          · have hRb : R = .bad cc aa := hg.symm
            subst hRb
            have HCC := Lib.hid (show Calls Tryz.prog 177 #[.pointer (some ⟨w.heap.size, 0, none⟩)] wr (Lost wr B w.heap.size cc aa) from HC.out)
            clear hg hle hsm HC
            go_wp2_with fail
            refine HCC.out.mono ?_; rintro en w5 ⟨rfl, ha5⟩
            have HAd := Lib.hid (HAs.out.trans ha5)
            obtain ⟨k0, k1, k2, f2, f3⟩ := HKC.out _ HAd.out
            refine leaves_cons (f := 175) (args := #[.pointer (some ⟨w.heap.size + 1, 0, none⟩), .pointer (some ⟨w.heap.size + 1 + 1, 0, none⟩)]) (by simp) (by simp [go_sem]) ?_
            refine (mcatch_fault (w.heap.size + 1) (w.heap.size + 1 + 1) (by omega) cc aa _ _ k0 k1 k2 f2 f3).mono ?_
            rintro e9 u' w9 ⟨rfl, rfl, hc9⟩
            obtain ⟨_, m0, m1, m2⟩ := id hc9
            simp [Leaves, settle, results, Tryz.results170, go_sem, m0, m1, m2]
            exact HBAD.out _ _ _ _ HAd.out hc9
      · have hke : k = ks.length := by have := HN.out; omega
        have hg := HG.out
        rw [List.drop_eq_nil_of_le (by omega), goP] at hg
        have c2 := HRr.out.c2
        have c3 := HRr.out.c3
        have t1 : ¬ ((k : Int) < 1) := by omega
        by_cases hlast : q < e
        · rw [if_pos hlast] at hg
          subst hg
          have t2 : decide ((q : Int) < e) = true := by simp; omega
          have HFl := Lib.hid (rfail_any HRr.out)
          go_wp2_with fail
          refine HFl.out.mono ?_; rintro en w5 ⟨rfl, rfl⟩
          have HAd := Lib.hid (HAs.out)
          obtain ⟨k0, k1, k2, f2, f3⟩ := HKC.out _ HAd.out
          refine leaves_cons (f := 175) (args := #[.pointer (some ⟨w.heap.size + 1, 0, none⟩), .pointer (some ⟨w.heap.size + 1 + 1, 0, none⟩)]) (by simp) (by simp [go_sem]) ?_
          refine (mcatch_fault (w.heap.size + 1) (w.heap.size + 1 + 1) (by omega) 4 s _ _ k0 k1 k2 f2 f3).mono ?_
          rintro e9 u' w9 ⟨rfl, rfl, hc9⟩
          obtain ⟨_, m0, m1, m2⟩ := id hc9
          simp [Leaves, settle, results, Tryz.results170, go_sem, m0, m1, m2]
          exact HBAD.out _ _ _ _ HAd.out hc9
        · rw [if_neg hlast] at hg
          subst hg
          have t2 : decide ((q : Int) < e) = false := by simp; omega
          obtain ⟨vp, c5, hown⟩ := HRr.out.c5
          obtain ⟨ap, cp, hvp⟩ := hown.shape
          obtain ⟨zl, hzl⟩ : ∃ zl, acc.length = zl := ⟨_, rfl⟩
          rw [hzl] at hvp
          subst hvp
          clear hzl
          have HOwn := Lib.hid hown
          obtain ⟨k0, k1, k2, f2, f3⟩ := HKC.out _ HAs.out
          have HF := Lib.hid (HFIN.out _ _ _ HAs.out HOwn.out)
          have f20 := f2 0
          have f30 := f3 0
          have f31 := f3 1
          clear hown f2 f3
          go_wp2_with fail
          obtain ⟨Wf, hWf, x0, x1, x2, ho, hb⟩ := HF.out
          rw [← hWf]
          clear hWf
          refine leaves_cons (f := 175) (args := #[.pointer (some ⟨w.heap.size + 1, 0, none⟩), .pointer (some ⟨w.heap.size + 1 + 1, 0, none⟩)]) (by simp) (by simp [go_sem]) ?_
          refine (mcatch_idle ⟨w.heap.size + 1, 0, none⟩ ⟨w.heap.size + 1 + 1, 0, none⟩ _).mono ?_
          rintro en u' w9 ⟨rfl, rfl, rfl⟩
          have hal : Below Wf.heap.size Wf (Wf.alloc (.cells #[.int .i64 0, .int .i64 0] 220)) := (Below.refl _ Wf).alloc (Nat.le_refl _) _
          have a0 := cell_later hal x0
          have a1 := cell_later hal x1
          have a2 := cell_later hal x2
          simp [Leaves, settle, results, Tryz.results170, go_sem, a0, a1, a2]
          exact ⟨_, rfl, ho.below hal, hb.alloc hb.size _⟩
  · have hrow1 := hrow
    obtain ⟨gg, cg, _, hv, _⟩ := hrow
    subst hv
    obtain ⟨ks, hks⟩ : ∃ ks, kinds t = ks := ⟨_, rfl⟩
    rw [hks] at HR HSM0 HL0 hrow1 hl
    obtain ⟨nn, hn⟩ : ∃ nn, ks.length = nn := ⟨_, rfl⟩
    have HN := Lib.hid hn
    rw [hn] at hl hrow1 HL0
    have HROW := Lib.hid hrow1
    obtain ⟨HRR0, HCS0, HKC0, HSLA0, HFI0, HBAD0, HFIN0⟩ := rd_setup (f := 171) hb1 HSH.out hhi HFD.out
    have HRR := Lib.hid HRR0
    have HCS := Lib.hid HCS0
    have HKC := Lib.hid HKC0
    have HSLA := Lib.hid HSLA0
    have HFI := Lib.hid HFI0
    have HBAD := Lib.hid HBAD0
    have HFIN := Lib.hid HFIN0
    have HSM := HSM0
    have hn3 := HL0.out
    clear HRR0 HCS0 HKC0 HSLA0 HFI0 HBAD0 HFIN0 hrow1 hks hn hb1 hlook HB1 HPt
    go_wp2_with fail
    obtain ⟨w4, hw4⟩ : ∃ w4, w1 = w4 := ⟨_, rfl⟩
    rw [hw4] at HROW HRR HCS HKC HSLA HFI HBAD HFIN ⊢
    clear hw4
    obtain ⟨B, hB⟩ : ∃ B, w4.heap.size = B := ⟨_, rfl⟩
    have HB := Lib.hid hB
    rw [hB] at HRR HKC HSLA HFI HBAD HFIN
    clear hB
    go_loopg [22] nn (fun g v22 wr => ∃ (k q : Nat) (acc : List Pc), k + g = nn ∧ v22 = .int .i64 k ∧ q ≤ e ∧ acc.length = k ∧ Hid (Rr wr B w.heap.size (.slice av b.length cv) (.func (.func 171) #[] #[]) s q e acc) ∧ Hid (Aside (RG B w.heap.size) w4 wr) ∧ Hid (goP F b s e (ks.drop k) q acc = R))
    case atStart => exact ⟨0, p, [], by omega, rfl, hpe, rfl, HRR, Aside.refl _ _, HR⟩
    case round =>
      obtain ⟨k, q, acc, hk, rfl, hqe, hacc, HRr, HAs, HG⟩ := hrel
      by_cases hlt0 : k < nn
      · have hlt : k < ks.length := by have := HN.out; omega
        have hrow := (HROW.out).over (by omega) HCS.out (Nat.le_of_eq HB.out) HAs.out
        obtain ⟨g0, c0, _, he0, hcell⟩ := hrow
        injection he0 with he1 he2 he3
        injection he1 with he1
        injection he1 with he1 _ _
        subst he1
        clear he2 he3
        obtain ⟨u, hu, hpv⟩ := hcell k hlt
        have hg := HG.out
        rw [List.drop_eq_getElem_cons hlt, goP] at hg
        have hle := fun x y => step_le (F := F) (b := b) (s := s) (x := x) (q := y) hqe (k := ks[k])
        have hsm := HSM.out ks[k] (List.getElem_mem hlt)
        have HSL := Lib.hid (HSLA.out _ HAs.out)
        have HFO := Lib.hid (HFI.out.later HAs.out)
        have HST : Hid (∀ k0, ks[k] = k0 → stepP F b s e q ks[k] = stepP F b s e q k0) := fun k0 h => by rw [h]
        obtain ⟨k0, hk0⟩ : ∃ k0, ks[k] = k0 := ⟨_, rfl⟩
        rw [hk0] at hpv hg hle hsm
        obtain ⟨Y, hY⟩ : ∃ Y, stepP F b s e q k0 = Y := ⟨_, rfl⟩
        rw [hY] at hg hle
        clear hcell HST hk0
        cases k0 with
        | fix n =>
          obtain ⟨bx, _, rfl, hbx⟩ := hpv
          have HC : Hid (Calls Tryz.prog 186 #[.pointer (some ⟨w.heap.size, 0, none⟩), .pointer (some ⟨bx, 0, none⟩)] wr (StepPost wr B w.heap.size (.slice av b.length cv) (.func (.func 171) #[] #[]) s e acc Y)) := hY ▸ fixedR_any HRr.out HSL.out he hqe (by have := hsm n rfl; omega) hbl hbx (by omega)
          clear hY
          rcases Y with ⟨x, q'⟩ | ⟨cc, aa⟩
          · have hq' := hle x q' rfl
            have HG2 := Lib.hid hg
            have HCC := Lib.hid (show Calls Tryz.prog 186 #[.pointer (some ⟨w.heap.size, 0, none⟩), .pointer (some ⟨bx, 0, none⟩)] wr (Gone wr B w.heap.size (.slice av b.length cv) (.func (.func 171) #[] #[]) s e q' (acc ++ [x])) from HC.out)
            clear hg hle hsm HC
            go_wp2_with fail
            refine HCC.out.mono ?_; rintro en w5 ⟨rfl, hr5, ha5⟩
            have HR5 := Lib.hid hr5
            have HA5 := Lib.hid (HAs.out.trans ha5)
            clear hr5 ha5
            go_wp2_with fail
            go_roundg (nn - (k + 1))
            case measure => omega
            case rel => exact ⟨k + 1, q', acc ++ [x], by omega, by go_num, hq', by rw [List.length_append, hacc]; rfl, HR5, HA5, HG2⟩
          · have hRb : R = .bad cc aa := hg.symm
            subst hRb
            have HCC := Lib.hid (show Calls Tryz.prog 186 #[.pointer (some ⟨w.heap.size, 0, none⟩), .pointer (some ⟨bx, 0, none⟩)] wr (Lost wr B w.heap.size cc aa) from HC.out)
            clear hg hle hsm HC
            go_wp2_with fail
            refine HCC.out.mono ?_; rintro en w5 ⟨rfl, ha5⟩
            have HAd := Lib.hid (HAs.out.trans ha5)
            obtain ⟨k0, k1, k2, f2, f3⟩ := HKC.out _ HAd.out
            refine leaves_cons (f := 175) (args := #[.pointer (some ⟨w.heap.size + 1, 0, none⟩), .pointer (some ⟨w.heap.size + 1 + 1, 0, none⟩)]) (by simp) (by simp [go_sem]) ?_
            refine (mcatch_fault (w.heap.size + 1) (w.heap.size + 1 + 1) (by omega) cc aa _ _ k0 k1 k2 f2 f3).mono ?_
            rintro e9 u' w9 ⟨rfl, rfl, hc9⟩
            obtain ⟨_, m0, m1, m2⟩ := id hc9
            simp [Leaves, settle, results, Tryz.results170, go_sem, m0, m1, m2]
            exact HBAD.out _ _ _ _ HAd.out hc9
        | nam =>
          have hpv : u = _ := hpv; subst hpv
          have HC : Hid (Calls Tryz.prog 182 #[.pointer (some ⟨w.heap.size, 0, none⟩)] wr (StepPost wr B w.heap.size (.slice av b.length cv) (.func (.func 171) #[] #[]) s e acc Y)) := hY ▸ nameR_plain HRr.out HFO.out (by omega) (by omega)
          clear hY
          rcases Y with ⟨x, q'⟩ | ⟨cc, aa⟩
          · have hq' := hle x q' rfl
            have HG2 := Lib.hid hg
            have HCC := Lib.hid (show Calls Tryz.prog 182 #[.pointer (some ⟨w.heap.size, 0, none⟩)] wr (Gone wr B w.heap.size (.slice av b.length cv) (.func (.func 171) #[] #[]) s e q' (acc ++ [x])) from HC.out)
            clear hg hle hsm HC
            go_wp2_with fail
            refine HCC.out.mono ?_; rintro en w5 ⟨rfl, hr5, ha5⟩
            have HR5 := Lib.hid hr5
            have HA5 := Lib.hid (HAs.out.trans ha5)
            clear hr5 ha5
            go_wp2_with fail
            go_roundg (nn - (k + 1))
            case measure => omega
            case rel => exact ⟨k + 1, q', acc ++ [x], by omega, by go_num, hq', by rw [List.length_append, hacc]; rfl, HR5, HA5, HG2⟩
          · have hRb : R = .bad cc aa := hg.symm
            subst hRb
            have HCC := Lib.hid (show Calls Tryz.prog 182 #[.pointer (some ⟨w.heap.size, 0, none⟩)] wr (Lost wr B w.heap.size cc aa) from HC.out)
            clear hg hle hsm HC
            go_wp2_with fail
            refine HCC.out.mono ?_; rintro en w5 ⟨rfl, ha5⟩
            have HAd := Lib.hid (HAs.out.trans ha5)
            obtain ⟨k0, k1, k2, f2, f3⟩ := HKC.out _ HAd.out
            refine leaves_cons (f := 175) (args := #[.pointer (some ⟨w.heap.size + 1, 0, none⟩), .pointer (some ⟨w.heap.size + 1 + 1, 0, none⟩)]) (by simp) (by simp [go_sem]) ?_
            refine (mcatch_fault (w.heap.size + 1) (w.heap.size + 1 + 1) (by omega) cc aa _ _ k0 k1 k2 f2 f3).mono ?_
            rintro e9 u' w9 ⟨rfl, rfl, hc9⟩
            obtain ⟨_, m0, m1, m2⟩ := id hc9
            simp [Leaves, settle, results, Tryz.results170, go_sem, m0, m1, m2]
            exact HBAD.out _ _ _ _ HAd.out hc9
        | txt =>
          have hpv : u = _ := hpv; subst hpv
          have HC : Hid (Calls Tryz.prog 183 #[.pointer (some ⟨w.heap.size, 0, none⟩)] wr (StepPost wr B w.heap.size (.slice av b.length cv) (.func (.func 171) #[] #[]) s e acc Y)) := hY ▸ textsR_any HRr.out HSL.out he hqe hbl (by omega)
          clear hY
          rcases Y with ⟨x, q'⟩ | ⟨cc, aa⟩
          · have hq' := hle x q' rfl
            have HG2 := Lib.hid hg
            have HCC := Lib.hid (show Calls Tryz.prog 183 #[.pointer (some ⟨w.heap.size, 0, none⟩)] wr (Gone wr B w.heap.size (.slice av b.length cv) (.func (.func 171) #[] #[]) s e q' (acc ++ [x])) from HC.out)
            clear hg hle hsm HC
            go_wp2_with fail
            refine HCC.out.mono ?_; rintro en w5 ⟨rfl, hr5, ha5⟩
            have HR5 := Lib.hid hr5
            have HA5 := Lib.hid (HAs.out.trans ha5)
            clear hr5 ha5
            go_wp2_with fail
            go_roundg (nn - (k + 1))
            case measure => omega
            case rel => exact ⟨k + 1, q', acc ++ [x], by omega, by go_num, hq', by rw [List.length_append, hacc]; rfl, HR5, HA5, HG2⟩
          · have hRb : R = .bad cc aa := hg.symm
            subst hRb
            have HCC := Lib.hid (show Calls Tryz.prog 183 #[.pointer (some ⟨w.heap.size, 0, none⟩)] wr (Lost wr B w.heap.size cc aa) from HC.out)
            clear hg hle hsm HC
            go_wp2_with fail
            refine HCC.out.mono ?_; rintro en w5 ⟨rfl, ha5⟩
            have HAd := Lib.hid (HAs.out.trans ha5)
            obtain ⟨k0, k1, k2, f2, f3⟩ := HKC.out _ HAd.out
            refine leaves_cons (f := 175) (args := #[.pointer (some ⟨w.heap.size + 1, 0, none⟩), .pointer (some ⟨w.heap.size + 1 + 1, 0, none⟩)]) (by simp) (by simp [go_sem]) ?_
            refine (mcatch_fault (w.heap.size + 1) (w.heap.size + 1 + 1) (by omega) cc aa _ _ k0 k1 k2 f2 f3).mono ?_
            rintro e9 u' w9 ⟨rfl, rfl, hc9⟩
            obtain ⟨_, m0, m1, m2⟩ := id hc9
            simp [Leaves, settle, results, Tryz.results170, go_sem, m0, m1, m2]
            exact HBAD.out _ _ _ _ HAd.out hc9
        | rst =>
          have hpv : u = _ := hpv; subst hpv
          have HC : Hid (Calls Tryz.prog 177 #[.pointer (some ⟨w.heap.size, 0, none⟩)] wr (StepPost wr B w.heap.size (.slice av b.length cv) (.func (.func 171) #[] #[]) s e acc Y)) := hY ▸ restR_any HRr.out HSL.out he hqe (by omega)
          clear hY
          rcases Y with ⟨x, q'⟩ | ⟨cc, aa⟩
          · have hq' := hle x q' rfl
            have HG2 := Lib.hid hg
            have HCC := Lib.hid (show Calls Tryz.prog 177 #[.pointer (some ⟨w.heap.size, 0, none⟩)] wr (Gone wr B w.heap.size (.slice av b.length cv) (.func (.func 171) #[] #[]) s e q' (acc ++ [x])) from HC.out)
            clear hg hle hsm HC
            go_wp2_with fail
            refine HCC.out.mono ?_; rintro en w5 ⟨rfl, hr5, ha5⟩
            have HR5 := Lib.hid hr5
            have HA5 := Lib.hid (HAs.out.trans ha5)
            clear hr5 ha5
            go_wp2_with fail
            go_roundg (nn - (k + 1))
            case measure => omega
            case rel => exact ⟨k + 1, q', acc ++ [x], by omega, by go_num, hq', by rw [List.length_append, hacc]; rfl, HR5, HA5, HG2⟩
          · have hRb : R = .bad cc aa := hg.symm
            subst hRb
            have HCC := Lib.hid (show Calls Tryz.prog 177 #[.pointer (some ⟨w.heap.size, 0, none⟩)] wr (Lost wr B w.heap.size cc aa) from HC.out)
            clear hg hle hsm HC
            go_wp2_with fail
            refine HCC.out.mono ?_; rintro en w5 ⟨rfl, ha5⟩
            have HAd := Lib.hid (HAs.out.trans ha5)
            obtain ⟨k0, k1, k2, f2, f3⟩ := HKC.out _ HAd.out
            refine leaves_cons (f := 175) (args := #[.pointer (some ⟨w.heap.size + 1, 0, none⟩), .pointer (some ⟨w.heap.size + 1 + 1, 0, none⟩)]) (by simp) (by simp [go_sem]) ?_
            refine (mcatch_fault (w.heap.size + 1) (w.heap.size + 1 + 1) (by omega) cc aa _ _ k0 k1 k2 f2 f3).mono ?_
            rintro e9 u' w9 ⟨rfl, rfl, hc9⟩
            obtain ⟨_, m0, m1, m2⟩ := id hc9
            simp [Leaves, settle, results, Tryz.results170, go_sem, m0, m1, m2]
            exact HBAD.out _ _ _ _ HAd.out hc9
      · have hke : k = ks.length := by have := HN.out; omega
        have hg := HG.out
        rw [List.drop_eq_nil_of_le (by omega), goP] at hg
        have c2 := HRr.out.c2
        have c3 := HRr.out.c3
        have t1 : ¬ ((k : Int) < nn) := by omega
        by_cases hlast : q < e
        · rw [if_pos hlast] at hg
          subst hg
          have t2 : decide ((q : Int) < e) = true := by simp; omega
          have HFl := Lib.hid (rfail_any HRr.out)
          go_wp2_with fail
          refine HFl.out.mono ?_; rintro en w5 ⟨rfl, rfl⟩
          have HAd := Lib.hid (HAs.out)
          obtain ⟨k0, k1, k2, f2, f3⟩ := HKC.out _ HAd.out
          refine leaves_cons (f := 175) (args := #[.pointer (some ⟨w.heap.size + 1, 0, none⟩), .pointer (some ⟨w.heap.size + 1 + 1, 0, none⟩)]) (by simp) (by simp [go_sem]) ?_
          refine (mcatch_fault (w.heap.size + 1) (w.heap.size + 1 + 1) (by omega) 4 s _ _ k0 k1 k2 f2 f3).mono ?_
          rintro e9 u' w9 ⟨rfl, rfl, hc9⟩
          obtain ⟨_, m0, m1, m2⟩ := id hc9
          simp [Leaves, settle, results, Tryz.results170, go_sem, m0, m1, m2]
          exact HBAD.out _ _ _ _ HAd.out hc9
        · rw [if_neg hlast] at hg
          subst hg
          have t2 : decide ((q : Int) < e) = false := by simp; omega
          obtain ⟨vp, c5, hown⟩ := HRr.out.c5
          obtain ⟨ap, cp, hvp⟩ := hown.shape
          obtain ⟨zl, hzl⟩ : ∃ zl, acc.length = zl := ⟨_, rfl⟩
          rw [hzl] at hvp
          subst hvp
          clear hzl
          have HOwn := Lib.hid hown
          obtain ⟨k0, k1, k2, f2, f3⟩ := HKC.out _ HAs.out
          have HF := Lib.hid (HFIN.out _ _ _ HAs.out HOwn.out)
          have f20 := f2 0
          have f30 := f3 0
          have f31 := f3 1
          clear hown f2 f3
          go_wp2_with fail
          obtain ⟨Wf, hWf, x0, x1, x2, ho, hb⟩ := HF.out
          rw [← hWf]
          clear hWf
          refine leaves_cons (f := 175) (args := #[.pointer (some ⟨w.heap.size + 1, 0, none⟩), .pointer (some ⟨w.heap.size + 1 + 1, 0, none⟩)]) (by simp) (by simp [go_sem]) ?_
          refine (mcatch_idle ⟨w.heap.size + 1, 0, none⟩ ⟨w.heap.size + 1 + 1, 0, none⟩ _).mono ?_
          rintro en u' w9 ⟨rfl, rfl, rfl⟩
          have hal : Below Wf.heap.size Wf (Wf.alloc (.cells #[.int .i64 0, .int .i64 0] 220)) := (Below.refl _ Wf).alloc (Nat.le_refl _) _
          have a0 := cell_later hal x0
          have a1 := cell_later hal x1
          have a2 := cell_later hal x2
          simp [Leaves, settle, results, Tryz.results170, go_sem, a0, a1, a2]
          exact ⟨_, rfl, ho.below hal, hb.alloc hb.size _⟩
end Go.Proofs.YteegekpanadmkaaGreat

/-
  Names, and where they end; texts; plainly.
-/
namespace Go.Proofs.YteegekpanadmkaaGreat
open Go.RowKit Go.Shelf
set_option linter.unusedVariables false
set_option maxRecDepth 100000

/-- As Stand, and where the first part ends. -/
inductive StandE (b : List UInt8) : Nat → Nat → List (List UInt8) → Nat → Prop
  | zero {part i : Nat} (h : i < b.length) (h0 : b[i].toNat = 0) : StandE b part i [] (i + 1)
  | label {part i en : Nat} {l : List UInt8} {r : List (List UInt8)} (h0 : 0 < l.length) (h1 : l.length ≤ 63) (h2 : i + (1 + l.length) ≤ b.length) (h3 : (b.drop i).take (1 + l.length) = wire [l]) (h : StandE b part (i + (1 + l.length)) r en) : StandE b part i (l :: r) en
  | lead {part i to : Nat} {r : List (List UInt8)} (h : i + 1 < b.length) (h0 : 192 ≤ (b[i]'(Nat.lt_of_succ_lt h)).toNat) (h1 : ptr (b[i]'(Nat.lt_of_succ_lt h)) (b[i + 1]'h) = to) (h2 : to < part) (h3 : Stand b to to r) : StandE b part i r (i + 2)

theorem StandE.more {b : List UInt8} {part i en : Nat} {ls : List (List UInt8)} (h : StandE b part i ls en) (c : List UInt8) : StandE (b ++ c) part i ls en := by
  induction h with
  | zero h h0 => exact .zero (by rw [List.length_append]; omega) (by rw [List.getElem_append_left h]; exact h0)
  | label h0 h1 h2 h3 _ ih =>
    refine .label h0 h1 (by rw [List.length_append]; omega) ?_ ih
    rw [List.drop_append_of_le_length (by omega), List.take_append_of_le_length (by rw [List.length_drop]; omega)]
    exact h3
  | lead h h0 h1 h2 h3 =>
    refine .lead (by rw [List.length_append]; omega) ?_ ?_ h2 (h3.more c)
    · rw [List.getElem_append_left]; exact h0
    · rw [List.getElem_append_left, List.getElem_append_left h]; exact h1

theorem StandE.lt {b : List UInt8} {part i en : Nat} {ls : List (List UInt8)} (h : StandE b part i ls en) : i < en ∧ en ≤ b.length := by
  induction h with
  | zero h h0 => omega
  | label h0 h1 h2 h3 _ ih => omega
  | lead h h0 h1 h2 h3 => omega

theorem rdE_of {b : List UInt8} {part i en : Nat} {ls : List (List UInt8)} (h : StandE b part i ls en) (a : Nat) : ∀ (pre : List (List UInt8)), (wire (pre ++ ls)).length ≤ 254 → rd b a part i 0 (wire pre) = (nm (pre ++ ls), en, 0, 0) := by
  induction h with
  | zero h h0 =>
    intro pre _
    rw [rd_zero h h0, List.append_nil, if_pos rfl]
    rfl
  | @label i en l r h0 h1 h2 h3 _ ih =>
    intro pre hl
    have hlt : i < b.length := by omega
    have hb : b[i].toNat = l.length := by
      have h4 := congrArg (fun x : List UInt8 => x[0]?) h3
      simp only [wire, List.append_nil, List.getElem?_take, List.getElem?_drop] at h4
      rw [if_pos (by omega), Nat.add_zero, List.getElem?_eq_getElem hlt] at h4
      have h5 : b[i] = UInt8.ofNat l.length := by simpa using h4
      rw [h5, UInt8.toNat_ofNat']
      omega
    have hw : (wire (pre ++ [l])).length = (wire pre).length + (1 + l.length) := wire_snoc pre l
    have hsplit : pre ++ l :: r = (pre ++ [l]) ++ r := by simp
    have hle : (wire (pre ++ [l])).length ≤ (wire (pre ++ l :: r)).length := by rw [hsplit, wire_app (pre ++ [l]) r, List.length_append]; omega
    rw [rd_label hlt (by omega) (by omega) (by omega) (by omega), hb, h3, ← wire_app, hsplit]
    exact ih (pre ++ [l]) (by rw [← hsplit]; exact hl)
  | @lead i to r h h0 h1 h2 h3 =>
    intro pre hl
    rw [rd_go (Nat.lt_of_succ_lt h) h0 h (by omega), h1, if_pos rfl]
    obtain ⟨nx, hr⟩ := rd_of h3 a (i + 2) pre hl
    have := rd_kept b a to to (i + 2) (wire pre) (by omega) (by rw [hr])
    rw [hr] at this ⊢
    have e : nx = i + 2 := this
    rw [e]

theorem rdaE {b : List UInt8} {p en : Nat} {ls : List (List UInt8)} (h : StandE b p p ls en) (hs : Shorts ls) : rda b p = (nm ls, en, 0, 0) := by
  have hlt := h.lt
  have := rdE_of h p [] (by rw [List.nil_append]; exact hs.2)
  unfold rda
  rw [if_neg (by omega), Int.toNat_natCast]
  exact this

/-- Labels that stand as they are. -/
theorem stand_plain {b : List UInt8} (part : Nat) : ∀ (ls : List (List UInt8)) (i : Nat), (∀ x ∈ ls, 0 < x.length ∧ x.length ≤ 63) → (b.drop i).take (nm ls).length = nm ls → StandE b part i ls (i + (nm ls).length)
  | [], i, _, h => by
    have hl := congrArg List.length h
    rw [List.length_take, List.length_drop] at hl
    have e : nm [] = [0] := rfl
    rw [e] at h hl ⊢
    have hlt : i < b.length := by simp at hl; omega
    have h4 := congrArg (fun x : List UInt8 => x[0]?) h
    simp only [List.getElem?_take, List.getElem?_drop] at h4
    rw [if_pos (by simp), Nat.add_zero, List.getElem?_eq_getElem hlt] at h4
    refine .zero hlt ?_
    have h5 : b[i] = 0 := by simpa using h4
    rw [h5]; rfl
  | l :: r, i, hs, h => by
    have hl := congrArg List.length h
    rw [List.length_take, List.length_drop] at hl
    have e : nm (l :: r) = wire [l] ++ nm r := by simp [nm, wire]
    have hw : (wire [l]).length = 1 + l.length := by simp [wire]; omega
    have hlen : (nm (l :: r)).length = 1 + l.length + (nm r).length := by rw [e, List.length_append, hw]
    obtain ⟨h0, h1⟩ := hs l (by simp)
    have hc : (b.drop i).take (1 + l.length) = wire [l] := by
      have := congrArg (List.take (1 + l.length)) h
      rw [List.take_take, e, List.take_left' hw, Nat.min_eq_left (by rw [← e, hlen]; omega)] at this
      exact this
    have hd : (b.drop (i + (1 + l.length))).take (nm r).length = nm r := by
      have := congrArg (List.drop (1 + l.length)) h
      rw [List.drop_take, List.drop_drop, hlen, e, List.drop_left' hw] at this
      rw [show 1 + l.length + (nm r).length - (1 + l.length) = (nm r).length by omega] at this
      exact this
    have ih := stand_plain part r (i + (1 + l.length)) (fun x hx => hs x (by simp [hx])) hd
    rw [hlen, show i + (1 + l.length + (nm r).length) = i + (1 + l.length) + (nm r).length by omega]
    exact .label h0 h1 (by omega) hc ih

/-- A name that data begin with. -/
theorem frt_nm {s : List UInt8} {ls : List (List UInt8)} (hs : ∀ x ∈ ls, 0 < x.length ∧ x.length ≤ 63) (h : s.take (nm ls).length = nm ls) : ∀ (d k n : Nat), k + d = ls.length → d < n → frt s n (pos ls k) = some (wire ls).length := by
  have hl := congrArg List.length h
  rw [List.length_take] at hl
  have hget : ∀ j (hj : j < (nm ls).length), ∃ hx : j < s.length, s[j] = (nm ls)[j] := fun j hj => by
    refine ⟨by omega, ?_⟩
    have h4 := congrArg (fun x : List UInt8 => x[j]?) h
    simp only [List.getElem?_take] at h4
    rw [if_pos hj, List.getElem?_eq_getElem (by omega), List.getElem?_eq_getElem hj] at h4
    injection h4
  intro d
  induction d with
  | zero =>
    intro k n hk hn
    obtain ⟨m, rfl⟩ : ∃ m, n = m + 1 := ⟨n - 1, by omega⟩
    have hke : k = ls.length := by omega
    subst hke
    obtain ⟨hp, hz⟩ := nm_end ls
    obtain ⟨hx, he⟩ := hget _ hp
    rw [frt, dif_pos hx, he, if_pos hz]
    unfold pos
    rw [List.take_length]
  | succ d ih =>
    intro k n hk hn
    obtain ⟨m, rfl⟩ : ∃ m, n = m + 1 := ⟨n - 1, by omega⟩
    have hlt : k < ls.length := by omega
    obtain ⟨hp, hz⟩ := nm_at hlt hs
    obtain ⟨hx, he⟩ := hget _ hp
    have := hs ls[k] (List.getElem_mem hlt)
    rw [frt, dif_pos hx, he, hz, if_neg (by omega)]
    have e : pos ls k + (1 + ls[k].length) = pos ls (k + 1) := (pos_succ hlt).symm
    rw [e]
    exact ih (k + 1) m (by omega) (by omega)

theorem front_nm {s : List UInt8} {ls : List (List UInt8)} (hs : Shorts ls) (h : s.take (nm ls).length = nm ls) : front s = some (nm ls).length := by
  have hl := congrArg List.length h
  rw [List.length_take] at hl
  have h1 := frt_nm hs.1 h ls.length 0 (s.length + 1) (by omega) (by have := len_wire ls; rw [nm_len] at hl; omega)
  rw [pos_zero] at h1
  unfold front
  rw [h1]
  show (if chk (s.take ((wire ls).length + 1)) = 0 then some ((wire ls).length + 1) else none) = _
  rw [← nm_len, h, if_pos (show chk (nm ls) = 0 from shorts_chk hs)]

theorem frt_lt (s : List UInt8) : ∀ (n p q : Nat), frt s n p = some q → q < s.length := by
  intro n
  induction n with
  | zero => intro p q h; simp [frt] at h
  | succ n ih =>
    intro p q h
    rw [frt] at h
    split at h
    · rename_i hp
      split at h
      · injection h with h; omega
      · exact ih _ _ h
    · simp at h

theorem front_some {s : List UInt8} {n : Nat} (h : front s = some n) : ∃ ls, Shorts ls ∧ s.take n = nm ls ∧ n = (nm ls).length ∧ n ≤ s.length := by
  unfold front at h
  split at h
  · simp at h
  · rename_i p hp
    have hlt := frt_lt _ _ _ _ hp
    split at h
    · rename_i hc
      injection h with h
      subst h
      obtain ⟨h1, h2⟩ := shorts_of hc
      refine ⟨labs (s.take (p + 1)), h1, h2, ?_, by omega⟩
      have := congrArg List.length h2
      rw [List.length_take] at this
      have h3 : (nm (labs (s.take (p + 1)))).length = (wire (labs (s.take (p + 1))) ++ [0]).length := rfl
      omega
    · simp at h

/-- A name that stands as its bytes. -/
theorem pln_front (d : List UInt8) (p : Nat) (hp : p ≤ d.length) :
    (∀ n, front (d.drop p) = some n → pln d p = ((d.drop p).take n, p + n, 0, 0) ∧ 0 < n ∧ p + n ≤ d.length ∧ chk ((d.drop p).take n) = 0) ∧ (front (d.drop p) = none → pln d p = ([], 0, 4, 0)) := by
  refine ⟨fun n hn => ?_, fun hn => ?_⟩
  · obtain ⟨ls, h1, h2, h3, h4⟩ := front_some hn
    rw [List.length_drop] at h4
    have hs := stand_plain p ls p h1.1 (by rw [← h3]; exact h2)
    have hr := rdaE hs h1
    rw [← h3] at hr
    have h0 : 0 < n := by rw [h3, nm_len]; omega
    refine ⟨?_, h0, by omega, by rw [h2]; exact shorts_chk h1⟩
    unfold pln
    rw [hr, if_neg (by
      intro h
      rcases h with h | h
      · exact h rfl
      · apply h; show nm ls = (d.drop p).take (p + n - p); rw [Nat.add_sub_cancel_left, h2])]
    rw [h2]
  · unfold pln
    by_cases hbad : (rda d p).2.2.1 ≠ 0 ∨ (rda d p).1 ≠ (d.drop p).take ((rda d p).2.1 - p)
    · rw [if_pos hbad]
    · exfalso
      have h1 : (rda d p).2.2.1 = 0 := Classical.byContradiction fun h => hbad (.inl h)
      have h2 : (rda d p).1 = (d.drop p).take ((rda d p).2.1 - p) := Classical.byContradiction fun h => hbad (.inr h)
      have hrd : rda d p = rd d p p p 0 [] := by unfold rda; rw [if_neg (by omega), Int.toNat_natCast]
      rw [hrd] at h1 h2
      obtain ⟨n1, n2, _⟩ := rd_next d p p p [] (by simp) h1
      rcases rd_fine d p hp p p 0 [] [] rfl ⟨by simp, by simp [wire]⟩ with ⟨_, _, ls, f1, f2⟩ | ⟨f, _⟩
      · rw [List.nil_append] at f1 f2
        have hl := congrArg List.length h2
        rw [List.length_take, List.length_drop] at hl
        have hn' : (rd d p p p 0 []).1 = nm ls := f1
        rw [hn'] at hl h2
        have := front_nm (s := d.drop p) f2 (by rw [show (nm ls).length = (rd d p p p 0 []).2.1 - p by omega]; exact h2.symm)
        rw [hn] at this
        simp at this
      · exact f h1

/-- What a name is that is read. -/
theorem rda_fine (b : List UInt8) (p : Nat) (h : (rda b p).2.2.1 = 0) : chk (rda b p).1 = 0 ∧ p < (rda b p).2.1 ∧ (rda b p).2.1 ≤ b.length := by
  unfold rda at h ⊢
  split at h
  · exact absurd h (by decide)
  · rename_i hr
    rw [if_neg hr]
    rw [Int.toNat_natCast] at h ⊢
    obtain ⟨n1, n2, _⟩ := rd_next b p p p [] (by simp) h
    rcases rd_fine b p (by omega) p p 0 [] [] rfl ⟨by simp, by simp [wire]⟩ with ⟨_, _, ls, f1, f2⟩ | ⟨f, _⟩
    · rw [List.nil_append] at f1 f2
      exact ⟨by rw [f1]; exact shorts_chk f2, n1, n2⟩
    · exact absurd h f

/-- The fault of a name. -/
theorem rda_place (b : List UInt8) (p : Nat) : (rda b p).2.2.2 ≤ b.length := by
  unfold rda
  split
  · exact Nat.zero_le _
  · rename_i hr
    rw [Int.toNat_natCast]
    rcases rd_fine b p (by omega) p p 0 [] [] rfl ⟨by simp, by simp [wire]⟩ with ⟨_, f, _⟩ | ⟨_, _, _, f⟩
    · rw [f]; exact Nat.zero_le _
    · exact f

/-- Where texts end, and whether they are texts. -/
theorem txE_txs (b : List UInt8) (p e : Nat) (he : e ≤ b.length) : ∀ (n m i : Nat), p + i < e → e < p + i + n → e < p + i + m →
    ∃ q, txE b e n (p + i) = some q ∧ e ≤ q ∧ txs ((b.drop p).take (e - p)) m i = decide (q = e) := by
  have hsl : p ≤ e → ((b.drop p).take (e - p)).length = e - p := fun h => by rw [List.length_take, List.length_drop]; omega
  intro n
  induction n with
  | zero => intro m i h1 h2; omega
  | succ n ih =>
    intro m i h1 h2 h3
    obtain ⟨m', rfl⟩ : ∃ m', m = m' + 1 := ⟨m - 1, by omega⟩
    have hlen := hsl (by omega)
    have hi : i < ((b.drop p).take (e - p)).length := by omega
    have hg : ((b.drop p).take (e - p))[i] = b[p + i] := by simp
    have hgd : b.getD (p + i) 0 = b[p + i] := by rw [List.getD, List.getElem?_eq_getElem (by omega)]; rfl
    rw [txE, if_neg (by omega), txs, dif_pos hi, hg, hgd]
    obtain ⟨c, hc⟩ : ∃ c, b[p + i].toNat = c := ⟨_, rfl⟩
    rw [hc]
    by_cases hq : p + i + (1 + c) < e
    · obtain ⟨q, q1, q2, q3⟩ := ih m' (i + (1 + c)) (by omega) (by omega) (by omega)
      refine ⟨q, ?_, q2, q3⟩
      simp only [if_pos hq]
      rw [← q1, show p + (i + (1 + c)) = p + i + (1 + c) by omega]
    · refine ⟨p + i + (1 + c), by simp only [if_neg hq], by omega, ?_⟩
      cases m' with
      | zero => omega
      | succ m'' =>
        rw [txs, dif_neg (by rw [hlen]; omega), hlen]
        by_cases e2 : p + i + (1 + c) = e
        · simp only [e2]; simp; omega
        · rw [decide_eq_false (by omega), decide_eq_false e2]

theorem txE_none (b : List UInt8) (p n : Nat) : txE b p n p = none := by
  cases n with
  | zero => rfl
  | succ n => rw [txE, if_pos (by omega)]

theorem tx_step (F : Nat → Got) (b : List UInt8) (s p e : Nat) (he : e ≤ b.length) (hp : p ≤ e) :
    stepP F b s e p .txt = if texts ((b.drop p).take (e - p)) = true then .ok ((b.drop p).take (e - p), false) e else .bad 4 s := by
  have hlen : ((b.drop p).take (e - p)).length = e - p := by rw [List.length_take, List.length_drop]; omega
  simp only [stepP]
  rcases Nat.lt_or_ge p e with h | h
  · obtain ⟨q, q1, q2, q3⟩ := txE_txs b p e he (e + 1) (e - p + 1) 0 (by omega) (by omega) (by omega)
    replace q1 : txE b e (e + 1) p = some q := q1
    rw [q1]
    simp only
    have hne : (b.drop p).take (e - p) ≠ [] := fun h0 => by rw [h0] at hlen; simp at hlen; omega
    unfold texts cutP
    rw [hlen, q3, decide_eq_true hne, Bool.true_and]
    by_cases e2 : q = e
    · subst e2; simp
    · rw [if_pos (by omega), decide_eq_false e2]; simp
  · have e2 : p = e := by omega
    subst e2
    rw [txE_none]
    unfold texts
    simp
end Go.Proofs.YteegekpanadmkaaGreat

/-
  Pieces that fit a type's parts: how they are cut, read, put together; plainly.
-/
namespace Go.Proofs.YteegekpanadmkaaGreat
open Go.RowKit Go.Shelf
set_option linter.unusedVariables false
set_option maxRecDepth 100000

/-- These pieces are of these parts. -/
inductive Fits : List PK → List Pc → Prop
  | nil : Fits [] []
  | fix {n : Nat} {x : List UInt8} {ks : List PK} {L : List Pc} (h : x.length = n) (h2 : Fits ks L) : Fits (.fix n :: ks) ((x, false) :: L)
  | nam {x : List UInt8} {ks : List PK} {L : List Pc} (h : chk x = 0) (h2 : Fits ks L) : Fits (.nam :: ks) ((x, true) :: L)
  | txt {x : List UInt8} (h : texts x = true) : Fits [.txt] [(x, false)]
  | rst {x : List UInt8} : Fits [.rst] [(x, false)]

/-- Texts, and what is left, come last. -/
def lastK : List PK → Bool
  | [] => true
  | [.txt] => true
  | [.rst] => true
  | .fix _ :: ks => lastK ks
  | .nam :: ks => lastK ks
  | _ => false

theorem kinds_last (t : Int) : lastK (kinds t) = true := by
  unfold kinds
  repeat' split
  all_goals rfl

theorem joined_nil : joined [] = [] := rfl
theorem joined_cons (x : Pc) (L : List Pc) : joined (x :: L) = x.1 ++ joined L := by simp [joined]
theorem joined_app (L M : List Pc) : joined (L ++ M) = joined L ++ joined M := by simp [joined]

theorem chk_pos {x : List UInt8} (h : chk x = 0) : 0 < x.length ∧ x.length ≤ 255 := by
  obtain ⟨hs, hx⟩ := shorts_of h
  have := congrArg List.length hx
  rw [List.length_append] at this
  have h2 := hs.2
  simp at this
  omega

/-- What fits is cut as it was. -/
theorem fits_cuts {ks : List PK} {L : List Pc} (h : Fits ks L) : cuts ks (joined L) = some (L, []) := by
  induction h with
  | nil => rfl
  | @fix n x ks L h h2 ih =>
    subst h
    rw [joined_cons, cuts, lenP, if_pos (by simp)]
    simp only [List.drop_left, List.take_left, ih, Option.map_some]
    rfl
  | @nam x ks L h h2 ih =>
    obtain ⟨hs, hx⟩ := shorts_of h
    have hn : x = nm (labs x) := hx
    have hf : front (x ++ joined L) = some x.length := by
      have := front_nm (s := x ++ joined L) hs (by rw [← hn, List.take_left])
      rw [← hn] at this
      exact this
    rw [joined_cons, cuts, lenP]
    simp only [hf, List.drop_left, List.take_left, ih, Option.map_some]
    rfl
  | @txt x h =>
    rw [joined_cons, joined_nil, List.append_nil, cuts, lenP, if_pos h]
    simp [cuts, PK.isNam]
  | @rst x =>
    rw [joined_cons, joined_nil, List.append_nil, cuts, lenP]
    simp [cuts, PK.isNam]

/-- What is cut fits. -/
theorem cuts_fits : ∀ (ks : List PK), lastK ks = true → ∀ (s : List UInt8) (L : List Pc), cuts ks s = some (L, []) → Fits ks L ∧ joined L = s
  | [], _, s, L, h => by
    rw [cuts] at h
    injection h with h
    injection h with h1 h2
    subst h1; subst h2
    exact ⟨.nil, rfl⟩
  | k :: ks, hk, s, L, h => by
    rw [cuts] at h
    split at h
    · simp at h
    · rename_i n hn
      obtain ⟨⟨L', r⟩, h1, h2⟩ := Option.map_eq_some_iff.mp h
      injection h2 with h2 h3
      have h3 : r = [] := h3
      subst h3
      have h2 : (s.take n, k.isNam) :: L' = L := h2
      subst h2
      cases k with
      | fix m =>
        obtain ⟨i1, i2⟩ := cuts_fits ks (by simpa [lastK] using hk) _ _ h1
        rw [lenP] at hn
        split at hn
        · injection hn with hn
          subst hn
          exact ⟨.fix (by rw [List.length_take]; omega) i1, by rw [joined_cons, i2, List.take_append_drop]⟩
        · simp at hn
      | nam =>
        obtain ⟨i1, i2⟩ := cuts_fits ks (by simpa [lastK] using hk) _ _ h1
        obtain ⟨ls, f1, f2, f3, f4⟩ := front_some (by simpa [lenP] using hn)
        exact ⟨.nam (by rw [f2]; exact shorts_chk f1) i1, by rw [joined_cons, i2, List.take_append_drop]⟩
      | txt =>
        have hks : ks = [] := by cases ks with | nil => rfl | cons a b => simp [lastK] at hk
        subst hks
        rw [lenP] at hn
        split at hn
        · rename_i ht
          injection hn with hn
          subst hn
          rw [cuts, List.drop_length] at h1
          injection h1 with h1
          injection h1 with h1 _
          subst h1
          rw [List.take_length]
          exact ⟨.txt ht, by simp [joined]⟩
        · simp at hn
      | rst =>
        have hks : ks = [] := by cases ks with | nil => rfl | cons a b => simp [lastK] at hk
        subst hks
        rw [lenP] at hn
        injection hn with hn
        subst hn
        rw [cuts, List.drop_length] at h1
        injection h1 with h1
        injection h1 with h1 _
        subst h1
        rw [List.take_length]
        exact ⟨.rst, by simp [joined]⟩

/-- A reader of the data alone reads what is cut. -/
theorem step_cuts (d : List UInt8) (p : Nat) (hp : p ≤ d.length) (k : PK) :
    stepP (pln d) d 0 d.length p k = match lenP (d.drop p) k with | none => .bad 4 0 | some n => .ok ((d.drop p).take n, k.isNam) (p + n) := by
  have hlen : (d.drop p).length = d.length - p := List.length_drop
  cases k with
  | fix n =>
    simp only [stepP, lenP, cutP]
    rw [hlen]
    by_cases h : n ≤ d.length - p
    · rw [if_neg (by omega), if_pos h, Nat.add_sub_cancel_left]; rfl
    · rw [if_pos (by omega), if_neg h]
  | nam =>
    obtain ⟨h1, h2⟩ := pln_front d p hp
    simp only [stepP, lenP]
    rcases hf : front (d.drop p) with _ | n
    · rw [h2 hf]
      by_cases h0 : d.length < p + 1
      · rw [if_pos h0]
      · rw [if_neg h0, if_pos (by decide)]
    · obtain ⟨e1, e2, e3, e4⟩ := h1 n hf
      rw [e1, if_neg (by omega), if_neg (by simp), if_neg (by simp; omega)]
      rfl
  | txt =>
    rw [tx_step (pln d) d 0 p d.length (Nat.le_refl _) hp, lenP]
    have e : (d.drop p).take (d.length - p) = d.drop p := List.take_of_length_le (by rw [hlen]; omega)
    rw [e, hlen]
    by_cases h : texts (d.drop p) = true
    · rw [if_pos h, if_pos h]
      simp only
      rw [e, show p + (d.length - p) = d.length by omega]
      rfl
    · rw [if_neg h, if_neg h]
  | rst =>
    simp only [stepP, lenP, cutP]
    rw [hlen, if_neg (by omega), show p + (d.length - p) = d.length by omega]
    rfl

theorem lenP_le {s : List UInt8} {k : PK} {n : Nat} (h : lenP s k = some n) : n ≤ s.length := by
  cases k with
  | fix m => rw [lenP] at h; split at h <;> simp at h; omega
  | nam => obtain ⟨_, _, _, _, h4⟩ := front_some (by simpa [lenP] using h); exact h4
  | txt => rw [lenP] at h; split at h <;> simp at h; omega
  | rst => rw [lenP] at h; injection h with h; omega

theorem go_cuts (d : List UInt8) : ∀ (ks : List PK) (p : Nat) (acc : List Pc), p ≤ d.length →
    goP (pln d) d 0 d.length ks p acc = match cuts ks (d.drop p) with | none => .bad 4 0 | some r => if r.2 = [] then .ok (acc ++ r.1) else .bad 4 0
  | [], p, acc, hp => by
    rw [goP, cuts]
    simp only
    by_cases h : p < d.length
    · rw [if_pos h, if_neg (fun e => by have := congrArg List.length e; rw [List.length_drop] at this; simp at this; omega)]
    · rw [if_neg h, if_pos (List.drop_eq_nil_of_le (by omega)), List.append_nil]
  | k :: ks, p, acc, hp => by
    rw [goP, step_cuts d p hp k, cuts]
    rcases hn : lenP (d.drop p) k with _ | n
    · rfl
    · have hle := lenP_le hn
      rw [List.length_drop] at hle
      simp only
      rw [go_cuts d ks (p + n) _ (by omega), List.drop_drop]
      rcases cuts ks (d.drop (p + n)) with _ | r
      · rfl
      · simp only [Option.map_some]
        rw [List.append_assoc]
        rfl

theorem spl_cuts (t : Int) (d : List UInt8) : spl t d = if t < 0 ∨ 65535 < t then .bad 5 0 else if 65535 < d.length then .bad 3 0 else match cuts (kinds t) d with | none => .bad 4 0 | some r => if r.2 = [] then .ok r.1 else .bad 4 0 := by
  unfold spl
  rw [go_cuts d (kinds t) 0 [] (Nat.zero_le _), List.drop_zero]
  simp only [List.nil_append]

/-- Data of a type. -/
theorem spl_ok {t : Int} {d : List UInt8} {L : List Pc} (h : spl t d = .ok L) : 0 ≤ t ∧ t ≤ 65535 ∧ d.length ≤ 65535 ∧ Fits (kinds t) L ∧ joined L = d := by
  rw [spl_cuts] at h
  split at h
  · simp at h
  · split at h
    · simp at h
    · split at h
      · simp at h
      · rename_i r hr
        split at h
        · rename_i h0
          injection h with h
          subst h
          obtain ⟨L, s⟩ := r
          have h0 : s = [] := h0
          subst h0
          obtain ⟨h1, h2⟩ := cuts_fits _ (kinds_last t) _ _ hr
          exact ⟨by omega, by omega, by omega, h1, h2⟩
        · simp at h

theorem spl_of {t : Int} {L : List Pc} (h0 : 0 ≤ t) (h1 : t ≤ 65535) (h2 : (joined L).length ≤ 65535) (h : Fits (kinds t) L) : spl t (joined L) = .ok L := by
  rw [spl_cuts, if_neg (by omega), if_neg (by omega), fits_cuts h]
  simp

/-- What any reader tells fits. -/
theorem go_fits {F : Nat → Got} {b : List UInt8} {s e : Nat} (he : e ≤ b.length) (hF : ∀ p, (F p).2.2.1 = 0 → chk (F p).1 = 0) : ∀ (ks : List PK) (p : Nat) (acc L : List Pc), lastK ks = true → p ≤ e →
    goP F b s e ks p acc = .ok L → ∃ M, L = acc ++ M ∧ Fits ks M
  | [], p, acc, L, _, hp, h => by
    rw [goP] at h
    split at h
    · simp at h
    · injection h with h
      exact ⟨[], by rw [List.append_nil, h], .nil⟩
  | k :: ks, p, acc, L, hk, hp, h => by
    rw [goP] at h
    cases k with
    | fix n =>
      simp only [stepP, cutP] at h
      split at h
      · rename_i x q hx
        split at hx
        · simp at hx
        · injection hx with h1 h2
          subst h1; subst h2
          obtain ⟨M, m1, m2⟩ := go_fits he hF ks _ _ _ (by simpa [lastK] using hk) (by omega) h
          exact ⟨_ :: M, by rw [m1, List.append_assoc]; rfl, .fix (by rw [List.length_take, List.length_drop]; omega) m2⟩
      · simp at h
    | nam =>
      simp only [stepP] at h
      split at h
      · rename_i x q hx
        split at hx
        · simp at hx
        · split at hx
          · simp at hx
          · rename_i h3
            split at hx
            · simp at hx
            · injection hx with h1 h2
              subst h1; subst h2
              obtain ⟨M, m1, m2⟩ := go_fits he hF ks _ _ _ (by simpa [lastK] using hk) (by omega) h
              exact ⟨_ :: M, by rw [m1, List.append_assoc]; rfl, .nam (hF p (by simpa using h3)) m2⟩
      · simp at h
    | txt =>
      have hks : ks = [] := by cases ks with | nil => rfl | cons a b => simp [lastK] at hk
      subst hks
      rw [tx_step F b s p e he hp] at h
      split at h
      · rename_i x q hx
        split at hx
        · rename_i ht
          injection hx with h1 h2
          subst h1; subst h2
          rw [goP, if_neg (by omega)] at h
          injection h with h
          exact ⟨_, h.symm, .txt ht⟩
        · simp at hx
      · simp at h
    | rst =>
      have hks : ks = [] := by cases ks with | nil => rfl | cons a b => simp [lastK] at hk
      subst hks
      simp only [stepP, cutP] at h
      split at h
      · rename_i x q hx
        split at hx
        · simp at hx
        · injection hx with h1 h2
          subst h1; subst h2
          rw [goP, if_neg (by omega)] at h
          injection h with h
          exact ⟨_, h.symm, .rst⟩
      · simp at h

/-! ### the lower form -/
/-! ### what data point at, which address they are, what they let be kept -/
/-- Four bytes as a number. -/
def n4 (d : List UInt8) (p : Nat) : Int := nAt4 (iz d) p
theorem code_ok {t : Int} {d : List UInt8} (h : (spl t d).code = 0) : ∃ L, spl t d = .ok L := by
  rcases hs : spl t d with L | ⟨e, a⟩
  · exact ⟨L, rfl⟩
  · rw [hs] at h
    exfalso
    have h : e = 0 := h
    subst h
    rw [spl_cuts] at hs
    split at hs
    · simp at hs
    · split at hs
      · simp at hs
      · split at hs
        · simp at hs
        · split at hs <;> simp at hs

theorem code_bad {t : Int} {d : List UInt8} {c : Int} {a : Nat} (h : spl t d = .bad c a) : c ≠ 0 := fun h0 => by
  have h2 : (spl t d).code = 0 := by rw [h]; exact h0
  obtain ⟨L, hL⟩ := code_ok h2
  rw [h] at hL
  cases hL

end Go.Proofs.YteegekpanadmkaaGreat

/-
  plain: a name that stands as its bytes.
-/
namespace Go.Proofs.YteegekpanadmkaaGreat
open Go.RowKit Go.Shelf
set_option linter.unusedVariables false
set_option linter.unusedSimpArgs false
set_option maxRecDepth 100000

set_option maxHeartbeats 4000000 in
theorem plain_any {w : World} {lo hi : Nat} {v : Value} {b : List UInt8} (h : Sl w lo hi v (iz b)) (hhi : hi ≤ w.heap.size) (hl : b.length ≤ 1000000) (p : Nat) :
    Calls Tryz.prog 171 #[v, .int .i64 p] w (Tells w (gotV (pln b p))) := by
  have hb0 : Below w.heap.size w (w.alloc (.cells #[.int .i64 0, .int .i64 0] 42)) := (Below.refl _ _).alloc (Nat.le_refl _) _
  have HB0 := Lib.hid hb0
  have HR0 := Lib.hid (read_any (h.below hb0 hhi) (Nat.le_trans hhi hb0.size) hl p)
  have hfine := rda_fine b p
  obtain ⟨N, hN⟩ : ∃ N, (rda b p).1 = N := ⟨_, rfl⟩
  obtain ⟨E, hE⟩ : ∃ E, (rda b p).2.1 = E := ⟨_, rfl⟩
  obtain ⟨C, hC⟩ : ∃ C, (rda b p).2.2.1 = C := ⟨_, rfl⟩
  obtain ⟨A, hA⟩ : ∃ A, (rda b p).2.2.2 = A := ⟨_, rfl⟩
  have hp : pln b p = if C ≠ 0 ∨ N ≠ (b.drop p).take (E - p) then ([], 0, 4, 0) else (N, E, 0, 0) := by unfold pln; rw [hN, hE, hC]
  unfold gotV at HR0
  rw [hN, hE, hC] at hfine
  rw [hN, hE, hC, hA] at HR0
  rw [hp]
  clear hN hE hC hA hp hb0
  by_cases hc : C = 0
  · subst hc
    obtain ⟨_, hpE, hEb⟩ := hfine rfl
    obtain ⟨sv, hcut, hsl⟩ := cut_sl h p E (by omega) hEb
    have HSL := Lib.hid (fun wx (hb : Below w.heap.size w wx) => conv_back (hsl.below hb hhi))
    obtain ⟨M, hM⟩ : ∃ M, (b.drop p).take (E - p) = M := ⟨_, rfl⟩
    rw [hM] at HSL ⊢
    clear hM hsl hfine
    by_cases hNM : N = M
    · subst hNM
      rw [if_neg (by simp)]
      have ht : ((bs N).toList == (bs N).toList) = true := by simp
      go_enter Tryz.func171, Tryz.ntmps171
      go_wp2_with fail
      refine HR0.out.mono ?_
      rintro e w1 ⟨rfl, hb1⟩
      simp only [World.size_alloc] at hb1
      have HB1 := Lib.hid hb1
      have hlt := below_lt hb1
      obtain ⟨k0, k1, k3⟩ := res_cells hb1
      have hcv := HSL.out (w1.alloc (.cells #[.int .i64 0, .int .i64 A] 42)) (bel_alloc (HB0.out.trans (hb1.mono (Nat.le_succ _))) _)
      clear hb1
      go_wp2_with fail
      obtain ⟨m0, m1⟩ := res_set (.int .i64 0) (.int .i64 0) k0 k1
      have HFin := Lib.hid (res_below HB1.out (.int .i64 0) (.int .i64 0) (.cells #[.int .i64 0, .int .i64 A] 42))
      exact bodyPost_ret (by simp [results, Tryz.results171, go_sem, m0, m1, hlt]; rfl) rfl ⟨rfl, HFin.out⟩
    · rw [if_pos (.inr hNM)]
      have ht : ((bs N).toList == (bs M).toList) = false := by rw [bs_toList, bs_toList]; simpa using hNM
      go_enter Tryz.func171, Tryz.ntmps171
      go_wp2_with fail
      refine HR0.out.mono ?_
      rintro e w1 ⟨rfl, hb1⟩
      simp only [World.size_alloc] at hb1
      have HB1 := Lib.hid hb1
      have hlt := below_lt hb1
      obtain ⟨k0, k1, k3⟩ := res_cells hb1
      have hcv := HSL.out (w1.alloc (.cells #[.int .i64 0, .int .i64 A] 42)) (bel_alloc (HB0.out.trans (hb1.mono (Nat.le_succ _))) _)
      clear hb1
      go_wp2_with fail
      obtain ⟨m0, m1⟩ := res_set (.int .i64 4) (.int .i64 0) k0 k1
      have HFin := Lib.hid (res_below HB1.out (.int .i64 4) (.int .i64 0) (.cells #[.int .i64 0, .int .i64 A] 42))
      exact bodyPost_ret (by simp [results, Tryz.results171, go_sem, m0, m1, hlt]; rfl) rfl ⟨rfl, HFin.out⟩
  · rw [if_pos (.inl hc)]
    have tc : (C != 0) = true := by simpa using hc
    clear hfine
    · go_enter Tryz.func171, Tryz.ntmps171
      go_wp2_with fail
      refine HR0.out.mono ?_
      rintro e w1 ⟨rfl, hb1⟩
      simp only [World.size_alloc] at hb1
      have HB1 := Lib.hid hb1
      have hlt := below_lt hb1
      obtain ⟨k0, k1, k3⟩ := res_cells hb1
      clear hb1
      go_wp2_with fail
      obtain ⟨m0, m1⟩ := res_set (.int .i64 4) (.int .i64 0) k0 k1
      have HFin := Lib.hid (res_below HB1.out (.int .i64 4) (.int .i64 0) (.cells #[.int .i64 C, .int .i64 A] 42))
      exact bodyPost_ret (by simp [results, Tryz.results171, go_sem, m0, m1, hlt]; rfl) rfl ⟨rfl, HFin.out⟩
end Go.Proofs.YteegekpanadmkaaGreat

/-
  A strings.Builder of the call's own: what it checks of itself, and writing.
-/
namespace Go.Proofs.YteegekpanadmkaaGreat
open Go.RowKit Go.Shelf
set_option linter.unusedVariables false
set_option maxRecDepth 100000
set_option linter.unusedSimpArgs false

/-- Block b is a builder that holds the bytes l, with p for its own address; its row lies in blocks from B on. -/
def Bp (w : World) (B b : Nat) (p : Value) (l : List UInt8) : Prop :=
  ∃ v, w.heap[b]? = some (.cells #[p, v] 231 (0, 0)) ∧ OwnU w B v l ∧ b < B

/-- .. used or not. -/
def Bd (w : World) (B b : Nat) (l : List UInt8) : Prop := Bp w B b (.pointer none) l ∨ Bp w B b (.pointer (some ⟨b, 0, none⟩)) l

theorem Bp.lt {w : World} {B b : Nat} {p : Value} {l : List UInt8} (h : Bp w B b p l) : b < w.heap.size := by
  obtain ⟨v, h1, _⟩ := h
  exact (Array.getElem?_eq_some_iff.mp h1).1
theorem Bp.aside {w w' : World} {B b : Nat} {p : Value} {l : List UInt8} {G : Nat → Prop} (h : Bp w B b p l) (ha : Aside G w w') (h0 : ¬ G b) (hG : ∀ k, B ≤ k → ¬ G k) : Bp w' B b p l := by
  have hl := h.lt
  obtain ⟨v, h1, h2, h3⟩ := h
  exact ⟨v, (ha.block b hl h0).trans h1, h2.aside ha hG, h3⟩
theorem Bd.aside {w w' : World} {B b : Nat} {l : List UInt8} {G : Nat → Prop} (h : Bd w B b l) (ha : Aside G w w') (h0 : ¬ G b) (hG : ∀ k, B ≤ k → ¬ G k) : Bd w' B b l :=
  h.elim (fun h => .inl (h.aside ha h0 hG)) (fun h => .inr (h.aside ha h0 hG))
theorem Bd.below {w w' : World} {B b : Nat} {l : List UInt8} (h : Bd w B b l) (hb : Below w.heap.size w w') : Bd w' B b l :=
  h.aside (G := fun _ => False) (Aside.of_all hb) (fun h => h) fun _ _ h => h
theorem Bp.cells {w : World} {B b : Nat} {p : Value} {l : List UInt8} (h : Bp w B b p l) : ∃ v, w.cell? ⟨b, 0, none⟩ = some p ∧ w.cell? ⟨b, 1, none⟩ = some v ∧ (∀ j, w.frozen? ⟨b, j, none⟩ = false) ∧ OwnU w B v l ∧ w.shape? b = some (231, 2) := by
  obtain ⟨v, h1, h2, h3⟩ := h
  exact ⟨v, by simp [World.cell?, h1], by simp [World.cell?, h1], fun j => by simp [World.frozen?, h1], h2, by simp [World.shape?, h1]⟩
theorem Bp.set {w : World} {B b : Nat} {p : Value} {l : List UInt8} (h : Bp w B b p l) (q : Value) : Bp (w.setCell ⟨b, 0, none⟩ q) B b q l := by
  obtain ⟨v, h1, h2, h3⟩ := h
  exact ⟨v, by simp [World.setCell, Array.getElem?_modify, h1], h2.setCell h3 _, h3⟩
theorem Bp.put {w : World} {B b : Nat} {p v v' : Value} {l : List UInt8} (h1 : w.heap[b]? = some (.cells #[p, v] 231 (0, 0))) (h2 : OwnU w B v' l) (h3 : b < B) : Bp (w.setCell ⟨b, 1, none⟩ v') B b p l :=
  ⟨v', by simp [World.setCell, Array.getElem?_modify, h1], h2.setCell h3 _, h3⟩

theorem sizeB : (Tryz.prog.info? 231).map (fun i => i.size) = some 2 := by kernel_rfl
theorem liesB : liesAt Tryz.prog Tryz.prog.depth 231 (2 / Tryz.prog.cellsOf 231) 0 231 1 = true := by kernel_rfl

/-- How a builder is behind a check of itself, or a write. -/
def BdPost (w : World) (G : Nat → Prop) (B b : Nat) (v : Value) (l : List UInt8) (e : Ending) (w' : World) : Prop :=
  e = .returned v ∧ Bp w' B b (.pointer (some ⟨b, 0, none⟩)) l ∧ Aside G w w'

theorem check_used {w : World} {B b : Nat} {l : List UInt8} (h : Bp w B b (.pointer (some ⟨b, 0, none⟩)) l) : Calls Tryz.prog 185 #[.pointer (some ⟨b, 0, none⟩)] w (BdPost w (fun k => k = b) B b (.tuple #[]) l) := by
  obtain ⟨j, hj, _⟩ := Option.map_eq_some_iff.1 sizeB
  obtain ⟨v, h0, _, _, _, _⟩ := h.cells
  have HH := Lib.hid h
  clear h
  go_enter Tryz.func185, Tryz.ntmps185
  go_wp2
  rw [Lib.run_neq_ptr_same w _ Tryz.underlying229 hj]
  go_wp2
  go_end0
  exact ⟨rfl, HH.out, Aside.refl _ _⟩

theorem check_fresh {w : World} {B b : Nat} {l : List UInt8} (h : Bp w B b (.pointer none) l) : Calls Tryz.prog 185 #[.pointer (some ⟨b, 0, none⟩)] w (BdPost w (fun k => k = b) B b (.tuple #[]) l) := by
  obtain ⟨j, hj, hjs⟩ := Option.map_eq_some_iff.1 sizeB
  obtain ⟨v, h0, _, hf, _, hsh⟩ := h.cells
  have HH := Lib.hid (And.intro (h.set (.pointer (some ⟨b, 0, none⟩))) (Aside.setCell (G := fun k => k = b) w (p := ⟨b, 0, none⟩) (.pointer (some ⟨b, 0, none⟩)) rfl))
  clear h
  have hc1 := Lib.run_to_unsafe (P := Tryz.prog) w (src := 229) (dst := 239) ⟨b, 0, none⟩ Tryz.underlying229 Tryz.underlying239 hj (by rw [hjs]; decide) hsh (Nat.zero_lt_succ 1)
  have hc2 := Lib.run_from_unsafe (P := Tryz.prog) w (src := 239) (dst := 229) ⟨b, 0, none⟩ Tryz.underlying239 Tryz.underlying229 hj hsh liesB
  have hcf : (callFunc 189 #[.pointer (some ⟨b, 0, none⟩)]).run Tryz.prog w = .ok (.value (.pointer (some ⟨b, 0, none⟩))) w := by
    rw [run_callFunc_extern Tryz.func189 (by kernel_rfl) (by kernel_rfl) (by kernel_rfl) (e := Extern.AbiNoEscape.same) (by kernel_rfl), Lib.run_noEscape]
    rfl
  have hne := fun w => Lib.run_neq_ptr_same (P := Tryz.prog) w (tp := 229) ⟨b, 0, none⟩ Tryz.underlying229 hj
  go_enter Tryz.func185, Tryz.ntmps185
  go_wp2
  go_end0
  exact ⟨rfl, HH.out⟩

theorem checkB_any {w : World} {B b : Nat} {l : List UInt8} (h : Bd w B b l) : Calls Tryz.prog 185 #[.pointer (some ⟨b, 0, none⟩)] w (BdPost w (fun k => k = b) B b (.tuple #[]) l) := h.elim check_fresh check_used

end Go.Proofs.YteegekpanadmkaaGreat

/-
  join: the data of pieces.
-/
namespace Go.Proofs.YteegekpanadmkaaGreat
open Go.RowKit Go.Shelf
set_option linter.unusedVariables false
set_option linter.unusedSimpArgs false
set_option maxRecDepth 100000

/-- A write of a text: append, and the store. -/
theorem writeS_step {W : World} {B b : Nat} {p : Value} {l l' : List UInt8} (h : Bp W B b p l) (hl : l.length + l'.length ≤ 1000000) (hB : B ≤ W.heap.size) :
    ∃ v a2 c2 W2, W.cell? ⟨b, 1, none⟩ = some v ∧ (Builtin.append_ #[28, 9] 28 #[v, .string (bs l')]).run Tryz.prog W = .ok (.slice a2 (l.length + l'.length) c2) W2 ∧
      W2.cell? ⟨b, 1, none⟩ = some v ∧ W2.frozen? ⟨b, 1, none⟩ = false ∧ Bp (W2.setCell ⟨b, 1, none⟩ (.slice a2 (l.length + l'.length) c2)) B b p (l ++ l') ∧
      Aside (fun k => k = b ∨ B ≤ k) W (W2.setCell ⟨b, 1, none⟩ (.slice a2 (l.length + l'.length) c2)) := by
  have hlt := h.lt
  obtain ⟨v, h1, h2, h3⟩ := h
  obtain ⟨a2, c2, W2, hr, ho, hg⟩ := run_appS (w := W) B v l l' h2 hl hB
  have ha : Aside (fun k => B ≤ k) W W2 := Aside.grown hg fun k hk => h2.row k hk
  have hb2 : W2.heap[b]? = some (.cells #[p, v] 231 (0, 0)) := (ha.block b hlt (by omega)).trans h1
  refine ⟨v, a2, c2, W2, by simp [World.cell?, h1], hr, by simp [World.cell?, hb2], by simp [World.frozen?, hb2], Bp.put hb2 ho h3, ?_⟩
  exact (ha.mono fun _ _ h => .inr h).trans (Aside.setCell _ _ (.inl rfl))

theorem writeS_any {w : World} {B b : Nat} {l l' : List UInt8} (h : Bd w B b l) (hl : l.length + l'.length ≤ 1000000) (hB : B ≤ w.heap.size) :
    Calls Tryz.prog 179 #[.pointer (some ⟨b, 0, none⟩), .string (bs l')] w (BdPost w (fun k => k = b ∨ B ≤ k) B b (.tuple #[.int .i64 l'.length, .nilIface]) (l ++ l')) := by
  have HC := Lib.hid (checkB_any h)
  obtain ⟨n, hn⟩ : ∃ n, l'.length = n := ⟨_, rfl⟩
  clear h
  have hsz : (bs l').size = n := by rw [bs_size, hn]
  rw [hn]
  go_enter Tryz.func179, Tryz.ntmps179
  go_wp2_with fail
  refine HC.out.mono ?_; rintro e w1 ⟨rfl, hp, ha⟩
  have hs := ha.size
  replace ha := ha.mono (G' := fun k => k = b ∨ B ≤ k) fun _ _ h => .inl h
  obtain ⟨v, a2, c2, W2, q1, hr, q2, q3, hq, ha2⟩ := writeS_step (W := w1) (l' := l') hp hl (by omega)
  rw [hn] at hr hq ha2
  have HR := Lib.hid hr
  have HH := Lib.hid (And.intro hq (ha.trans ha2))
  clear hr hq ha ha2 hp hs hn
  go_wp2_with (at_builtin; refine wpList_append_run (.tmp 12) (.tmp 13) 28 9 rfl rfl rfl rfl HR.out ?_)
  go_ret2
  exact ⟨rfl, HH.out⟩

theorem joined_take {L : List Pc} {k : Nat} (h : k < L.length) : joined (L.take (k + 1)) = joined (L.take k) ++ L[k].1 := by
  rw [List.take_add_one, List.getElem?_eq_getElem h, Option.toList_some, joined_app]
  simp [joined]

theorem joined_part (L : List Pc) (k : Nat) : (joined (L.take k)).length ≤ (joined L).length := by
  have := congrArg (fun x => (joined x).length) (List.take_append_drop k L)
  simp only [joined_app, List.length_append] at this
  omega

set_option maxHeartbeats 4000000 in
theorem joinP_any {w : World} {B : Nat} {v : Value} {L : List Pc} (h : OwnP w B v L) (hl : (joined L).length ≤ 1000000) (hn : L.length ≤ 1000000) : Calls Tryz.prog 173 #[v] w (Tells w (.string (bs (joined L)))) := by
  have HO := Lib.hid h
  obtain ⟨av, cv, rfl⟩ := h.shape
  obtain ⟨n, hnn⟩ : ∃ n, L.length = n := ⟨_, rfl⟩
  have HN := Lib.hid hnn
  rw [hnn] at HO hn ⊢
  have HL := Lib.hid hl
  clear h hnn hl
  have hb0 : Below w.heap.size w (w.alloc (.cells #[.pointer none, .slice none 0 0] 231)) := (Below.refl _ _).alloc (Nat.le_refl _) _
  have hd0 : Bd (w.alloc (.cells #[.pointer none, .slice none 0 0] 231)) (w.heap.size + 1) w.heap.size [] := .inl ⟨.slice none 0 0, heap_alloc_new w _, OwnU.nil _ _, by omega⟩
  have HB0 := Lib.hid hb0
  have HD0 := Lib.hid hd0
  clear hb0 hd0
  go_enter Tryz.func173, Tryz.ntmps173
  go_wp2_with fail
  go_loopg [8] n (fun g v8 wr => ∃ k : Nat, k + g = n ∧ v8 = .int .i64 k ∧ Hid (Bd wr (w.heap.size + 1) w.heap.size (joined (L.take k))) ∧ Hid (Below w.heap.size w wr) ∧ w.heap.size + 1 ≤ wr.heap.size)
  case atStart => exact ⟨0, by omega, rfl, HD0, HB0, by simp⟩
  case round =>
    obtain ⟨k, hk, rfl, HD, HB, hsz⟩ := hrel
    by_cases hlt0 : k < n
    · have hlt : k < L.length := by have := HN.out; omega
      have hown := (HO.out)
      obtain ⟨g0, c0, he0, hc0, hc1⟩ := OwnP.at_ (v := .slice av L.length cv) (K := L) (w := w) (B := B) (by rw [HN.out]; exact HO.out) k hlt
      injection he0 with he1 he2 he3
      subst he1
      subst he3
      clear he2 hown
      have hg0 : g0 < w.heap.size := World.block_lt_of_cell? w _ hc0
      have d0 := (HB.out.cell (p := ⟨g0, k * 2, none⟩) hg0).trans hc0
      have d1 := (HB.out.cell (p := ⟨g0, k * 2 + 1, none⟩) hg0).trans hc1
      have hjt := joined_take hlt
      have hjp := joined_part L (k + 1)
      obtain ⟨x, hx⟩ : ∃ x, L[k].1 = x := ⟨_, rfl⟩
      obtain ⟨f, hf⟩ : ∃ f, L[k].2 = f := ⟨_, rfl⟩
      rw [hx] at d0 hjt
      rw [hf] at d1
      have hal : Below wr.heap.size wr (wr.alloc (.cells #[.string (bs x), .bool f] 212)) := (Below.refl _ _).alloc (Nat.le_refl _) _
      have HW := Lib.hid (writeS_any (l' := x) (HD.out.below hal) (by rw [hjt, List.length_append] at hjp; have := HL.out; omega) (by have := hal.size; omega))
      have HBA := Lib.hid (bel_call HB.out hal)
      have HJ := Lib.hid hjt
      clear hc0 hc1 hjt hjp hx hf hal HD
      go_wp2_with fail
      refine HW.out.mono ?_
      rintro e w2 ⟨rfl, hp, ha2⟩
      have hs2 := ha2.size
      simp only [World.size_alloc] at hs2
      have HD2 : Hid (Bd w2 (w.heap.size + 1) w.heap.size (joined (L.take (k + 1)))) := by rw [HJ.out]; exact .inr hp
      have HB2 := Lib.hid (below_aside HBA.out ha2 fun b hb => ⟨Nat.lt_of_lt_of_le hb HBA.out.size, by omega⟩)
      clear hp ha2
      go_wp2_with fail
      go_roundg (n - (k + 1))
      case measure => omega
      case rel => exact ⟨k + 1, by omega, by go_num, HD2, HB2, by omega⟩
    · have hke : k = n := by omega
      subst hke
      have hd := HD.out
      rw [List.take_of_length_le (by have := HN.out; omega)] at hd
      have hBF : Lib.IsBuilderF 231 5 w.heap.size w.heap.size (Lib.byteCells (joined L)) wr := by
        have key : ∀ p, Bp wr (w.heap.size + 1) w.heap.size p (joined L) → Lib.BuilderAtF 231 5 w.heap.size w.heap.size p (Lib.byteCells (joined L)) wr := by
          rintro p ⟨v, h1, h2, h3⟩
          have h4 := h2.mono (B' := w.heap.size) (by omega)
          have h5 : wr.ownsRowF w.heap.size 5 1 v (Lib.byteCells (joined L)).length (Lib.byteCells (joined L)) := by rw [Lib.byteCells_length]; exact h4
          refine ⟨Nat.le_refl _, v, h1, h5, fun e => ?_⟩
          have := h2.row _ e
          omega
        exact hd.elim (fun h => .inl (key _ h)) (fun h => .inr (key _ h))
      have HS := Lib.hid (Tryz.Builder_String_any_k w.heap.size w.heap.size (joined L) wr hBF (by omega))
      clear hd hBF HD
      go_wp2_with fail
      refine HS.out.mono ?_
      rintro e w2 ⟨rfl, _, hb2, _⟩
      have HB2 := Lib.hid (HB.out.trans hb2)
      clear hb2
      go_wp2_with fail
      go_ret
      exact ⟨rfl, HB2.out⟩
end Go.Proofs.YteegekpanadmkaaGreat

/-
  bounded, split.
-/
namespace Go.Proofs.YteegekpanadmkaaGreat
open Go.RowKit Go.Shelf
set_option linter.unusedVariables false
set_option linter.unusedSimpArgs false
set_option maxRecDepth 100000

theorem bounded_yes (t : Int) (h0 : 0 ≤ t) (h1 : t ≤ 65535) (w : World) : Calls Tryz.prog 169 #[.int .i64 t] w fun e w' => e = .returned (.bool true) ∧ w = w' := by
  have t1 : decide ((0 : Int) ≤ t) = true := by simpa using h0
  have t2 : decide (t ≤ (65535 : Int)) = true := by simpa using h1
  go_enter Tryz.func169, Tryz.ntmps169
  go_wp2
  go_ret
  exact ⟨rfl, rfl⟩

theorem bounded_no (t : Int) (h : t < 0 ∨ 65535 < t) (w : World) : Calls Tryz.prog 169 #[.int .i64 t] w fun e w' => e = .returned (.bool false) ∧ w = w' := by
  by_cases h0 : 0 ≤ t
  · have t1 : decide ((0 : Int) ≤ t) = true := by simpa using h0
    have t2 : decide (t ≤ (65535 : Int)) = false := by simp; omega
    clear h
    go_enter Tryz.func169, Tryz.ntmps169
    go_wp2
    go_ret
    exact ⟨rfl, rfl⟩
  · have t1 : decide ((0 : Int) ≤ t) = false := by simp; omega
    clear h
    go_enter Tryz.func169, Tryz.ntmps169
    go_wp2
    go_ret
    exact ⟨rfl, rfl⟩

/-- What split tells. -/
def SplitPost (w : World) (R : RR) (en : Ending) (w' : World) : Prop :=
  ∃ v, en = .returned (.tuple #[v, .int .i64 R.code]) ∧ OwnP w' w.heap.size v R.pcs ∧ Below w.heap.size w w'

theorem wf_small {t : Int} (h0 : 0 ≤ t) (h1 : t ≤ 65535) : (Lit.int .i64 t).wf = true := WalkArith.wf_i64 (by omega)

set_option maxHeartbeats 4000000 in
theorem split_any (t : Int) (d : List UInt8) (hd : d.length ≤ 1000000) (w : World) : Calls Tryz.prog 163 #[.int .i64 t, .string (bs d)] w (SplitPost w (spl t d)) := by
  have hsz : (bs d).size = d.length := bs_size d
  by_cases ht : t < 0 ∨ 65535 < t
  · have e : spl t d = .bad 5 0 := by unfold spl; rw [if_pos ht]
    rw [e]
    have HB := Lib.hid (bounded_no t ht w)
    clear ht e hsz
    go_enter Tryz.func163, Tryz.ntmps163
    go_wp2_with fail
    refine HB.out.mono ?_; rintro e w1 ⟨rfl, rfl⟩
    go_wp2_with fail
    go_ret2
    exact ⟨_, rfl, OwnP.nil _ _, Below.refl _ _⟩
  · have HB := Lib.hid (bounded_yes t (by omega) (by omega) w)
    by_cases hlong : 65535 < d.length
    · have e : spl t d = .bad 3 0 := by unfold spl; rw [if_neg ht, if_pos hlong]
      rw [e]
      have t1 : decide ((65535 : Int) < d.length) = true := by simp; omega
      clear ht e
      go_enter Tryz.func163, Tryz.ntmps163
      go_wp2_with fail
      refine HB.out.mono ?_; rintro e w1 ⟨rfl, rfl⟩
      go_wp2_with fail
      go_ret2
      exact ⟨_, rfl, OwnP.nil _ _, Below.refl _ _⟩
    · have e : spl t d = goP (pln d) d 0 d.length (kinds t) 0 [] := by unfold spl; rw [if_neg ht, if_neg hlong]
      rw [e]
      have t1 : decide ((65535 : Int) < d.length) = false := by simp; omega
      obtain ⟨cap, W, hcv, ho, hbW, hltW⟩ := conv_B w d (by omega)
      have HR := Lib.hid (show Calls Tryz.prog 170 #[.agg #[.slice (some ⟨w.heap.size, 0, none⟩) d.length cap, .int .i64 0, .int .i64 0, .int .i64 d.length, .func (.func 171) #[] #[], .slice none 0 0], .int .i64 t] W (ReadPost W (goP (pln d) d 0 d.length (kinds t) 0 [])) from
        read_plain (s := 0) (p := 0) t (wf_small (by omega) (by omega)) ho.sl (Nat.le_refl _) hd (Nat.zero_le _) (Nat.le_refl _) fun wx hs hh p => plain_any hs hh hd p)
      obtain ⟨R, hR⟩ : ∃ R, goP (pln d) d 0 d.length (kinds t) 0 [] = R := ⟨_, rfl⟩
      rw [hR] at HR ⊢
      have HW := Lib.hid hbW
      clear ht hlong e ho hbW hltW hR
      go_enter Tryz.func163, Tryz.ntmps163
      go_wp2_with fail
      refine HB.out.mono ?_; rintro e w1 ⟨rfl, rfl⟩
      go_wp2_with fail
      refine HR.out.mono ?_; rintro e w1 ⟨v, rfl, hown, hb1⟩
      have HO := Lib.hid hown
      have HB1 := Lib.hid (bel_call HW.out hb1)
      have hws := HW.out.size
      clear hown hb1
      go_wp2_with fail
      go_quiet (fail)
      go_wp2_with fail
      go_ret2
      exact ⟨v, rfl, ((HO.out.mono hws).below ((Below.refl _ _).alloc (Nat.le_refl _) _)).below (below_drewN (Below.refl _ _) _), below_drewN (bel_alloc HB1.out _) _⟩
end Go.Proofs.YteegekpanadmkaaGreat

/-
  Check, Target, Address, Least.
-/
namespace Go.Proofs.YteegekpanadmkaaGreat
open Go.RowKit Go.Shelf
set_option linter.unusedVariables false
set_option linter.unusedSimpArgs false
set_option maxRecDepth 100000

theorem split_ok {t : Int} {d : List UInt8} {L : List Pc} (h : spl t d = .ok L) (hd : d.length ≤ 1000000) (w : World) : Calls Tryz.prog 163 #[.int .i64 t, .string (bs d)] w fun en w' => ∃ v, en = .returned (.tuple #[v, .int .i64 0]) ∧ OwnP w' w.heap.size v L ∧ Below w.heap.size w w' := by
  have := split_any t d hd w
  rw [h] at this
  exact this
theorem split_bad {t : Int} {d : List UInt8} {c : Int} {a : Nat} (h : spl t d = .bad c a) (hd : d.length ≤ 1000000) (w : World) : Calls Tryz.prog 163 #[.int .i64 t, .string (bs d)] w fun en w' => ∃ v, en = .returned (.tuple #[v, .int .i64 c]) ∧ Below w.heap.size w w' := by
  have := split_any t d hd w
  rw [h] at this
  refine this.mono ?_
  rintro e w' ⟨v, rfl, _, hb⟩
  exact ⟨v, rfl, hb⟩

theorem rcheckD_any (t : Int) (d : List UInt8) (hd : d.length ≤ 1000000) (w : World) : Calls Tryz.prog 158 #[.int .i64 t, .string (bs d)] w (Tells w (.int .i64 (spl t d).code)) := by
  have HS := Lib.hid (split_any t d hd w)
  obtain ⟨R, hR⟩ : ∃ R, spl t d = R := ⟨_, rfl⟩
  rw [hR] at HS ⊢
  clear hR
  go_enter Tryz.func158, Tryz.ntmps158
  go_wp2_with fail
  refine HS.out.mono ?_; rintro e w1 ⟨v, rfl, hown, hb1⟩
  have HB := Lib.hid hb1
  clear hown hb1
  go_wp2_with fail
  go_ret
  exact ⟨rfl, HB.out⟩

theorem fits_len {ks : List PK} {L : List Pc} (h : Fits ks L) : L.length = ks.length := by
  induction h with
  | nil => rfl
  | fix h h2 ih => simp [ih]
  | nam h h2 ih => simp [ih]
  | txt h => rfl
  | rst => rfl

end Go.Proofs.YteegekpanadmkaaGreat
