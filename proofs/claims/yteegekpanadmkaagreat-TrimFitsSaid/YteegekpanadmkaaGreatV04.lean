/-
  read, where names stand as their bytes.
-/
import Derived.Test.YteegekpanadmkaaGreatV03
import Derived.Test.YteegekpanadmkaaGreatV02
import Derived.Test.YteegekpanadmkaaGreatV01
import Derived.Test.YteegekpanadmkaaGreatShelf
import Derived.Lib.FrozenHead
import Derived.BigQuiet
import Derived.Lib.AppendZeros
import Derived.Deep.RegionHeld3
namespace Go.Proofs.YteegekpanadmkaaGreat
open Go.RowKit Go.Shelf
set_option linter.unusedVariables false
set_option linter.unusedSimpArgs false
set_option maxRecDepth 100000

set_option maxHeartbeats 8000000 in
theorem read_plain {w : World} {s p e : Nat} {vb : Value} {b : List UInt8} {lo hi : Nat} {F : Nat → Got} (t : Int) (ht : (Lit.int .i64 t).wf = true) (hS : Sl w lo hi vb (iz b)) (hhi : hi ≤ w.heap.size) (hbl : b.length ≤ 1000000) (hpe : p ≤ e) (he : e ≤ b.length)
    (hfind : ∀ wx, Sl wx lo hi vb (iz b) → hi ≤ wx.heap.size → ∀ p : Nat, Calls Tryz.prog 171 #[vb, .int .i64 p] wx (Tells wx (gotV (F p)))) :
    Calls Tryz.prog 170 #[.agg #[vb, .int .i64 s, .int .i64 p, .int .i64 e, (.func (.func 171) #[] #[]), .slice none 0 0], .int .i64 t] w (ReadPost w (goP F b s e (kinds t) p [])) := by
  have hmf : ∀ (fn : Fn) (first cap : Array Value) (w : World), (Instr.makeFunc fn first cap).run Tryz.prog w = .ok (.func fn first cap) w := fun _ _ _ _ => rfl
  have HPt := Lib.hid (fun w => parts_any w)
  obtain ⟨R, hR⟩ : ∃ R, goP F b s e (kinds t) p [] = R := ⟨_, rfl⟩
  rw [hR]
  have HR := Lib.hid hR
  have HSM0 := Lib.hid (kinds_small t).2
  have HL0 := Lib.hid (kinds_small t).1
  have HSH := Lib.hid hS
  have HFD := Lib.hid hfind
  obtain ⟨av, cv, rfl, _⟩ := hS
  rw [iz_len] at HSH HFD ⊢
  clear hR hfind
  go_enter_defers Tryz.func170, Tryz.ntmps170
  go_wp2_with fail
  refine (HPt.out _).mono ?_
  rintro e0 w1 ⟨m, rfl, hb1, hlook⟩
  have HB1 := Lib.hid hb1
  rcases hlook t ht with ⟨hk, hl⟩ | ⟨v, hrow, hl⟩
  · have hrw := row_r (W := w1)
    have hbw := bel_call HB1.out hrw.2
    obtain ⟨ks, hks⟩ : ∃ ks, [PK.rst] = ks := ⟨_, rfl⟩
    rw [hk, hks] at HR HSM0 HL0
    have HN := Lib.hid (show ks.length = 1 by rw [← hks]; rfl)
    have HROW := Lib.hid (show RowK (w1.alloc (.cells #[.func (.func 177) #[] #[]] 228)) (w1.heap.size + 1) (.slice (some ⟨w1.heap.size, 0, none⟩) 1 1) ks from hks ▸ hrw.1)
    obtain ⟨HRR0, HCS0, HKC0, HSLA0, HFI0, HBAD0, HFIN0⟩ := rd_setup (f := 171) hbw HSH.out hhi HFD.out
    have HRR := Lib.hid HRR0
    have HCS := Lib.hid HCS0
    have HKC := Lib.hid HKC0
    have HSLA := Lib.hid HSLA0
    have HFI := Lib.hid HFI0
    have HBAD := Lib.hid HBAD0
    have HFIN := Lib.hid HFIN0
    have HSM := HSM0
    clear HRR0 HCS0 HKC0 HSLA0 HFI0 HBAD0 HFIN0 hbw hrw hks hb1 hlook HB1 HPt
    go_wp2_with fail
    obtain ⟨w4, hw4⟩ : ∃ w4, w1.alloc (.cells #[.func (.func 177) #[] #[]] 228) = w4 := ⟨_, rfl⟩
    rw [hw4] at HROW HRR HCS HKC HSLA HFI HBAD HFIN ⊢
    obtain ⟨mm, hmm⟩ : ∃ mm, w1.heap.size + 1 = mm := ⟨_, rfl⟩
    obtain ⟨gg, hgg⟩ : ∃ gg, w1.heap.size = gg := ⟨_, rfl⟩
    rw [hmm, hgg] at HROW
    rw [hgg]
    clear hw4 hmm hgg
    obtain ⟨B, hB⟩ : ∃ B, w4.heap.size = B := ⟨_, rfl⟩
    have HB := Lib.hid hB
    rw [hB] at HRR HKC HSLA HFI HBAD HFIN
    clear hB
    go_loopg [22] 1 (fun g v22 wr => ∃ (k q : Nat) (acc : List Pc), k + g = 1 ∧ v22 = .int .i64 k ∧ q ≤ e ∧ acc.length = k ∧ Hid (Rr wr B w.heap.size (.slice av b.length cv) (.func (.func 171) #[] #[]) s q e acc) ∧ Hid (Aside (RG B w.heap.size) w4 wr) ∧ Hid (goP F b s e (ks.drop k) q acc = R))
    case atStart => exact ⟨0, p, [], by omega, rfl, hpe, rfl, HRR, Aside.refl _ _, HR⟩
    case round =>
      obtain ⟨k, q, acc, hk, rfl, hqe, hacc, HRr, HAs, HG⟩ := hrel
      by_cases hlt0 : k < 1
      · have hlt : k < ks.length := by have := HN.out; omega
        have hrow := (HROW.out).over (by omega) HCS.out (Nat.le_of_eq HB.out) HAs.out
        obtain ⟨g0, c0, _, he0, hcell⟩ := hrow
        injection he0 with he1 he2 he3
        injection he1 with he1
        injection he1 with he1 _ _
        subst he1
        clear he2 he3
        obtain ⟨u, hu, hpv⟩ := hcell k hlt
        have hg := HG.out
        rw [List.drop_eq_getElem_cons hlt, goP] at hg
        have hle := fun x y => step_le (F := F) (b := b) (s := s) (x := x) (q := y) hqe (k := ks[k])
        have hsm := HSM.out ks[k] (List.getElem_mem hlt)
        have HSL := Lib.hid (HSLA.out _ HAs.out)
        have HFO := Lib.hid (HFI.out.later HAs.out)
        have HST : Hid (∀ k0, ks[k] = k0 → stepP F b s e q ks[k] = stepP F b s e q k0) := fun k0 h => by rw [h]
        obtain ⟨k0, hk0⟩ : ∃ k0, ks[k] = k0 := ⟨_, rfl⟩
        rw [hk0] at hpv hg hle hsm
        obtain ⟨Y, hY⟩ : ∃ Y, stepP F b s e q k0 = Y := ⟨_, rfl⟩
        rw [hY] at hg hle
        clear hcell HST hk0
        cases k0 with
        | fix n =>
          obtain ⟨bx, _, rfl, hbx⟩ := hpv
          have HC : Hid (Calls Tryz.prog 186 #[.pointer (some ⟨w.heap.size, 0, none⟩), .pointer (some ⟨bx, 0, none⟩)] wr (StepPost wr B w.heap.size (.slice av b.length cv) (.func (.func 171) #[] #[]) s e acc Y)) := hY ▸ fixedR_any HRr.out HSL.out he hqe (by have := hsm n rfl; omega) hbl hbx (by omega)
          clear hY
          rcases Y with ⟨x, q'⟩ | ⟨cc, aa⟩
          · have hq' := hle x q' rfl
            have HG2 := Lib.hid hg
            have HCC := Lib.hid (show Calls Tryz.prog 186 #[.pointer (some ⟨w.heap.size, 0, none⟩), .pointer (some ⟨bx, 0, none⟩)] wr (Gone wr B w.heap.size (.slice av b.length cv) (.func (.func 171) #[] #[]) s e q' (acc ++ [x])) from HC.out)
            clear hg hle hsm HC
            go_wp2_with fail
            refine HCC.out.mono ?_; rintro en w5 ⟨rfl, hr5, ha5⟩
            have HR5 := Lib.hid hr5
            have HA5 := Lib.hid (HAs.out.trans ha5)
            clear hr5 ha5
            go_wp2_with fail
            go_roundg (1 - (k + 1))
            case measure => omega
            case rel => exact ⟨k + 1, q', acc ++ [x], by omega, by go_num, hq', by rw [List.length_append, hacc]; rfl, HR5, HA5, HG2⟩
          · have hRb : R = .bad cc aa := hg.symm
            subst hRb
            have HCC := Lib.hid (show Calls Tryz.prog 186 #[.pointer (some ⟨w.heap.size, 0, none⟩), .pointer (some ⟨bx, 0, none⟩)] wr (Lost wr B w.heap.size cc aa) from HC.out)
            clear hg hle hsm HC
            go_wp2_with fail
            refine HCC.out.mono ?_; rintro en w5 ⟨rfl, ha5⟩
            have HAd := Lib.hid (HAs.out.trans ha5)
            obtain ⟨k0, k1, k2, f2, f3⟩ := HKC.out _ HAd.out
            refine leaves_cons (f := 175) (args := #[.pointer (some ⟨w.heap.size + 1, 0, none⟩), .pointer (some ⟨w.heap.size + 1 + 1, 0, none⟩)]) (by simp) (by simp [go_sem]) ?_
            refine (mcatch_fault (w.heap.size + 1) (w.heap.size + 1 + 1) (by omega) cc aa _ _ k0 k1 k2 f2 f3).mono ?_
            rintro e9 u' w9 ⟨rfl, rfl, hc9⟩
            obtain ⟨_, m0, m1, m2⟩ := id hc9
            simp [Leaves, settle, results, Tryz.results170, go_sem, m0, m1, m2]
            exact HBAD.out _ _ _ _ HAd.out hc9
        | nam =>
          have hpv : u = _ := hpv; subst hpv
          have HC : Hid (Calls Tryz.prog 182 #[.pointer (some ⟨w.heap.size, 0, none⟩)] wr (StepPost wr B w.heap.size (.slice av b.length cv) (.func (.func 171) #[] #[]) s e acc Y)) := hY ▸ nameR_plain HRr.out HFO.out (by omega) (by omega)
          clear hY
          rcases Y with ⟨x, q'⟩ | ⟨cc, aa⟩
          · have hq' := hle x q' rfl
            have HG2 := Lib.hid hg
            have HCC := Lib.hid (show Calls Tryz.prog 182 #[.pointer (some ⟨w.heap.size, 0, none⟩)] wr (Gone wr B w.heap.size (.slice av b.length cv) (.func (.func 171) #[] #[]) s e q' (acc ++ [x])) from HC.out)
            clear hg hle hsm HC
            go_wp2_with fail
            refine HCC.out.mono ?_; rintro en w5 ⟨rfl, hr5, ha5⟩
            have HR5 := Lib.hid hr5
            have HA5 := Lib.hid (HAs.out.trans ha5)
            clear hr5 ha5
            go_wp2_with fail
            go_roundg (1 - (k + 1))
            case measure => omega
            case rel => exact ⟨k + 1, q', acc ++ [x], by omega, by go_num, hq', by rw [List.length_append, hacc]; rfl, HR5, HA5, HG2⟩
          · have hRb : R = .bad cc aa := hg.symm
            subst hRb
            have HCC := Lib.hid (show Calls Tryz.prog 182 #[.pointer (some ⟨w.heap.size, 0, none⟩)] wr (Lost wr B w.heap.size cc aa) from HC.out)
            clear hg hle hsm HC
            go_wp2_with fail
            refine HCC.out.mono ?_; rintro en w5 ⟨rfl, ha5⟩
            have HAd := Lib.hid (HAs.out.trans ha5)
            obtain ⟨k0, k1, k2, f2, f3⟩ := HKC.out _ HAd.out
            refine leaves_cons (f := 175) (args := #[.pointer (some ⟨w.heap.size + 1, 0, none⟩), .pointer (some ⟨w.heap.size + 1 + 1, 0, none⟩)]) (by simp) (by simp [go_sem]) ?_
            refine (mcatch_fault (w.heap.size + 1) (w.heap.size + 1 + 1) (by omega) cc aa _ _ k0 k1 k2 f2 f3).mono ?_
            rintro e9 u' w9 ⟨rfl, rfl, hc9⟩
            obtain ⟨_, m0, m1, m2⟩ := id hc9
            simp [Leaves, settle, results, Tryz.results170, go_sem, m0, m1, m2]
            exact HBAD.out _ _ _ _ HAd.out hc9
        | txt =>
          have hpv : u = _ := hpv; subst hpv
          have HC : Hid (Calls Tryz.prog 183 #[.pointer (some ⟨w.heap.size, 0, none⟩)] wr (StepPost wr B w.heap.size (.slice av b.length cv) (.func (.func 171) #[] #[]) s e acc Y)) := hY ▸ textsR_any HRr.out HSL.out he hqe hbl (by omega)
          clear hY
          rcases Y with ⟨x, q'⟩ | ⟨cc, aa⟩
          · have hq' := hle x q' rfl
            have HG2 := Lib.hid hg
            have HCC := Lib.hid (show Calls Tryz.prog 183 #[.pointer (some ⟨w.heap.size, 0, none⟩)] wr (Gone wr B w.heap.size (.slice av b.length cv) (.func (.func 171) #[] #[]) s e q' (acc ++ [x])) from HC.out)
            clear hg hle hsm HC
            go_wp2_with fail
            refine HCC.out.mono ?_; rintro en w5 ⟨rfl, hr5, ha5⟩
            have HR5 := Lib.hid hr5
            have HA5 := Lib.hid (HAs.out.trans ha5)
            clear hr5 ha5
            go_wp2_with fail
            go_roundg (1 - (k + 1))
            case measure => omega
            case rel => exact ⟨k + 1, q', acc ++ [x], by omega, by go_num, hq', by rw [List.length_append, hacc]; rfl, HR5, HA5, HG2⟩
          · have hRb : R = .bad cc aa := hg.symm
            subst hRb
            have HCC := Lib.hid (show Calls Tryz.prog 183 #[.pointer (some ⟨w.heap.size, 0, none⟩)] wr (Lost wr B w.heap.size cc aa) from HC.out)
            clear hg hle hsm HC
            go_wp2_with fail
            refine HCC.out.mono ?_; rintro en w5 ⟨rfl, ha5⟩
            have HAd := Lib.hid (HAs.out.trans ha5)
            obtain ⟨k0, k1, k2, f2, f3⟩ := HKC.out _ HAd.out
            refine leaves_cons (f := 175) (args := #[.pointer (some ⟨w.heap.size + 1, 0, none⟩), .pointer (some ⟨w.heap.size + 1 + 1, 0, none⟩)]) (by simp) (by simp [go_sem]) ?_
            refine (mcatch_fault (w.heap.size + 1) (w.heap.size + 1 + 1) (by omega) cc aa _ _ k0 k1 k2 f2 f3).mono ?_
            rintro e9 u' w9 ⟨rfl, rfl, hc9⟩
            obtain ⟨_, m0, m1, m2⟩ := id hc9
            simp [Leaves, settle, results, Tryz.results170, go_sem, m0, m1, m2]
            exact HBAD.out _ _ _ _ HAd.out hc9
        | rst =>
          have hpv : u = _ := hpv; subst hpv
          have HC : Hid (Calls Tryz.prog 177 #[.pointer (some ⟨w.heap.size, 0, none⟩)] wr (StepPost wr B w.heap.size (.slice av b.length cv) (.func (.func 171) #[] #[]) s e acc Y)) := hY ▸ restR_any HRr.out HSL.out he hqe (by omega)
          clear hY
          rcases Y with ⟨x, q'⟩ | ⟨cc, aa⟩
          · have hq' := hle x q' rfl
            have HG2 := Lib.hid hg
            have HCC := Lib.hid (show Calls Tryz.prog 177 #[.pointer (some ⟨w.heap.size, 0, none⟩)] wr (Gone wr B w.heap.size (.slice av b.length cv) (.func (.func 171) #[] #[]) s e q' (acc ++ [x])) from HC.out)
            clear hg hle hsm HC
            go_wp2_with fail
            refine HCC.out.mono ?_; rintro en w5 ⟨rfl, hr5, ha5⟩
            have HR5 := Lib.hid hr5
            have HA5 := Lib.hid (HAs.out.trans ha5)
            clear hr5 ha5
            go_wp2_with fail
            go_roundg (1 - (k + 1))
            case measure => omega
            case rel => exact ⟨k + 1, q', acc ++ [x], by omega, by go_num, hq', by rw [List.length_append, hacc]; rfl, HR5, HA5, HG2⟩
          · have hRb : R = .bad cc aa := hg.symm
            subst hRb
            have HCC := Lib.hid (show Calls Tryz.prog 177 #[.pointer (some ⟨w.heap.size, 0, none⟩)] wr (Lost wr B w.heap.size cc aa) from HC.out)
            clear hg hle hsm HC
            go_wp2_with fail
            refine HCC.out.mono ?_; rintro en w5 ⟨rfl, ha5⟩
            have HAd := Lib.hid (HAs.out.trans ha5)
            obtain ⟨k0, k1, k2, f2, f3⟩ := HKC.out _ HAd.out
            refine leaves_cons (f := 175) (args := #[.pointer (some ⟨w.heap.size + 1, 0, none⟩), .pointer (some ⟨w.heap.size + 1 + 1, 0, none⟩)]) (by simp) (by simp [go_sem]) ?_
            refine (mcatch_fault (w.heap.size + 1) (w.heap.size + 1 + 1) (by omega) cc aa _ _ k0 k1 k2 f2 f3).mono ?_
            rintro e9 u' w9 ⟨rfl, rfl, hc9⟩
            obtain ⟨_, m0, m1, m2⟩ := id hc9
            simp [Leaves, settle, results, Tryz.results170, go_sem, m0, m1, m2]
            exact HBAD.out _ _ _ _ HAd.out hc9
      · have hke : k = ks.length := by have := HN.out; omega
        have hg := HG.out
        rw [List.drop_eq_nil_of_le (by omega), goP] at hg
        have c2 := HRr.out.c2
        have c3 := HRr.out.c3
        have t1 : ¬ ((k : Int) < 1) := by omega
        by_cases hlast : q < e
        · rw [if_pos hlast] at hg
          subst hg
          have t2 : decide ((q : Int) < e) = true := by simp; omega
          have HFl := Lib.hid (rfail_any HRr.out)
          go_wp2_with fail
          refine HFl.out.mono ?_; rintro en w5 ⟨rfl, rfl⟩
          have HAd := Lib.hid (HAs.out)
          obtain ⟨k0, k1, k2, f2, f3⟩ := HKC.out _ HAd.out
          refine leaves_cons (f := 175) (args := #[.pointer (some ⟨w.heap.size + 1, 0, none⟩), .pointer (some ⟨w.heap.size + 1 + 1, 0, none⟩)]) (by simp) (by simp [go_sem]) ?_
          refine (mcatch_fault (w.heap.size + 1) (w.heap.size + 1 + 1) (by omega) 4 s _ _ k0 k1 k2 f2 f3).mono ?_
          rintro e9 u' w9 ⟨rfl, rfl, hc9⟩
          obtain ⟨_, m0, m1, m2⟩ := id hc9
          simp [Leaves, settle, results, Tryz.results170, go_sem, m0, m1, m2]
          exact HBAD.out _ _ _ _ HAd.out hc9
        · rw [if_neg hlast] at hg
          subst hg
          have t2 : decide ((q : Int) < e) = false := by simp; omega
          obtain ⟨vp, c5, hown⟩ := HRr.out.c5
          obtain ⟨ap, cp, hvp⟩ := hown.shape
          obtain ⟨zl, hzl⟩ : ∃ zl, acc.length = zl := ⟨_, rfl⟩
          rw [hzl] at hvp
          subst hvp
          clear hzl
          have HOwn := Lib.hid hown
          obtain ⟨k0, k1, k2, f2, f3⟩ := HKC.out _ HAs.out
          have HF := Lib.hid (HFIN.out _ _ _ HAs.out HOwn.out)
          have f20 := f2 0
          have f30 := f3 0
          have f31 := f3 1
          clear hown f2 f3
          go_wp2_with fail
          obtain ⟨Wf, hWf, x0, x1, x2, ho, hb⟩ := HF.out
          rw [← hWf]
          clear hWf
          refine leaves_cons (f := 175) (args := #[.pointer (some ⟨w.heap.size + 1, 0, none⟩), .pointer (some ⟨w.heap.size + 1 + 1, 0, none⟩)]) (by simp) (by simp [go_sem]) ?_
          refine (mcatch_idle ⟨w.heap.size + 1, 0, none⟩ ⟨w.heap.size + 1 + 1, 0, none⟩ _).mono ?_
          rintro en u' w9 ⟨rfl, rfl, rfl⟩
          have hal : Below Wf.heap.size Wf (Wf.alloc (.cells #[.int .i64 0, .int .i64 0] 220)) := (Below.refl _ Wf).alloc (Nat.le_refl _) _
          have a0 := cell_later hal x0
          have a1 := cell_later hal x1
          have a2 := cell_later hal x2
          simp [Leaves, settle, results, Tryz.results170, go_sem, a0, a1, a2]
          exact ⟨_, rfl, ho.below hal, hb.alloc hb.size _⟩
  · have hrow1 := hrow
    obtain ⟨gg, cg, _, hv, _⟩ := hrow
    subst hv
    obtain ⟨ks, hks⟩ : ∃ ks, kinds t = ks := ⟨_, rfl⟩
    rw [hks] at HR HSM0 HL0 hrow1 hl
    obtain ⟨nn, hn⟩ : ∃ nn, ks.length = nn := ⟨_, rfl⟩
    have HN := Lib.hid hn
    rw [hn] at hl hrow1 HL0
    have HROW := Lib.hid hrow1
    obtain ⟨HRR0, HCS0, HKC0, HSLA0, HFI0, HBAD0, HFIN0⟩ := rd_setup (f := 171) hb1 HSH.out hhi HFD.out
    have HRR := Lib.hid HRR0
    have HCS := Lib.hid HCS0
    have HKC := Lib.hid HKC0
    have HSLA := Lib.hid HSLA0
    have HFI := Lib.hid HFI0
    have HBAD := Lib.hid HBAD0
    have HFIN := Lib.hid HFIN0
    have HSM := HSM0
    have hn3 := HL0.out
    clear HRR0 HCS0 HKC0 HSLA0 HFI0 HBAD0 HFIN0 hrow1 hks hn hb1 hlook HB1 HPt
    go_wp2_with fail
    obtain ⟨w4, hw4⟩ : ∃ w4, w1 = w4 := ⟨_, rfl⟩
    rw [hw4] at HROW HRR HCS HKC HSLA HFI HBAD HFIN ⊢
    clear hw4
    obtain ⟨B, hB⟩ : ∃ B, w4.heap.size = B := ⟨_, rfl⟩
    have HB := Lib.hid hB
    rw [hB] at HRR HKC HSLA HFI HBAD HFIN
    clear hB
    go_loopg [22] nn (fun g v22 wr => ∃ (k q : Nat) (acc : List Pc), k + g = nn ∧ v22 = .int .i64 k ∧ q ≤ e ∧ acc.length = k ∧ Hid (Rr wr B w.heap.size (.slice av b.length cv) (.func (.func 171) #[] #[]) s q e acc) ∧ Hid (Aside (RG B w.heap.size) w4 wr) ∧ Hid (goP F b s e (ks.drop k) q acc = R))
    case atStart => exact ⟨0, p, [], by omega, rfl, hpe, rfl, HRR, Aside.refl _ _, HR⟩
    case round =>
      obtain ⟨k, q, acc, hk, rfl, hqe, hacc, HRr, HAs, HG⟩ := hrel
      by_cases hlt0 : k < nn
      · have hlt : k < ks.length := by have := HN.out; omega
        have hrow := (HROW.out).over (by omega) HCS.out (Nat.le_of_eq HB.out) HAs.out
        obtain ⟨g0, c0, _, he0, hcell⟩ := hrow
        injection he0 with he1 he2 he3
        injection he1 with he1
        injection he1 with he1 _ _
        subst he1
        clear he2 he3
        obtain ⟨u, hu, hpv⟩ := hcell k hlt
        have hg := HG.out
        rw [List.drop_eq_getElem_cons hlt, goP] at hg
        have hle := fun x y => step_le (F := F) (b := b) (s := s) (x := x) (q := y) hqe (k := ks[k])
        have hsm := HSM.out ks[k] (List.getElem_mem hlt)
        have HSL := Lib.hid (HSLA.out _ HAs.out)
        have HFO := Lib.hid (HFI.out.later HAs.out)
        have HST : Hid (∀ k0, ks[k] = k0 → stepP F b s e q ks[k] = stepP F b s e q k0) := fun k0 h => by rw [h]
        obtain ⟨k0, hk0⟩ : ∃ k0, ks[k] = k0 := ⟨_, rfl⟩
        rw [hk0] at hpv hg hle hsm
        obtain ⟨Y, hY⟩ : ∃ Y, stepP F b s e q k0 = Y := ⟨_, rfl⟩
        rw [hY] at hg hle
        clear hcell HST hk0
        cases k0 with
        | fix n =>
          obtain ⟨bx, _, rfl, hbx⟩ := hpv
          have HC : Hid (Calls Tryz.prog 186 #[.pointer (some ⟨w.heap.size, 0, none⟩), .pointer (some ⟨bx, 0, none⟩)] wr (StepPost wr B w.heap.size (.slice av b.length cv) (.func (.func 171) #[] #[]) s e acc Y)) := hY ▸ fixedR_any HRr.out HSL.out he hqe (by have := hsm n rfl; omega) hbl hbx (by omega)
          clear hY
          rcases Y with ⟨x, q'⟩ | ⟨cc, aa⟩
          · have hq' := hle x q' rfl
            have HG2 := Lib.hid hg
            have HCC := Lib.hid (show Calls Tryz.prog 186 #[.pointer (some ⟨w.heap.size, 0, none⟩), .pointer (some ⟨bx, 0, none⟩)] wr (Gone wr B w.heap.size (.slice av b.length cv) (.func (.func 171) #[] #[]) s e q' (acc ++ [x])) from HC.out)
            clear hg hle hsm HC
            go_wp2_with fail
            refine HCC.out.mono ?_; rintro en w5 ⟨rfl, hr5, ha5⟩
            have HR5 := Lib.hid hr5
            have HA5 := Lib.hid (HAs.out.trans ha5)
            clear hr5 ha5
            go_wp2_with fail
            go_roundg (nn - (k + 1))
            case measure => omega
            case rel => exact ⟨k + 1, q', acc ++ [x], by omega, by go_num, hq', by rw [List.length_append, hacc]; rfl, HR5, HA5, HG2⟩
          · have hRb : R = .bad cc aa := hg.symm
            subst hRb
            have HCC := Lib.hid (show Calls Tryz.prog 186 #[.pointer (some ⟨w.heap.size, 0, none⟩), .pointer (some ⟨bx, 0, none⟩)] wr (Lost wr B w.heap.size cc aa) from HC.out)
            clear hg hle hsm HC
            go_wp2_with fail
            refine HCC.out.mono ?_; rintro en w5 ⟨rfl, ha5⟩
            have HAd := Lib.hid (HAs.out.trans ha5)
            obtain ⟨k0, k1, k2, f2, f3⟩ := HKC.out _ HAd.out
            refine leaves_cons (f := 175) (args := #[.pointer (some ⟨w.heap.size + 1, 0, none⟩), .pointer (some ⟨w.heap.size + 1 + 1, 0, none⟩)]) (by simp) (by simp [go_sem]) ?_
            refine (mcatch_fault (w.heap.size + 1) (w.heap.size + 1 + 1) (by omega) cc aa _ _ k0 k1 k2 f2 f3).mono ?_
            rintro e9 u' w9 ⟨rfl, rfl, hc9⟩
            obtain ⟨_, m0, m1, m2⟩ := id hc9
            simp [Leaves, settle, results, Tryz.results170, go_sem, m0, m1, m2]
            exact HBAD.out _ _ _ _ HAd.out hc9
        | nam =>
          have hpv : u = _ := hpv; subst hpv
          have HC : Hid (Calls Tryz.prog 182 #[.pointer (some ⟨w.heap.size, 0, none⟩)] wr (StepPost wr B w.heap.size (.slice av b.length cv) (.func (.func 171) #[] #[]) s e acc Y)) := hY ▸ nameR_plain HRr.out HFO.out (by omega) (by omega)
          clear hY
          rcases Y with ⟨x, q'⟩ | ⟨cc, aa⟩
          · have hq' := hle x q' rfl
            have HG2 := Lib.hid hg
            have HCC := Lib.hid (show Calls Tryz.prog 182 #[.pointer (some ⟨w.heap.size, 0, none⟩)] wr (Gone wr B w.heap.size (.slice av b.length cv) (.func (.func 171) #[] #[]) s e q' (acc ++ [x])) from HC.out)
            clear hg hle hsm HC
            go_wp2_with fail
            refine HCC.out.mono ?_; rintro en w5 ⟨rfl, hr5, ha5⟩
            have HR5 := Lib.hid hr5
            have HA5 := Lib.hid (HAs.out.trans ha5)
            clear hr5 ha5
            go_wp2_with fail
            go_roundg (nn - (k + 1))
            case measure => omega
            case rel => exact ⟨k + 1, q', acc ++ [x], by omega, by go_num, hq', by rw [List.length_append, hacc]; rfl, HR5, HA5, HG2⟩
          · have hRb : R = .bad cc aa := hg.symm
            subst hRb
            have HCC := Lib.hid (show Calls Tryz.prog 182 #[.pointer (some ⟨w.heap.size, 0, none⟩)] wr (Lost wr B w.heap.size cc aa) from HC.out)
            clear hg hle hsm HC
            go_wp2_with fail
            refine HCC.out.mono ?_; rintro en w5 ⟨rfl, ha5⟩
            have HAd := Lib.hid (HAs.out.trans ha5)
            obtain ⟨k0, k1, k2, f2, f3⟩ := HKC.out _ HAd.out
            refine leaves_cons (f := 175) (args := #[.pointer (some ⟨w.heap.size + 1, 0, none⟩), .pointer (some ⟨w.heap.size + 1 + 1, 0, none⟩)]) (by simp) (by simp [go_sem]) ?_
            refine (mcatch_fault (w.heap.size + 1) (w.heap.size + 1 + 1) (by omega) cc aa _ _ k0 k1 k2 f2 f3).mono ?_
            rintro e9 u' w9 ⟨rfl, rfl, hc9⟩
            obtain ⟨_, m0, m1, m2⟩ := id hc9
            simp [Leaves, settle, results, Tryz.results170, go_sem, m0, m1, m2]
            exact HBAD.out _ _ _ _ HAd.out hc9
        | txt =>
          have hpv : u = _ := hpv; subst hpv
          have HC : Hid (Calls Tryz.prog 183 #[.pointer (some ⟨w.heap.size, 0, none⟩)] wr (StepPost wr B w.heap.size (.slice av b.length cv) (.func (.func 171) #[] #[]) s e acc Y)) := hY ▸ textsR_any HRr.out HSL.out he hqe hbl (by omega)
          clear hY
          rcases Y with ⟨x, q'⟩ | ⟨cc, aa⟩
          · have hq' := hle x q' rfl
            have HG2 := Lib.hid hg
            have HCC := Lib.hid (show Calls Tryz.prog 183 #[.pointer (some ⟨w.heap.size, 0, none⟩)] wr (Gone wr B w.heap.size (.slice av b.length cv) (.func (.func 171) #[] #[]) s e q' (acc ++ [x])) from HC.out)
            clear hg hle hsm HC
            go_wp2_with fail
            refine HCC.out.mono ?_; rintro en w5 ⟨rfl, hr5, ha5⟩
            have HR5 := Lib.hid hr5
            have HA5 := Lib.hid (HAs.out.trans ha5)
            clear hr5 ha5
            go_wp2_with fail
            go_roundg (nn - (k + 1))
            case measure => omega
            case rel => exact ⟨k + 1, q', acc ++ [x], by omega, by go_num, hq', by rw [List.length_append, hacc]; rfl, HR5, HA5, HG2⟩
          · have hRb : R = .bad cc aa := hg.symm
            subst hRb
            have HCC := Lib.hid (show Calls Tryz.prog 183 #[.pointer (some ⟨w.heap.size, 0, none⟩)] wr (Lost wr B w.heap.size cc aa) from HC.out)
            clear hg hle hsm HC
            go_wp2_with fail
            refine HCC.out.mono ?_; rintro en w5 ⟨rfl, ha5⟩
            have HAd := Lib.hid (HAs.out.trans ha5)
            obtain ⟨k0, k1, k2, f2, f3⟩ := HKC.out _ HAd.out
            refine leaves_cons (f := 175) (args := #[.pointer (some ⟨w.heap.size + 1, 0, none⟩), .pointer (some ⟨w.heap.size + 1 + 1, 0, none⟩)]) (by simp) (by simp [go_sem]) ?_
            refine (mcatch_fault (w.heap.size + 1) (w.heap.size + 1 + 1) (by omega) cc aa _ _ k0 k1 k2 f2 f3).mono ?_
            rintro e9 u' w9 ⟨rfl, rfl, hc9⟩
            obtain ⟨_, m0, m1, m2⟩ := id hc9
            simp [Leaves, settle, results, Tryz.results170, go_sem, m0, m1, m2]
            exact HBAD.out _ _ _ _ HAd.out hc9
        | rst =>
          have hpv : u = _ := hpv; subst hpv
          have HC : Hid (Calls Tryz.prog 177 #[.pointer (some ⟨w.heap.size, 0, none⟩)] wr (StepPost wr B w.heap.size (.slice av b.length cv) (.func (.func 171) #[] #[]) s e acc Y)) := hY ▸ restR_any HRr.out HSL.out he hqe (by omega)
          clear hY
          rcases Y with ⟨x, q'⟩ | ⟨cc, aa⟩
          · have hq' := hle x q' rfl
            have HG2 := Lib.hid hg
            have HCC := Lib.hid (show Calls Tryz.prog 177 #[.pointer (some ⟨w.heap.size, 0, none⟩)] wr (Gone wr B w.heap.size (.slice av b.length cv) (.func (.func 171) #[] #[]) s e q' (acc ++ [x])) from HC.out)
            clear hg hle hsm HC
            go_wp2_with fail
            refine HCC.out.mono ?_; rintro en w5 ⟨rfl, hr5, ha5⟩
            have HR5 := Lib.hid hr5
            have HA5 := Lib.hid (HAs.out.trans ha5)
            clear hr5 ha5
            go_wp2_with fail
            go_roundg (nn - (k + 1))
            case measure => omega
            case rel => exact ⟨k + 1, q', acc ++ [x], by omega, by go_num, hq', by rw [List.length_append, hacc]; rfl, HR5, HA5, HG2⟩
          · have hRb : R = .bad cc aa := hg.symm
            subst hRb
            have HCC := Lib.hid (show Calls Tryz.prog 177 #[.pointer (some ⟨w.heap.size, 0, none⟩)] wr (Lost wr B w.heap.size cc aa) from HC.out)
            clear hg hle hsm HC
            go_wp2_with fail
            refine HCC.out.mono ?_; rintro en w5 ⟨rfl, ha5⟩
            have HAd := Lib.hid (HAs.out.trans ha5)
            obtain ⟨k0, k1, k2, f2, f3⟩ := HKC.out _ HAd.out
            refine leaves_cons (f := 175) (args := #[.pointer (some ⟨w.heap.size + 1, 0, none⟩), .pointer (some ⟨w.heap.size + 1 + 1, 0, none⟩)]) (by simp) (by simp [go_sem]) ?_
            refine (mcatch_fault (w.heap.size + 1) (w.heap.size + 1 + 1) (by omega) cc aa _ _ k0 k1 k2 f2 f3).mono ?_
            rintro e9 u' w9 ⟨rfl, rfl, hc9⟩
            obtain ⟨_, m0, m1, m2⟩ := id hc9
            simp [Leaves, settle, results, Tryz.results170, go_sem, m0, m1, m2]
            exact HBAD.out _ _ _ _ HAd.out hc9
      · have hke : k = ks.length := by have := HN.out; omega
        have hg := HG.out
        rw [List.drop_eq_nil_of_le (by omega), goP] at hg
        have c2 := HRr.out.c2
        have c3 := HRr.out.c3
        have t1 : ¬ ((k : Int) < nn) := by omega
        by_cases hlast : q < e
        · rw [if_pos hlast] at hg
          subst hg
          have t2 : decide ((q : Int) < e) = true := by simp; omega
          have HFl := Lib.hid (rfail_any HRr.out)
          go_wp2_with fail
          refine HFl.out.mono ?_; rintro en w5 ⟨rfl, rfl⟩
          have HAd := Lib.hid (HAs.out)
          obtain ⟨k0, k1, k2, f2, f3⟩ := HKC.out _ HAd.out
          refine leaves_cons (f := 175) (args := #[.pointer (some ⟨w.heap.size + 1, 0, none⟩), .pointer (some ⟨w.heap.size + 1 + 1, 0, none⟩)]) (by simp) (by simp [go_sem]) ?_
          refine (mcatch_fault (w.heap.size + 1) (w.heap.size + 1 + 1) (by omega) 4 s _ _ k0 k1 k2 f2 f3).mono ?_
          rintro e9 u' w9 ⟨rfl, rfl, hc9⟩
          obtain ⟨_, m0, m1, m2⟩ := id hc9
          simp [Leaves, settle, results, Tryz.results170, go_sem, m0, m1, m2]
          exact HBAD.out _ _ _ _ HAd.out hc9
        · rw [if_neg hlast] at hg
          subst hg
          have t2 : decide ((q : Int) < e) = false := by simp; omega
          obtain ⟨vp, c5, hown⟩ := HRr.out.c5
          obtain ⟨ap, cp, hvp⟩ := hown.shape
          obtain ⟨zl, hzl⟩ : ∃ zl, acc.length = zl := ⟨_, rfl⟩
          rw [hzl] at hvp
          subst hvp
          clear hzl
          have HOwn := Lib.hid hown
          obtain ⟨k0, k1, k2, f2, f3⟩ := HKC.out _ HAs.out
          have HF := Lib.hid (HFIN.out _ _ _ HAs.out HOwn.out)
          have f20 := f2 0
          have f30 := f3 0
          have f31 := f3 1
          clear hown f2 f3
          go_wp2_with fail
          obtain ⟨Wf, hWf, x0, x1, x2, ho, hb⟩ := HF.out
          rw [← hWf]
          clear hWf
          refine leaves_cons (f := 175) (args := #[.pointer (some ⟨w.heap.size + 1, 0, none⟩), .pointer (some ⟨w.heap.size + 1 + 1, 0, none⟩)]) (by simp) (by simp [go_sem]) ?_
          refine (mcatch_idle ⟨w.heap.size + 1, 0, none⟩ ⟨w.heap.size + 1 + 1, 0, none⟩ _).mono ?_
          rintro en u' w9 ⟨rfl, rfl, rfl⟩
          have hal : Below Wf.heap.size Wf (Wf.alloc (.cells #[.int .i64 0, .int .i64 0] 220)) := (Below.refl _ Wf).alloc (Nat.le_refl _) _
          have a0 := cell_later hal x0
          have a1 := cell_later hal x1
          have a2 := cell_later hal x2
          simp [Leaves, settle, results, Tryz.results170, go_sem, a0, a1, a2]
          exact ⟨_, rfl, ho.below hal, hb.alloc hb.size _⟩
end Go.Proofs.YteegekpanadmkaaGreat

/-
  Names, and where they end; texts; plainly.
-/
namespace Go.Proofs.YteegekpanadmkaaGreat
open Go.RowKit Go.Shelf
set_option linter.unusedVariables false
set_option maxRecDepth 100000

inductive StandE (b : List UInt8) : Nat → Nat → List (List UInt8) → Nat → Prop
  | zero {part i : Nat} (h : i < b.length) (h0 : b[i].toNat = 0) : StandE b part i [] (i + 1)
  | label {part i en : Nat} {l : List UInt8} {r : List (List UInt8)} (h0 : 0 < l.length) (h1 : l.length ≤ 63) (h2 : i + (1 + l.length) ≤ b.length) (h3 : (b.drop i).take (1 + l.length) = wire [l]) (h : StandE b part (i + (1 + l.length)) r en) : StandE b part i (l :: r) en
  | lead {part i to : Nat} {r : List (List UInt8)} (h : i + 1 < b.length) (h0 : 192 ≤ (b[i]'(Nat.lt_of_succ_lt h)).toNat) (h1 : ptr (b[i]'(Nat.lt_of_succ_lt h)) (b[i + 1]'h) = to) (h2 : to < part) (h3 : Stand b to to r) : StandE b part i r (i + 2)

theorem StandE.more {b : List UInt8} {part i en : Nat} {ls : List (List UInt8)} (h : StandE b part i ls en) (c : List UInt8) : StandE (b ++ c) part i ls en := by
  induction h with
  | zero h h0 => exact .zero (by rw [List.length_append]; omega) (by rw [List.getElem_append_left h]; exact h0)
  | label h0 h1 h2 h3 _ ih =>
    refine .label h0 h1 (by rw [List.length_append]; omega) ?_ ih
    rw [List.drop_append_of_le_length (by omega), List.take_append_of_le_length (by rw [List.length_drop]; omega)]
    exact h3
  | lead h h0 h1 h2 h3 =>
    refine .lead (by rw [List.length_append]; omega) ?_ ?_ h2 (h3.more c)
    · rw [List.getElem_append_left]; exact h0
    · rw [List.getElem_append_left, List.getElem_append_left h]; exact h1

theorem StandE.lt {b : List UInt8} {part i en : Nat} {ls : List (List UInt8)} (h : StandE b part i ls en) : i < en ∧ en ≤ b.length := by
  induction h with
  | zero h h0 => omega
  | label h0 h1 h2 h3 _ ih => omega
  | lead h h0 h1 h2 h3 => omega

theorem rdE_of {b : List UInt8} {part i en : Nat} {ls : List (List UInt8)} (h : StandE b part i ls en) (a : Nat) : ∀ (pre : List (List UInt8)), (wire (pre ++ ls)).length ≤ 254 → rd b a part i 0 (wire pre) = (nm (pre ++ ls), en, 0, 0) := by
  induction h with
  | zero h h0 =>
    intro pre _
    rw [rd_zero h h0, List.append_nil, if_pos rfl]
    rfl
  | @label i en l r h0 h1 h2 h3 _ ih =>
    intro pre hl
    have hlt : i < b.length := by omega
    have hb : b[i].toNat = l.length := by
      have h4 := congrArg (fun x : List UInt8 => x[0]?) h3
      simp only [wire, List.append_nil, List.getElem?_take, List.getElem?_drop] at h4
      rw [if_pos (by omega), Nat.add_zero, List.getElem?_eq_getElem hlt] at h4
      have h5 : b[i] = UInt8.ofNat l.length := by simpa using h4
      rw [h5, UInt8.toNat_ofNat']
      omega
    have hw : (wire (pre ++ [l])).length = (wire pre).length + (1 + l.length) := wire_snoc pre l
    have hsplit : pre ++ l :: r = (pre ++ [l]) ++ r := by simp
    have hle : (wire (pre ++ [l])).length ≤ (wire (pre ++ l :: r)).length := by rw [hsplit, wire_app (pre ++ [l]) r, List.length_append]; omega
    rw [rd_label hlt (by omega) (by omega) (by omega) (by omega), hb, h3, ← wire_app, hsplit]
    exact ih (pre ++ [l]) (by rw [← hsplit]; exact hl)
  | @lead i to r h h0 h1 h2 h3 =>
    intro pre hl
    rw [rd_go (Nat.lt_of_succ_lt h) h0 h (by omega), h1, if_pos rfl]
    obtain ⟨nx, hr⟩ := rd_of h3 a (i + 2) pre hl
    have := rd_kept b a to to (i + 2) (wire pre) (by omega) (by rw [hr])
    rw [hr] at this ⊢
    have e : nx = i + 2 := this
    rw [e]

theorem rdaE {b : List UInt8} {p en : Nat} {ls : List (List UInt8)} (h : StandE b p p ls en) (hs : Shorts ls) : rda b p = (nm ls, en, 0, 0) := by
  have hlt := h.lt
  have := rdE_of h p [] (by rw [List.nil_append]; exact hs.2)
  unfold rda
  rw [if_neg (by omega), Int.toNat_natCast]
  exact this

theorem stand_plain {b : List UInt8} (part : Nat) : ∀ (ls : List (List UInt8)) (i : Nat), (∀ x ∈ ls, 0 < x.length ∧ x.length ≤ 63) → (b.drop i).take (nm ls).length = nm ls → StandE b part i ls (i + (nm ls).length)
  | [], i, _, h => by
    have hl := congrArg List.length h
    rw [List.length_take, List.length_drop] at hl
    have e : nm [] = [0] := rfl
    rw [e] at h hl ⊢
    have hlt : i < b.length := by simp at hl; omega
    have h4 := congrArg (fun x : List UInt8 => x[0]?) h
    simp only [List.getElem?_take, List.getElem?_drop] at h4
    rw [if_pos (by simp), Nat.add_zero, List.getElem?_eq_getElem hlt] at h4
    refine .zero hlt ?_
    have h5 : b[i] = 0 := by simpa using h4
    rw [h5]; rfl
  | l :: r, i, hs, h => by
    have hl := congrArg List.length h
    rw [List.length_take, List.length_drop] at hl
    have e : nm (l :: r) = wire [l] ++ nm r := by simp [nm, wire]
    have hw : (wire [l]).length = 1 + l.length := by simp [wire]; omega
    have hlen : (nm (l :: r)).length = 1 + l.length + (nm r).length := by rw [e, List.length_append, hw]
    obtain ⟨h0, h1⟩ := hs l (by simp)
    have hc : (b.drop i).take (1 + l.length) = wire [l] := by
      have := congrArg (List.take (1 + l.length)) h
      rw [List.take_take, e, List.take_left' hw, Nat.min_eq_left (by rw [← e, hlen]; omega)] at this
      exact this
    have hd : (b.drop (i + (1 + l.length))).take (nm r).length = nm r := by
      have := congrArg (List.drop (1 + l.length)) h
      rw [List.drop_take, List.drop_drop, hlen, e, List.drop_left' hw] at this
      rw [show 1 + l.length + (nm r).length - (1 + l.length) = (nm r).length by omega] at this
      exact this
    have ih := stand_plain part r (i + (1 + l.length)) (fun x hx => hs x (by simp [hx])) hd
    rw [hlen, show i + (1 + l.length + (nm r).length) = i + (1 + l.length) + (nm r).length by omega]
    exact .label h0 h1 (by omega) hc ih

theorem frt_nm {s : List UInt8} {ls : List (List UInt8)} (hs : ∀ x ∈ ls, 0 < x.length ∧ x.length ≤ 63) (h : s.take (nm ls).length = nm ls) : ∀ (d k n : Nat), k + d = ls.length → d < n → frt s n (pos ls k) = some (wire ls).length := by
  have hl := congrArg List.length h
  rw [List.length_take] at hl
  have hget : ∀ j (hj : j < (nm ls).length), ∃ hx : j < s.length, s[j] = (nm ls)[j] := fun j hj => by
    refine ⟨by omega, ?_⟩
    have h4 := congrArg (fun x : List UInt8 => x[j]?) h
    simp only [List.getElem?_take] at h4
    rw [if_pos hj, List.getElem?_eq_getElem (by omega), List.getElem?_eq_getElem hj] at h4
    injection h4
  intro d
  induction d with
  | zero =>
    intro k n hk hn
    obtain ⟨m, rfl⟩ : ∃ m, n = m + 1 := ⟨n - 1, by omega⟩
    have hke : k = ls.length := by omega
    subst hke
    obtain ⟨hp, hz⟩ := nm_end ls
    obtain ⟨hx, he⟩ := hget _ hp
    rw [frt, dif_pos hx, he, if_pos hz]
    unfold pos
    rw [List.take_length]
  | succ d ih =>
    intro k n hk hn
    obtain ⟨m, rfl⟩ : ∃ m, n = m + 1 := ⟨n - 1, by omega⟩
    have hlt : k < ls.length := by omega
    obtain ⟨hp, hz⟩ := nm_at hlt hs
    obtain ⟨hx, he⟩ := hget _ hp
    have := hs ls[k] (List.getElem_mem hlt)
    rw [frt, dif_pos hx, he, hz, if_neg (by omega)]
    have e : pos ls k + (1 + ls[k].length) = pos ls (k + 1) := (pos_succ hlt).symm
    rw [e]
    exact ih (k + 1) m (by omega) (by omega)

theorem front_nm {s : List UInt8} {ls : List (List UInt8)} (hs : Shorts ls) (h : s.take (nm ls).length = nm ls) : front s = some (nm ls).length := by
  have hl := congrArg List.length h
  rw [List.length_take] at hl
  have h1 := frt_nm hs.1 h ls.length 0 (s.length + 1) (by omega) (by have := len_wire ls; rw [nm_len] at hl; omega)
  rw [pos_zero] at h1
  unfold front
  rw [h1]
  show (if chk (s.take ((wire ls).length + 1)) = 0 then some ((wire ls).length + 1) else none) = _
  rw [← nm_len, h, if_pos (show chk (nm ls) = 0 from shorts_chk hs)]

theorem frt_lt (s : List UInt8) : ∀ (n p q : Nat), frt s n p = some q → q < s.length := by
  intro n
  induction n with
  | zero => intro p q h; simp [frt] at h
  | succ n ih =>
    intro p q h
    rw [frt] at h
    split at h
    · rename_i hp
      split at h
      · injection h with h; omega
      · exact ih _ _ h
    · simp at h

theorem front_some {s : List UInt8} {n : Nat} (h : front s = some n) : ∃ ls, Shorts ls ∧ s.take n = nm ls ∧ n = (nm ls).length ∧ n ≤ s.length := by
  unfold front at h
  split at h
  · simp at h
  · rename_i p hp
    have hlt := frt_lt _ _ _ _ hp
    split at h
    · rename_i hc
      injection h with h
      subst h
      obtain ⟨h1, h2⟩ := shorts_of hc
      refine ⟨labs (s.take (p + 1)), h1, h2, ?_, by omega⟩
      have := congrArg List.length h2
      rw [List.length_take] at this
      have h3 : (nm (labs (s.take (p + 1)))).length = (wire (labs (s.take (p + 1))) ++ [0]).length := rfl
      omega
    · simp at h

theorem pln_front (d : List UInt8) (p : Nat) (hp : p ≤ d.length) :
    (∀ n, front (d.drop p) = some n → pln d p = ((d.drop p).take n, p + n, 0, 0) ∧ 0 < n ∧ p + n ≤ d.length ∧ chk ((d.drop p).take n) = 0) ∧ (front (d.drop p) = none → pln d p = ([], 0, 4, 0)) := by
  refine ⟨fun n hn => ?_, fun hn => ?_⟩
  · obtain ⟨ls, h1, h2, h3, h4⟩ := front_some hn
    rw [List.length_drop] at h4
    have hs := stand_plain p ls p h1.1 (by rw [← h3]; exact h2)
    have hr := rdaE hs h1
    rw [← h3] at hr
    have h0 : 0 < n := by rw [h3, nm_len]; omega
    refine ⟨?_, h0, by omega, by rw [h2]; exact shorts_chk h1⟩
    unfold pln
    rw [hr, if_neg (by
      intro h
      rcases h with h | h
      · exact h rfl
      · apply h; show nm ls = (d.drop p).take (p + n - p); rw [Nat.add_sub_cancel_left, h2])]
    rw [h2]
  · unfold pln
    by_cases hbad : (rda d p).2.2.1 ≠ 0 ∨ (rda d p).1 ≠ (d.drop p).take ((rda d p).2.1 - p)
    · rw [if_pos hbad]
    · exfalso
      have h1 : (rda d p).2.2.1 = 0 := Classical.byContradiction fun h => hbad (.inl h)
      have h2 : (rda d p).1 = (d.drop p).take ((rda d p).2.1 - p) := Classical.byContradiction fun h => hbad (.inr h)
      have hrd : rda d p = rd d p p p 0 [] := by unfold rda; rw [if_neg (by omega), Int.toNat_natCast]
      rw [hrd] at h1 h2
      obtain ⟨n1, n2, _⟩ := rd_next d p p p [] (by simp) h1
      rcases rd_fine d p hp p p 0 [] [] rfl ⟨by simp, by simp [wire]⟩ with ⟨_, _, ls, f1, f2⟩ | ⟨f, _⟩
      · rw [List.nil_append] at f1 f2
        have hl := congrArg List.length h2
        rw [List.length_take, List.length_drop] at hl
        have hn' : (rd d p p p 0 []).1 = nm ls := f1
        rw [hn'] at hl h2
        have := front_nm (s := d.drop p) f2 (by rw [show (nm ls).length = (rd d p p p 0 []).2.1 - p by omega]; exact h2.symm)
        rw [hn] at this
        simp at this
      · exact f h1

theorem rda_fine (b : List UInt8) (p : Nat) (h : (rda b p).2.2.1 = 0) : chk (rda b p).1 = 0 ∧ p < (rda b p).2.1 ∧ (rda b p).2.1 ≤ b.length := by
  unfold rda at h ⊢
  split at h
  · exact absurd h (by decide)
  · rename_i hr
    rw [if_neg hr]
    rw [Int.toNat_natCast] at h ⊢
    obtain ⟨n1, n2, _⟩ := rd_next b p p p [] (by simp) h
    rcases rd_fine b p (by omega) p p 0 [] [] rfl ⟨by simp, by simp [wire]⟩ with ⟨_, _, ls, f1, f2⟩ | ⟨f, _⟩
    · rw [List.nil_append] at f1 f2
      exact ⟨by rw [f1]; exact shorts_chk f2, n1, n2⟩
    · exact absurd h f

theorem txE_txs (b : List UInt8) (p e : Nat) (he : e ≤ b.length) : ∀ (n m i : Nat), p + i < e → e < p + i + n → e < p + i + m →
    ∃ q, txE b e n (p + i) = some q ∧ e ≤ q ∧ txs ((b.drop p).take (e - p)) m i = decide (q = e) := by
  have hsl : p ≤ e → ((b.drop p).take (e - p)).length = e - p := fun h => by rw [List.length_take, List.length_drop]; omega
  intro n
  induction n with
  | zero => intro m i h1 h2; omega
  | succ n ih =>
    intro m i h1 h2 h3
    obtain ⟨m', rfl⟩ : ∃ m', m = m' + 1 := ⟨m - 1, by omega⟩
    have hlen := hsl (by omega)
    have hi : i < ((b.drop p).take (e - p)).length := by omega
    have hg : ((b.drop p).take (e - p))[i] = b[p + i] := by simp
    have hgd : b.getD (p + i) 0 = b[p + i] := by rw [List.getD, List.getElem?_eq_getElem (by omega)]; rfl
    rw [txE, if_neg (by omega), txs, dif_pos hi, hg, hgd]
    obtain ⟨c, hc⟩ : ∃ c, b[p + i].toNat = c := ⟨_, rfl⟩
    rw [hc]
    by_cases hq : p + i + (1 + c) < e
    · obtain ⟨q, q1, q2, q3⟩ := ih m' (i + (1 + c)) (by omega) (by omega) (by omega)
      refine ⟨q, ?_, q2, q3⟩
      simp only [if_pos hq]
      rw [← q1, show p + (i + (1 + c)) = p + i + (1 + c) by omega]
    · refine ⟨p + i + (1 + c), by simp only [if_neg hq], by omega, ?_⟩
      cases m' with
      | zero => omega
      | succ m'' =>
        rw [txs, dif_neg (by rw [hlen]; omega), hlen]
        by_cases e2 : p + i + (1 + c) = e
        · simp only [e2]; simp; omega
        · rw [decide_eq_false (by omega), decide_eq_false e2]

theorem txE_none (b : List UInt8) (p n : Nat) : txE b p n p = none := by
  cases n with
  | zero => rfl
  | succ n => rw [txE, if_pos (by omega)]

theorem tx_step (F : Nat → Got) (b : List UInt8) (s p e : Nat) (he : e ≤ b.length) (hp : p ≤ e) :
    stepP F b s e p .txt = if texts ((b.drop p).take (e - p)) = true then .ok ((b.drop p).take (e - p), false) e else .bad 4 s := by
  have hlen : ((b.drop p).take (e - p)).length = e - p := by rw [List.length_take, List.length_drop]; omega
  simp only [stepP]
  rcases Nat.lt_or_ge p e with h | h
  · obtain ⟨q, q1, q2, q3⟩ := txE_txs b p e he (e + 1) (e - p + 1) 0 (by omega) (by omega) (by omega)
    replace q1 : txE b e (e + 1) p = some q := q1
    rw [q1]
    simp only
    have hne : (b.drop p).take (e - p) ≠ [] := fun h0 => by rw [h0] at hlen; simp at hlen; omega
    unfold texts cutP
    rw [hlen, q3, decide_eq_true hne, Bool.true_and]
    by_cases e2 : q = e
    · subst e2; simp
    · rw [if_pos (by omega), decide_eq_false e2]; simp
  · have e2 : p = e := by omega
    subst e2
    rw [txE_none]
    unfold texts
    simp
end Go.Proofs.YteegekpanadmkaaGreat

/-
  Pieces that fit a type's parts: how they are cut, read, put together; plainly.
-/
namespace Go.Proofs.YteegekpanadmkaaGreat
open Go.RowKit Go.Shelf
set_option linter.unusedVariables false
set_option maxRecDepth 100000

inductive Fits : List PK → List Pc → Prop
  | nil : Fits [] []
  | fix {n : Nat} {x : List UInt8} {ks : List PK} {L : List Pc} (h : x.length = n) (h2 : Fits ks L) : Fits (.fix n :: ks) ((x, false) :: L)
  | nam {x : List UInt8} {ks : List PK} {L : List Pc} (h : chk x = 0) (h2 : Fits ks L) : Fits (.nam :: ks) ((x, true) :: L)
  | txt {x : List UInt8} (h : texts x = true) : Fits [.txt] [(x, false)]
  | rst {x : List UInt8} : Fits [.rst] [(x, false)]

def lastK : List PK → Bool
  | [] => true
  | [.txt] => true
  | [.rst] => true
  | .fix _ :: ks => lastK ks
  | .nam :: ks => lastK ks
  | _ => false

theorem kinds_last (t : Int) : lastK (kinds t) = true := by
  unfold kinds
  repeat' split
  all_goals rfl

theorem joined_nil : joined [] = [] := rfl
theorem joined_cons (x : Pc) (L : List Pc) : joined (x :: L) = x.1 ++ joined L := by simp [joined]
theorem joined_app (L M : List Pc) : joined (L ++ M) = joined L ++ joined M := by simp [joined]

theorem chk_pos {x : List UInt8} (h : chk x = 0) : 0 < x.length ∧ x.length ≤ 255 := by
  obtain ⟨hs, hx⟩ := shorts_of h
  have := congrArg List.length hx
  rw [List.length_append] at this
  have h2 := hs.2
  simp at this
  omega

theorem fits_cuts {ks : List PK} {L : List Pc} (h : Fits ks L) : cuts ks (joined L) = some (L, []) := by
  induction h with
  | nil => rfl
  | @fix n x ks L h h2 ih =>
    subst h
    rw [joined_cons, cuts, lenP, if_pos (by simp)]
    simp only [List.drop_left, List.take_left, ih, Option.map_some]
    rfl
  | @nam x ks L h h2 ih =>
    obtain ⟨hs, hx⟩ := shorts_of h
    have hn : x = nm (labs x) := hx
    have hf : front (x ++ joined L) = some x.length := by
      have := front_nm (s := x ++ joined L) hs (by rw [← hn, List.take_left])
      rw [← hn] at this
      exact this
    rw [joined_cons, cuts, lenP]
    simp only [hf, List.drop_left, List.take_left, ih, Option.map_some]
    rfl
  | @txt x h =>
    rw [joined_cons, joined_nil, List.append_nil, cuts, lenP, if_pos h]
    simp [cuts, PK.isNam]
  | @rst x =>
    rw [joined_cons, joined_nil, List.append_nil, cuts, lenP]
    simp [cuts, PK.isNam]

theorem cuts_fits : ∀ (ks : List PK), lastK ks = true → ∀ (s : List UInt8) (L : List Pc), cuts ks s = some (L, []) → Fits ks L ∧ joined L = s
  | [], _, s, L, h => by
    rw [cuts] at h
    injection h with h
    injection h with h1 h2
    subst h1; subst h2
    exact ⟨.nil, rfl⟩
  | k :: ks, hk, s, L, h => by
    rw [cuts] at h
    split at h
    · simp at h
    · rename_i n hn
      obtain ⟨⟨L', r⟩, h1, h2⟩ := Option.map_eq_some_iff.mp h
      injection h2 with h2 h3
      have h3 : r = [] := h3
      subst h3
      have h2 : (s.take n, k.isNam) :: L' = L := h2
      subst h2
      cases k with
      | fix m =>
        obtain ⟨i1, i2⟩ := cuts_fits ks (by simpa [lastK] using hk) _ _ h1
        rw [lenP] at hn
        split at hn
        · injection hn with hn
          subst hn
          exact ⟨.fix (by rw [List.length_take]; omega) i1, by rw [joined_cons, i2, List.take_append_drop]⟩
        · simp at hn
      | nam =>
        obtain ⟨i1, i2⟩ := cuts_fits ks (by simpa [lastK] using hk) _ _ h1
        obtain ⟨ls, f1, f2, f3, f4⟩ := front_some (by simpa [lenP] using hn)
        exact ⟨.nam (by rw [f2]; exact shorts_chk f1) i1, by rw [joined_cons, i2, List.take_append_drop]⟩
      | txt =>
        have hks : ks = [] := by cases ks with | nil => rfl | cons a b => simp [lastK] at hk
        subst hks
        rw [lenP] at hn
        split at hn
        · rename_i ht
          injection hn with hn
          subst hn
          rw [cuts, List.drop_length] at h1
          injection h1 with h1
          injection h1 with h1 _
          subst h1
          rw [List.take_length]
          exact ⟨.txt ht, by simp [joined]⟩
        · simp at hn
      | rst =>
        have hks : ks = [] := by cases ks with | nil => rfl | cons a b => simp [lastK] at hk
        subst hks
        rw [lenP] at hn
        injection hn with hn
        subst hn
        rw [cuts, List.drop_length] at h1
        injection h1 with h1
        injection h1 with h1 _
        subst h1
        rw [List.take_length]
        exact ⟨.rst, by simp [joined]⟩

theorem step_cuts (d : List UInt8) (p : Nat) (hp : p ≤ d.length) (k : PK) :
    stepP (pln d) d 0 d.length p k = match lenP (d.drop p) k with | none => .bad 4 0 | some n => .ok ((d.drop p).take n, k.isNam) (p + n) := by
  have hlen : (d.drop p).length = d.length - p := List.length_drop
  cases k with
  | fix n =>
    simp only [stepP, lenP, cutP]
    rw [hlen]
    by_cases h : n ≤ d.length - p
    · rw [if_neg (by omega), if_pos h, Nat.add_sub_cancel_left]; rfl
    · rw [if_pos (by omega), if_neg h]
  | nam =>
    obtain ⟨h1, h2⟩ := pln_front d p hp
    simp only [stepP, lenP]
    rcases hf : front (d.drop p) with _ | n
    · rw [h2 hf]
      by_cases h0 : d.length < p + 1
      · rw [if_pos h0]
      · rw [if_neg h0, if_pos (by decide)]
    · obtain ⟨e1, e2, e3, e4⟩ := h1 n hf
      rw [e1, if_neg (by omega), if_neg (by simp), if_neg (by simp; omega)]
      rfl
  | txt =>
    rw [tx_step (pln d) d 0 p d.length (Nat.le_refl _) hp, lenP]
    have e : (d.drop p).take (d.length - p) = d.drop p := List.take_of_length_le (by rw [hlen]; omega)
    rw [e, hlen]
    by_cases h : texts (d.drop p) = true
    · rw [if_pos h, if_pos h]
      simp only
      rw [e, show p + (d.length - p) = d.length by omega]
      rfl
    · rw [if_neg h, if_neg h]
  | rst =>
    simp only [stepP, lenP, cutP]
    rw [hlen, if_neg (by omega), show p + (d.length - p) = d.length by omega]
    rfl

theorem lenP_le {s : List UInt8} {k : PK} {n : Nat} (h : lenP s k = some n) : n ≤ s.length := by
  cases k with
  | fix m => rw [lenP] at h; split at h <;> simp at h; omega
  | nam => obtain ⟨_, _, _, _, h4⟩ := front_some (by simpa [lenP] using h); exact h4
  | txt => rw [lenP] at h; split at h <;> simp at h; omega
  | rst => rw [lenP] at h; injection h with h; omega

theorem go_cuts (d : List UInt8) : ∀ (ks : List PK) (p : Nat) (acc : List Pc), p ≤ d.length →
    goP (pln d) d 0 d.length ks p acc = match cuts ks (d.drop p) with | none => .bad 4 0 | some r => if r.2 = [] then .ok (acc ++ r.1) else .bad 4 0
  | [], p, acc, hp => by
    rw [goP, cuts]
    simp only
    by_cases h : p < d.length
    · rw [if_pos h, if_neg (fun e => by have := congrArg List.length e; rw [List.length_drop] at this; simp at this; omega)]
    · rw [if_neg h, if_pos (List.drop_eq_nil_of_le (by omega)), List.append_nil]
  | k :: ks, p, acc, hp => by
    rw [goP, step_cuts d p hp k, cuts]
    rcases hn : lenP (d.drop p) k with _ | n
    · rfl
    · have hle := lenP_le hn
      rw [List.length_drop] at hle
      simp only
      rw [go_cuts d ks (p + n) _ (by omega), List.drop_drop]
      rcases cuts ks (d.drop (p + n)) with _ | r
      · rfl
      · simp only [Option.map_some]
        rw [List.append_assoc]
        rfl

theorem spl_cuts (t : Int) (d : List UInt8) : spl t d = if t < 0 ∨ 65535 < t then .bad 5 0 else if 65535 < d.length then .bad 3 0 else match cuts (kinds t) d with | none => .bad 4 0 | some r => if r.2 = [] then .ok r.1 else .bad 4 0 := by
  unfold spl
  rw [go_cuts d (kinds t) 0 [] (Nat.zero_le _), List.drop_zero]
  simp only [List.nil_append]

theorem spl_ok {t : Int} {d : List UInt8} {L : List Pc} (h : spl t d = .ok L) : 0 ≤ t ∧ t ≤ 65535 ∧ d.length ≤ 65535 ∧ Fits (kinds t) L ∧ joined L = d := by
  rw [spl_cuts] at h
  split at h
  · simp at h
  · split at h
    · simp at h
    · split at h
      · simp at h
      · rename_i r hr
        split at h
        · rename_i h0
          injection h with h
          subst h
          obtain ⟨L, s⟩ := r
          have h0 : s = [] := h0
          subst h0
          obtain ⟨h1, h2⟩ := cuts_fits _ (kinds_last t) _ _ hr
          exact ⟨by omega, by omega, by omega, h1, h2⟩
        · simp at h

theorem spl_of {t : Int} {L : List Pc} (h0 : 0 ≤ t) (h1 : t ≤ 65535) (h2 : (joined L).length ≤ 65535) (h : Fits (kinds t) L) : spl t (joined L) = .ok L := by
  rw [spl_cuts, if_neg (by omega), if_neg (by omega), fits_cuts h]
  simp

/-! ### the lower form -/
/-! ### what data point at, which address they are, what they let be kept -/
def n4 (d : List UInt8) (p : Nat) : Int := nAt4 (iz d) p
theorem code_ok {t : Int} {d : List UInt8} (h : (spl t d).code = 0) : ∃ L, spl t d = .ok L := by
  rcases hs : spl t d with L | ⟨e, a⟩
  · exact ⟨L, rfl⟩
  · rw [hs] at h
    exfalso
    have h : e = 0 := h
    subst h
    rw [spl_cuts] at hs
    split at hs
    · simp at hs
    · split at hs
      · simp at hs
      · split at hs
        · simp at hs
        · split at hs <;> simp at hs

theorem code_bad {t : Int} {d : List UInt8} {c : Int} {a : Nat} (h : spl t d = .bad c a) : c ≠ 0 := fun h0 => by
  have h2 : (spl t d).code = 0 := by rw [h]; exact h0
  obtain ⟨L, hL⟩ := code_ok h2
  rw [h] at hL
  cases hL

end Go.Proofs.YteegekpanadmkaaGreat

/-
  plain: a name that stands as its bytes.
-/
namespace Go.Proofs.YteegekpanadmkaaGreat
open Go.RowKit Go.Shelf
set_option linter.unusedVariables false
set_option linter.unusedSimpArgs false
set_option maxRecDepth 100000

set_option maxHeartbeats 4000000 in
theorem plain_any {w : World} {lo hi : Nat} {v : Value} {b : List UInt8} (h : Sl w lo hi v (iz b)) (hhi : hi ≤ w.heap.size) (hl : b.length ≤ 1000000) (p : Nat) :
    Calls Tryz.prog 171 #[v, .int .i64 p] w (Tells w (gotV (pln b p))) := by
  have hb0 : Below w.heap.size w (w.alloc (.cells #[.int .i64 0, .int .i64 0] 42)) := (Below.refl _ _).alloc (Nat.le_refl _) _
  have HB0 := Lib.hid hb0
  have HR0 := Lib.hid (read_any (h.below hb0 hhi) (Nat.le_trans hhi hb0.size) hl p)
  have hfine := rda_fine b p
  obtain ⟨N, hN⟩ : ∃ N, (rda b p).1 = N := ⟨_, rfl⟩
  obtain ⟨E, hE⟩ : ∃ E, (rda b p).2.1 = E := ⟨_, rfl⟩
  obtain ⟨C, hC⟩ : ∃ C, (rda b p).2.2.1 = C := ⟨_, rfl⟩
  obtain ⟨A, hA⟩ : ∃ A, (rda b p).2.2.2 = A := ⟨_, rfl⟩
  have hp : pln b p = if C ≠ 0 ∨ N ≠ (b.drop p).take (E - p) then ([], 0, 4, 0) else (N, E, 0, 0) := by unfold pln; rw [hN, hE, hC]
  unfold gotV at HR0
  rw [hN, hE, hC] at hfine
  rw [hN, hE, hC, hA] at HR0
  rw [hp]
  clear hN hE hC hA hp hb0
  by_cases hc : C = 0
  · subst hc
    obtain ⟨_, hpE, hEb⟩ := hfine rfl
    obtain ⟨sv, hcut, hsl⟩ := cut_sl h p E (by omega) hEb
    have HSL := Lib.hid (fun wx (hb : Below w.heap.size w wx) => conv_back (hsl.below hb hhi))
    obtain ⟨M, hM⟩ : ∃ M, (b.drop p).take (E - p) = M := ⟨_, rfl⟩
    rw [hM] at HSL ⊢
    clear hM hsl hfine
    by_cases hNM : N = M
    · subst hNM
      rw [if_neg (by simp)]
      have ht : ((bs N).toList == (bs N).toList) = true := by simp
      go_enter Tryz.func171, Tryz.ntmps171
      go_wp2_with fail
      refine HR0.out.mono ?_
      rintro e w1 ⟨rfl, hb1⟩
      simp only [World.size_alloc] at hb1
      have HB1 := Lib.hid hb1
      have hlt := below_lt hb1
      obtain ⟨k0, k1, k3⟩ := res_cells hb1
      have hcv := HSL.out (w1.alloc (.cells #[.int .i64 0, .int .i64 A] 42)) (bel_alloc (HB0.out.trans (hb1.mono (Nat.le_succ _))) _)
      clear hb1
      go_wp2_with fail
      obtain ⟨m0, m1⟩ := res_set (.int .i64 0) (.int .i64 0) k0 k1
      have HFin := Lib.hid (res_below HB1.out (.int .i64 0) (.int .i64 0) (.cells #[.int .i64 0, .int .i64 A] 42))
      exact bodyPost_ret (by simp [results, Tryz.results171, go_sem, m0, m1, hlt]; rfl) rfl ⟨rfl, HFin.out⟩
    · rw [if_pos (.inr hNM)]
      have ht : ((bs N).toList == (bs M).toList) = false := by rw [bs_toList, bs_toList]; simpa using hNM
      go_enter Tryz.func171, Tryz.ntmps171
      go_wp2_with fail
      refine HR0.out.mono ?_
      rintro e w1 ⟨rfl, hb1⟩
      simp only [World.size_alloc] at hb1
      have HB1 := Lib.hid hb1
      have hlt := below_lt hb1
      obtain ⟨k0, k1, k3⟩ := res_cells hb1
      have hcv := HSL.out (w1.alloc (.cells #[.int .i64 0, .int .i64 A] 42)) (bel_alloc (HB0.out.trans (hb1.mono (Nat.le_succ _))) _)
      clear hb1
      go_wp2_with fail
      obtain ⟨m0, m1⟩ := res_set (.int .i64 4) (.int .i64 0) k0 k1
      have HFin := Lib.hid (res_below HB1.out (.int .i64 4) (.int .i64 0) (.cells #[.int .i64 0, .int .i64 A] 42))
      exact bodyPost_ret (by simp [results, Tryz.results171, go_sem, m0, m1, hlt]; rfl) rfl ⟨rfl, HFin.out⟩
  · rw [if_pos (.inl hc)]
    have tc : (C != 0) = true := by simpa using hc
    clear hfine
    · go_enter Tryz.func171, Tryz.ntmps171
      go_wp2_with fail
      refine HR0.out.mono ?_
      rintro e w1 ⟨rfl, hb1⟩
      simp only [World.size_alloc] at hb1
      have HB1 := Lib.hid hb1
      have hlt := below_lt hb1
      obtain ⟨k0, k1, k3⟩ := res_cells hb1
      clear hb1
      go_wp2_with fail
      obtain ⟨m0, m1⟩ := res_set (.int .i64 4) (.int .i64 0) k0 k1
      have HFin := Lib.hid (res_below HB1.out (.int .i64 4) (.int .i64 0) (.cells #[.int .i64 C, .int .i64 A] 42))
      exact bodyPost_ret (by simp [results, Tryz.results171, go_sem, m0, m1, hlt]; rfl) rfl ⟨rfl, HFin.out⟩
end Go.Proofs.YteegekpanadmkaaGreat

/-
  join: the data of pieces.
-/
namespace Go.Proofs.YteegekpanadmkaaGreat
open Go.RowKit Go.Shelf
set_option linter.unusedVariables false
set_option linter.unusedSimpArgs false
set_option maxRecDepth 100000

theorem joined_take {L : List Pc} {k : Nat} (h : k < L.length) : joined (L.take (k + 1)) = joined (L.take k) ++ L[k].1 := by
  rw [List.take_add_one, List.getElem?_eq_getElem h, Option.toList_some, joined_app]
  simp [joined]

theorem joined_part (L : List Pc) (k : Nat) : (joined (L.take k)).length ≤ (joined L).length := by
  have := congrArg (fun x => (joined x).length) (List.take_append_drop k L)
  simp only [joined_app, List.length_append] at this
  omega

end Go.Proofs.YteegekpanadmkaaGreat

/-
  bounded, split.
-/
namespace Go.Proofs.YteegekpanadmkaaGreat
open Go.RowKit Go.Shelf
set_option linter.unusedVariables false
set_option linter.unusedSimpArgs false
set_option maxRecDepth 100000

theorem bounded_yes (t : Int) (h0 : 0 ≤ t) (h1 : t ≤ 65535) (w : World) : Calls Tryz.prog 169 #[.int .i64 t] w fun e w' => e = .returned (.bool true) ∧ w = w' := by
  have t1 : decide ((0 : Int) ≤ t) = true := by simpa using h0
  have t2 : decide (t ≤ (65535 : Int)) = true := by simpa using h1
  go_enter Tryz.func169, Tryz.ntmps169
  go_wp2
  go_ret
  exact ⟨rfl, rfl⟩

theorem bounded_no (t : Int) (h : t < 0 ∨ 65535 < t) (w : World) : Calls Tryz.prog 169 #[.int .i64 t] w fun e w' => e = .returned (.bool false) ∧ w = w' := by
  by_cases h0 : 0 ≤ t
  · have t1 : decide ((0 : Int) ≤ t) = true := by simpa using h0
    have t2 : decide (t ≤ (65535 : Int)) = false := by simp; omega
    clear h
    go_enter Tryz.func169, Tryz.ntmps169
    go_wp2
    go_ret
    exact ⟨rfl, rfl⟩
  · have t1 : decide ((0 : Int) ≤ t) = false := by simp; omega
    clear h
    go_enter Tryz.func169, Tryz.ntmps169
    go_wp2
    go_ret
    exact ⟨rfl, rfl⟩

def SplitPost (w : World) (R : RR) (en : Ending) (w' : World) : Prop :=
  ∃ v, en = .returned (.tuple #[v, .int .i64 R.code]) ∧ OwnP w' w.heap.size v R.pcs ∧ Below w.heap.size w w'

theorem wf_small {t : Int} (h0 : 0 ≤ t) (h1 : t ≤ 65535) : (Lit.int .i64 t).wf = true := WalkArith.wf_i64 (by omega)

set_option maxHeartbeats 4000000 in
theorem split_any (t : Int) (d : List UInt8) (hd : d.length ≤ 1000000) (w : World) : Calls Tryz.prog 163 #[.int .i64 t, .string (bs d)] w (SplitPost w (spl t d)) := by
  have hsz : (bs d).size = d.length := bs_size d
  by_cases ht : t < 0 ∨ 65535 < t
  · have e : spl t d = .bad 5 0 := by unfold spl; rw [if_pos ht]
    rw [e]
    have HB := Lib.hid (bounded_no t ht w)
    clear ht e hsz
    go_enter Tryz.func163, Tryz.ntmps163
    go_wp2_with fail
    refine HB.out.mono ?_; rintro e w1 ⟨rfl, rfl⟩
    go_wp2_with fail
    go_ret2
    exact ⟨_, rfl, OwnP.nil _ _, Below.refl _ _⟩
  · have HB := Lib.hid (bounded_yes t (by omega) (by omega) w)
    by_cases hlong : 65535 < d.length
    · have e : spl t d = .bad 3 0 := by unfold spl; rw [if_neg ht, if_pos hlong]
      rw [e]
      have t1 : decide ((65535 : Int) < d.length) = true := by simp; omega
      clear ht e
      go_enter Tryz.func163, Tryz.ntmps163
      go_wp2_with fail
      refine HB.out.mono ?_; rintro e w1 ⟨rfl, rfl⟩
      go_wp2_with fail
      go_ret2
      exact ⟨_, rfl, OwnP.nil _ _, Below.refl _ _⟩
    · have e : spl t d = goP (pln d) d 0 d.length (kinds t) 0 [] := by unfold spl; rw [if_neg ht, if_neg hlong]
      rw [e]
      have t1 : decide ((65535 : Int) < d.length) = false := by simp; omega
      obtain ⟨cap, W, hcv, ho, hbW, hltW⟩ := conv_B w d (by omega)
      have HR := Lib.hid (show Calls Tryz.prog 170 #[.agg #[.slice (some ⟨w.heap.size, 0, none⟩) d.length cap, .int .i64 0, .int .i64 0, .int .i64 d.length, .func (.func 171) #[] #[], .slice none 0 0], .int .i64 t] W (ReadPost W (goP (pln d) d 0 d.length (kinds t) 0 [])) from
        read_plain (s := 0) (p := 0) t (wf_small (by omega) (by omega)) ho.sl (Nat.le_refl _) hd (Nat.zero_le _) (Nat.le_refl _) fun wx hs hh p => plain_any hs hh hd p)
      obtain ⟨R, hR⟩ : ∃ R, goP (pln d) d 0 d.length (kinds t) 0 [] = R := ⟨_, rfl⟩
      rw [hR] at HR ⊢
      have HW := Lib.hid hbW
      clear ht hlong e ho hbW hltW hR
      go_enter Tryz.func163, Tryz.ntmps163
      go_wp2_with fail
      refine HB.out.mono ?_; rintro e w1 ⟨rfl, rfl⟩
      go_wp2_with fail
      refine HR.out.mono ?_; rintro e w1 ⟨v, rfl, hown, hb1⟩
      have HO := Lib.hid hown
      have HB1 := Lib.hid (bel_call HW.out hb1)
      have hws := HW.out.size
      clear hown hb1
      go_wp2_with fail
      go_quiet (fail)
      go_wp2_with fail
      go_ret2
      exact ⟨v, rfl, ((HO.out.mono hws).below ((Below.refl _ _).alloc (Nat.le_refl _) _)).below (below_drewN (Below.refl _ _) _), below_drewN (bel_alloc HB1.out _) _⟩
end Go.Proofs.YteegekpanadmkaaGreat

/-
  Check, Target, Address, Least.
-/
namespace Go.Proofs.YteegekpanadmkaaGreat
open Go.RowKit Go.Shelf
set_option linter.unusedVariables false
set_option linter.unusedSimpArgs false
set_option maxRecDepth 100000

theorem split_ok {t : Int} {d : List UInt8} {L : List Pc} (h : spl t d = .ok L) (hd : d.length ≤ 1000000) (w : World) : Calls Tryz.prog 163 #[.int .i64 t, .string (bs d)] w fun en w' => ∃ v, en = .returned (.tuple #[v, .int .i64 0]) ∧ OwnP w' w.heap.size v L ∧ Below w.heap.size w w' := by
  have := split_any t d hd w
  rw [h] at this
  exact this
theorem split_bad {t : Int} {d : List UInt8} {c : Int} {a : Nat} (h : spl t d = .bad c a) (hd : d.length ≤ 1000000) (w : World) : Calls Tryz.prog 163 #[.int .i64 t, .string (bs d)] w fun en w' => ∃ v, en = .returned (.tuple #[v, .int .i64 c]) ∧ Below w.heap.size w w' := by
  have := split_any t d hd w
  rw [h] at this
  refine this.mono ?_
  rintro e w' ⟨v, rfl, _, hb⟩
  exact ⟨v, rfl, hb⟩

theorem rcheckD_any (t : Int) (d : List UInt8) (hd : d.length ≤ 1000000) (w : World) : Calls Tryz.prog 158 #[.int .i64 t, .string (bs d)] w (Tells w (.int .i64 (spl t d).code)) := by
  have HS := Lib.hid (split_any t d hd w)
  obtain ⟨R, hR⟩ : ∃ R, spl t d = R := ⟨_, rfl⟩
  rw [hR] at HS ⊢
  clear hR
  go_enter Tryz.func158, Tryz.ntmps158
  go_wp2_with fail
  refine HS.out.mono ?_; rintro e w1 ⟨v, rfl, hown, hb1⟩
  have HB := Lib.hid hb1
  clear hown hb1
  go_wp2_with fail
  go_ret
  exact ⟨rfl, HB.out⟩

theorem fits_len {ks : List PK} {L : List Pc} (h : Fits ks L) : L.length = ks.length := by
  induction h with
  | nil => rfl
  | fix h h2 ih => simp [ih]
  | nam h h2 ih => simp [ih]
  | txt h => rfl
  | rst => rfl

end Go.Proofs.YteegekpanadmkaaGreat

/-
  The reader that goes along a message: data; its methods.
-/
namespace Go.Proofs.YteegekpanadmkaaGreat
open Go.RowKit Go.Shelf
set_option linter.unusedVariables false
set_option linter.unusedSimpArgs false
set_option maxRecDepth 100000

def stD (b : List UInt8) (s : RS) (size t : Int) : RS := if s.e ≠ 0 then s else ⟨wrap64 (s.a + size), (rdR b s.a size t).code, ((rdR b s.a size t).place : Nat)⟩
section
variable {w : World} {r q o lo hi : Nat} {vb : Value} {s : RS} {l : List Value} {b : List UInt8}

end

end Go.Proofs.YteegekpanadmkaaGreat

/-
  Question: what is read, the walk.
-/
namespace Go.Proofs.YteegekpanadmkaaGreat
open Go.RowKit Go.Shelf
set_option linter.unusedVariables false
set_option linter.unusedSimpArgs false
set_option maxRecDepth 100000

def s1 (b : List UInt8) (a : Int) : RS := stN b ⟨a, 0, 0⟩
def s2 (b : List UInt8) (a : Int) : RS := st2 b (s1 b a)
def rT (b : List UInt8) (a : Int) : Int := vl2 b (s1 b a) 0
def s3 (b : List UInt8) (a : Int) : RS := st2 b (s2 b a)
def s4 (b : List UInt8) (a : Int) : RS := st4 b (s3 b a)
def s5 (b : List UInt8) (a : Int) : RS := st2 b (s4 b a)
def rZ (b : List UInt8) (a : Int) : Int := vl2 b (s4 b a) 0
def s6 (b : List UInt8) (a : Int) : RS := stD b (s5 b a) (rZ b a) (rT b a)
end Go.Proofs.YteegekpanadmkaaGreat

/-
  Rows beside each other: bytes, numbers, texts; appends to them.
-/
namespace Go.Proofs.YteegekpanadmkaaGreat
open Go.RowKit Go.Shelf
set_option linter.unusedVariables false
set_option maxRecDepth 100000

theorem aside_grown {w w' : World} {v : Value} (h : w.grownBy w' v.ownBlock) : Aside (fun b => v.ownBlock = some b) w w' := Aside.grown h fun _ h => h

theorem run_appB0 {w : World} (B : Nat) (v : Value) (l : List UInt8) (ad : Option Addr) (c : Nat) (hown : OwnB w B v l) :
    (Builtin.append_ #[28, 28] 28 #[v, .slice ad 0 c]).run Tryz.prog w = .ok v w := by
  obtain ⟨i0, hi, hz0, hz1, hz2⟩ := info_parts Tryz.info5
  rcases hown with ⟨rfl, rfl⟩ | ⟨g, cap, fz, rfl, hbg, hlc, hcm, hfz, hg⟩
  · cases ad <;> simp [Builtin.append_, run_underlying Tryz.underlying28, sizeOf, typeInfo, hi, Builtin.lenOf, Builtin.firstCells, loadCells, loadCellsFrom]
  · cases ad <;> simp [Builtin.append_, run_underlying Tryz.underlying28, sizeOf, typeInfo, hi, Builtin.lenOf, Builtin.firstCells, loadCells, loadCellsFrom, storeCells, hlc]

theorem run_appBs {w : World} (B : Nat) (v xv : Value) (l l' : List UInt8) {lo hi : Nat} (hown : OwnB w B v l) (hx : Sl w lo hi xv (iz l')) (hb : l.length + l'.length ≤ 1000000) (hB : B ≤ w.heap.size) :
    ∃ a' c' w', (Builtin.append_ #[28, 28] 28 #[v, xv]).run Tryz.prog w = .ok (.slice a' (l.length + l'.length) c') w' ∧ OwnB w' B (.slice a' (l.length + l'.length) c') (l ++ l') ∧ Aside (fun b => v.ownBlock = some b) w w' := by
  rcases Nat.eq_zero_or_pos l'.length with h0 | h0
  · have : l' = [] := List.eq_nil_of_length_eq_zero h0
    subst this
    obtain ⟨ad, c, rfl, _⟩ := hx
    have h1 := run_appB0 B v l ad c hown
    obtain ⟨a', c', rfl⟩ := hown.shape
    exact ⟨a', c', w, h1, by rw [List.append_nil]; exact hown, Aside.refl _ _⟩
  · obtain ⟨v', w', h1, h2, h3, _⟩ := run_appB B v xv l l' hown hx h0 hb hB
    obtain ⟨a', c', hv⟩ := h2.shape
    rw [List.length_append] at hv
    subst hv
    exact ⟨a', c', w', h1, h2, aside_grown h3⟩

end Go.Proofs.YteegekpanadmkaaGreat

/-
  slices.Concat of rows of bytes.
-/
namespace Go.Proofs.YteegekpanadmkaaGreat
open Go.RowKit Go.Shelf
set_option linter.unusedVariables false
set_option linter.unusedSimpArgs false
set_option maxRecDepth 100000

theorem grow_any (w : World) (n : Nat) (hn : n ≤ 1000000) :
    Calls Tryz.prog 142 #[.slice none 0 0, .int .i64 n] w fun e w' => ∃ a c, e = .returned (.slice a 0 c) ∧ OwnB w' w.heap.size (.slice a 0 c) [] ∧ Below w.heap.size w w' := by
  by_cases h0 : n = 0
  · subst h0
    go_enter Tryz.func142, Tryz.ntmps142
    go_wp2_with fail
    go_ret
    exact ⟨none, 0, rfl, OwnB.nil _ _, Below.refl _ _⟩
  · have t1 : ¬ ((n : Int) < 0) := by omega
    have t2 : (0 : Int) < n := by omega
    have e1 : wrap64 ((n : Int) - 0) = n := by rw [IntWalk.wrap64_in _ ⟨by omega, by omega⟩]; omega
    obtain ⟨i, hi, hz0, hz1, hz2⟩ := info_parts Tryz.info5
    have hr := Lib.run_append_nil_zeros (P := Tryz.prog) w 28 3 28 5 i _ .i64 .i64 Tryz.underlying28 Tryz.underlying3 hi hz0 n (by omega) (by omega) (by omega) (by rw [hz2]; omega)
    have hge := grownCap_ge w n 0 5
    obtain ⟨cap, hcap⟩ : ∃ cap, grownCap w n 0 5 = cap := ⟨_, rfl⟩
    have hml := grownCap_le_maxLen w n 0 5 (by unfold maxLen; omega)
    rw [hcap] at hr hge hml
    have hrow : (Builtin.zeroCells (Value.int .u8 0).cells n ++ Builtin.zeroCells (Value.int .u8 0).cells (cap - n)) = (rowB [] cap).toArray := by
      rw [zeroCells_one _ rfl, zeroCells_one _ rfl]
      unfold rowB
      simp [ub]
      congr 1; omega
    rw [hrow] at hr
    have HR := Lib.hid hr
    have HO : Hid (OwnB (w.drew.alloc (.cells (rowB [] cap).toArray 5)) w.heap.size (.slice (some ⟨w.heap.size, 0, none⟩) 0 cap) []) :=
      .inr ⟨w.heap.size, cap, (0, 0), rfl, Nat.le_refl _, Nat.zero_le _, hml, .inl rfl, heap_alloc_new w.drew _⟩
    clear hr hrow hcap hi hz0 hz1 hz2
    go_enter Tryz.func142, Tryz.ntmps142
    go_wp2_with (at_builtin; refine wpList_append_run (.tmp 20) (.tmp 21) 28 3 rfl rfl rfl rfl HR.out ?_)
    go_ret
    exact ⟨_, _, rfl, HO.out, (Below.refl _ w).drew.alloc (Nat.le_refl _) _⟩

theorem flat_take {ls : List (List UInt8)} {k : Nat} (h : k < ls.length) : (ls.take (k + 1)).flatten = (ls.take k).flatten ++ ls[k] := by
  rw [List.take_succ_eq_append_getElem h, List.flatten_append]
  simp
theorem flat_le (ls : List (List UInt8)) (k : Nat) : (ls.take k).flatten.length ≤ ls.flatten.length := by
  conv => rhs; rw [← List.take_append_drop k ls, List.flatten_append, List.length_append]
  omega

set_option maxHeartbeats 4000000 in
theorem concat_any {w : World} {g lo hi n c0 : Nat} {ls : List (List UInt8)} (hn : ls.length = n) (hn6 : n ≤ 1000) (hg : g < w.heap.size) (hhi : hi ≤ w.heap.size) (hb : ls.flatten.length ≤ 900000)
    (hc : ∀ j (h : j < ls.length), ∃ a c, w.cell? ⟨g, j, none⟩ = some (.slice a ls[j].length c) ∧ Sl w lo hi (.slice a ls[j].length c) (iz ls[j])) :
    Calls Tryz.prog 131 #[.slice (some ⟨g, 0, none⟩) n c0] w fun e w' => ∃ v, e = .returned v ∧ OwnB w' w.heap.size v ls.flatten ∧ Below w.heap.size w w' := by
  have HC := Lib.hid hc
  have HN := Lib.hid hn
  obtain ⟨N, hN⟩ : ∃ N, ls.flatten.length = N := ⟨_, rfl⟩
  have HNN := Lib.hid hN
  rw [hN] at hb
  have HG := Lib.hid (fun wx => grow_any wx N (by omega))
  clear hc hN hn
  go_enter Tryz.func131, Tryz.ntmps131
  go_wp2_with fail
  go_loopg [3, 11] n (fun k v3 v11 wr => ∃ j z : Nat, j + k = n ∧ v11 = .int .i64 j ∧ v3 = .int .i64 z ∧ z ≤ N ∧ Hid ((ls.take j).flatten.length = z) ∧ w = wr)
  case atStart => exact ⟨0, 0, by omega, rfl, rfl, by omega, rfl, rfl⟩
  case round =>
    obtain ⟨j, z, hj, rfl, rfl, hz, HZ, rfl⟩ := hrel
    by_cases hlt : j < n
    · have hlt2 : j < ls.length := by have := HN.out; omega
      obtain ⟨a, c, c1, _⟩ := HC.out j hlt2
      have HZ2 := Lib.hid (show (ls.take (j + 1)).flatten.length = z + ls[j].length by rw [flat_take hlt2, List.length_append, HZ.out])
      have hle : z + ls[j].length ≤ N := by rw [← HZ2.out, ← HNN.out]; exact flat_le ls (j + 1)
      obtain ⟨m, hm⟩ : ∃ m, ls[j].length = m := ⟨_, rfl⟩
      rw [hm] at c1 hle HZ2
      clear hm
      go_wp2_with fail
      go_roundg (n - (j + 1))
      case measure => omega
      case rel => exact ⟨j + 1, z + m, by omega, by go_num, by go_num, hle, HZ2, rfl⟩
    · have hje : j = n := by omega
      subst hje
      have hzN : z = N := by rw [← HZ.out, ← HNN.out, List.take_of_length_le (by have := HN.out; omega)]
      subst hzN
      clear HZ
      go_wp2_with fail
      refine (HG.out _).mono ?_; rintro e w1 ⟨a6, c6, rfl, ho, hb1⟩
      have HO := Lib.hid ho
      have HB := Lib.hid hb1
      clear ho hb1
      go_wp2_with fail
      go_loopg [6, 27] j (fun k v6 v27 wr => ∃ (i : Nat) (acc : List UInt8) (a : Option Addr) (c : Nat), i + k = j ∧ v27 = .int .i64 i ∧ v6 = .slice a acc.length c ∧ Hid ((ls.take i).flatten = acc) ∧ Hid (OwnB wr w.heap.size (.slice a acc.length c) acc) ∧ Hid (Below w.heap.size w wr))
      case atStart => exact ⟨0, [], a6, c6, by omega, rfl, rfl, rfl, HO, HB⟩
      case round =>
        clear HO HB
        obtain ⟨i, acc, a, c, hi2, rfl, rfl, HA, HO, HB⟩ := hrel
        by_cases hlt : i < j
        · have hlt2 : i < ls.length := by have := HN.out; omega
          obtain ⟨ax, cx, c1, hs⟩ := HC.out i hlt2
          have hs2 := hs.below HB.out hhi
          have c2 := HB.out.cell (p := ⟨g, i, none⟩) hg
          rw [c1] at c2
          have HA2 := Lib.hid (show (ls.take (i + 1)).flatten = acc ++ ls[i] by rw [flat_take hlt2, HA.out])
          have hle : acc.length + ls[i].length ≤ 900000 := by
            have h1 := flat_le ls (i + 1)
            rw [HA2.out, List.length_append, HNN.out] at h1
            omega
          obtain ⟨a', c', w', hr, ho, ha⟩ := run_appBs w.heap.size _ _ acc ls[i] HO.out hs2 (by omega) HB.out.size
          have hlt3 := HO.out.lt
          have HB2 := Lib.hid (below_aside HB.out ha fun b hb => ⟨Nat.lt_of_lt_of_le hb HB.out.size, fun hg2 => by have := (hlt3 b hg2).1; omega⟩)
          have hL : (acc ++ ls[i]).length = acc.length + ls[i].length := List.length_append
          obtain ⟨x, hx⟩ : ∃ x, ls[i] = x := ⟨_, rfl⟩
          rw [hx] at hr ho c2 hs2 HA2 hL
          obtain ⟨m, hm⟩ : ∃ m, x.length = m := ⟨_, rfl⟩
          obtain ⟨y, hy⟩ : ∃ y, acc.length = y := ⟨_, rfl⟩
          rw [hm] at c2
          rw [hm, hy] at hr ho
          have HLN := Lib.hid hL
          have HR := Lib.hid hr
          have HOn := Lib.hid ho
          have HM := Lib.hid hm
          have HY := Lib.hid hy
          rw [hy]
          clear hr ho ha hs hs2 hx hL hm hy hle c1
          go_wp2_with (at_builtin; refine wpList_append_run (.tmp 31) (.tmp 32) 28 28 rfl rfl rfl rfl HR.out ?_)
          go_roundg (j - (i + 1))
          case measure => omega
          case rel => exact ⟨i + 1, acc ++ x, a', c', by omega, by go_num, by rw [HLN.out, HM.out, HY.out], HA2, by rw [HLN.out, HM.out, HY.out]; exact HOn, HB2⟩
        · have hie : i = j := by omega
          subst hie
          have hE : acc = ls.flatten := by rw [← HA.out, List.take_of_length_le (by have := HN.out; omega)]
          have HE := Lib.hid hE
          clear hE
          go_wp2_with fail
          go_ret
          exact ⟨_, rfl, HE.out ▸ HO.out, HB.out⟩
end Go.Proofs.YteegekpanadmkaaGreat

/-
  Records: whether one may be, its lower form, which are the same.
-/
namespace Go.Proofs.YteegekpanadmkaaGreat
open Go.RowKit Go.Shelf
set_option linter.unusedVariables false
set_option linter.unusedSimpArgs false
set_option maxRecDepth 100000

structure Rc where
  n : List UInt8
  t : Int
  c : Int
  l : Int
  d : List UInt8

def askE (n : List UInt8) (t c : Int) : Int := if chk n ≠ 0 then chk n else if t < 0 ∨ 65535 < t ∨ c < 0 ∨ 65535 < c then 5 else 0

def chkC (x : Rc) : Int := if askE x.n x.t x.c ≠ 0 then askE x.n x.t x.c else if x.l < 0 ∨ 2147483647 < x.l then 5 else (spl x.t x.d).code

theorem bound_yes (n : Int) (h : 0 ≤ n ∧ n ≤ 65535) (w : World) : Calls Tryz.prog 137 #[.int .i64 n] w fun e w' => e = .returned (.bool true) ∧ w = w' := by
  obtain ⟨h1, h2⟩ := h
  go_enter Tryz.func137, Tryz.ntmps137
  go_wp2
  go_ret
  exact ⟨rfl, rfl⟩

theorem bound_no (n : Int) (h : n < 0 ∨ 65535 < n) (w : World) : Calls Tryz.prog 137 #[.int .i64 n] w fun e w' => e = .returned (.bool false) ∧ w = w' := by
  by_cases h0 : n < 0
  · have t1 : decide (0 ≤ n) = false := by simpa using h0
    go_enter Tryz.func137, Tryz.ntmps137
    go_wp2
    go_ret
    exact ⟨rfl, rfl⟩
  · have t1 : decide (0 ≤ n) = true := by simpa using h0
    have t2 : decide (n ≤ 65535) = false := by simp; omega
    go_enter Tryz.func137, Tryz.ntmps137
    go_wp2
    go_ret
    exact ⟨rfl, rfl⟩

theorem ask_any (n : List UInt8) (hn : n.length ≤ 1000000) (t c : Int) (w : World) : Calls Tryz.prog 129 #[.string (bs n), .int .i64 t, .int .i64 c] w (Tells w (.int .i64 (askE n t c))) := by
  have HC := Lib.hid (check_any n (by omega) w)
  by_cases h0 : chk n = 0
  · by_cases ht : 0 ≤ t ∧ t ≤ 65535
    · by_cases hc : 0 ≤ c ∧ c ≤ 65535
      · have e : askE n t c = 0 := by unfold askE; rw [if_neg (by simpa using h0), if_neg (by omega)]
        have B1 := Lib.hid (bound_yes t ht)
        have B2 := Lib.hid (bound_yes c hc)
        rw [e]
        rw [h0] at HC
        clear e h0 ht hc
        go_enter Tryz.func129, Tryz.ntmps129
        go_wp2_with fail
        refine HC.out.mono ?_; rintro e w1 ⟨rfl, hb⟩
        have HB := Lib.hid hb
        clear hb
        go_wp2_with fail
        refine (B1.out _).mono ?_; rintro e w2 ⟨rfl, rfl⟩
        go_wp2_with fail
        refine (B2.out _).mono ?_; rintro e w2 ⟨rfl, rfl⟩
        go_wp2_with fail
        go_ret
        exact ⟨rfl, HB.out⟩
      · have e : askE n t c = 5 := by unfold askE; rw [if_neg (by simpa using h0), if_pos (by omega)]
        have B1 := Lib.hid (bound_yes t ht)
        have B2 := Lib.hid (bound_no c (by omega))
        rw [e]
        rw [h0] at HC
        clear e h0 ht hc
        go_enter Tryz.func129, Tryz.ntmps129
        go_wp2_with fail
        refine HC.out.mono ?_; rintro e w1 ⟨rfl, hb⟩
        have HB := Lib.hid hb
        clear hb
        go_wp2_with fail
        refine (B1.out _).mono ?_; rintro e w2 ⟨rfl, rfl⟩
        go_wp2_with fail
        refine (B2.out _).mono ?_; rintro e w2 ⟨rfl, rfl⟩
        go_wp2_with fail
        go_ret
        exact ⟨rfl, HB.out⟩
    · have e : askE n t c = 5 := by unfold askE; rw [if_neg (by simpa using h0), if_pos (by omega)]
      have B1 := Lib.hid (bound_no t (by omega))
      rw [e]
      rw [h0] at HC
      clear e h0 ht
      go_enter Tryz.func129, Tryz.ntmps129
      go_wp2_with fail
      refine HC.out.mono ?_; rintro e w1 ⟨rfl, hb⟩
      have HB := Lib.hid hb
      clear hb
      go_wp2_with fail
      refine (B1.out _).mono ?_; rintro e w2 ⟨rfl, rfl⟩
      go_wp2_with fail
      go_ret
      exact ⟨rfl, HB.out⟩
  · have e : askE n t c = chk n := by unfold askE; rw [if_pos (by simpa using h0)]
    rw [e]
    obtain ⟨c0, hc0⟩ : ∃ c0, chk n = c0 := ⟨_, rfl⟩
    rw [hc0] at HC h0 ⊢
    have tc : (c0 != 0) = true := by simpa using h0
    clear e h0 hc0
    go_enter Tryz.func129, Tryz.ntmps129
    go_wp2_with fail
    refine HC.out.mono ?_; rintro e w1 ⟨rfl, hb⟩
    have HB := Lib.hid hb
    clear hb
    go_wp2_with fail
    go_ret
    exact ⟨rfl, HB.out⟩

set_option maxHeartbeats 1000000 in
theorem checkC_any (n : List UInt8) (t c l : Int) (d : List UInt8) (hn : n.length ≤ 1000000) (hd : d.length ≤ 1000000) (w : World) :
    Calls Tryz.prog 155 #[.agg #[.string (bs n), .int .i64 t, .int .i64 c, .int .i64 l, .string (bs d)]] w (Tells w (.int .i64 (chkC ⟨n, t, c, l, d⟩))) := by
  have HA := Lib.hid (fun wx => ask_any n hn t c wx)
  have HR := Lib.hid (fun wx => rcheckD_any t d hd wx)
  have HB := Lib.hid ((Below.refl w.heap.size w).alloc (Nat.le_refl _) (.cells #[.string (bs n), .int .i64 t, .int .i64 c, .int .i64 l, .string (bs d)] 52))
  have c0 : (w.alloc (.cells #[.string (bs n), .int .i64 t, .int .i64 c, .int .i64 l, .string (bs d)] 52)).cell? ⟨w.heap.size, 1, none⟩ = some (.int .i64 t) := by simp [go_sem]
  have c3 : (w.alloc (.cells #[.string (bs n), .int .i64 t, .int .i64 c, .int .i64 l, .string (bs d)] 52)).cell? ⟨w.heap.size, 3, none⟩ = some (.int .i64 l) := by simp [go_sem]
  have c4 : (w.alloc (.cells #[.string (bs n), .int .i64 t, .int .i64 c, .int .i64 l, .string (bs d)] 52)).cell? ⟨w.heap.size, 4, none⟩ = some (.string (bs d)) := by simp [go_sem]
  have HQ := Lib.hid (And.intro c0 (And.intro c3 c4))
  clear c0 c3 c4
  have hlt : w.heap.size < (w.alloc (.cells #[.string (bs n), .int .i64 t, .int .i64 c, .int .i64 l, .string (bs d)] 52)).heap.size := by simp
  have HL := Lib.hid hlt
  clear hlt
  obtain ⟨E, hE⟩ : ∃ E, askE n t c = E := ⟨_, rfl⟩
  have e0 : chkC ⟨n, t, c, l, d⟩ = if E ≠ 0 then E else if l < 0 ∨ 2147483647 < l then 5 else (spl t d).code := by unfold chkC; simp only [hE]
  rw [e0]
  rw [hE] at HA
  clear e0 hE
  by_cases h0 : E = 0
  · subst h0
    rw [if_neg (by simp)]
    by_cases hl : l < 0 ∨ 2147483647 < l
    · rw [if_pos hl]
      have tl : decide (l < 0) = true ∨ (decide (l < 0) = false ∧ decide ((2147483647 : Int) < l) = true) := by
        by_cases h : l < 0
        · exact .inl (by simpa using h)
        · exact .inr ⟨by simpa using h, by simp; omega⟩
      clear hl
      rcases tl with tl | ⟨tl, tl2⟩
      all_goals
        go_enter Tryz.func155, Tryz.ntmps155
        go_wp2_with fail
        refine (HA.out _).mono ?_; rintro e w1 ⟨rfl, hb⟩
        have c3 := cell_later hb HQ.out.2.1
        have HB1 := Lib.hid (bel_call HB.out hb)
        clear hb
        go_wp2_with fail
        go_ret
        exact ⟨rfl, HB1.out⟩
    · rw [if_neg hl]
      have tl : decide (l < 0) = false := by simp; omega
      have tl2 : decide ((2147483647 : Int) < l) = false := by simp; omega
      clear hl
      obtain ⟨C, hC⟩ : ∃ C, (spl t d).code = C := ⟨_, rfl⟩
      rw [hC] at HR ⊢
      clear hC
      go_enter Tryz.func155, Tryz.ntmps155
      go_wp2_with fail
      refine (HA.out _).mono ?_; rintro e w1 ⟨rfl, hb⟩
      have c3 := cell_later hb HQ.out.2.1
      have c4 := cell_later hb HQ.out.2.2
      have c1 := cell_later hb HQ.out.1
      have HB1 := Lib.hid (bel_call HB.out hb)
      clear hb
      go_wp2_with fail
      refine (HR.out _).mono ?_; rintro e w2 ⟨rfl, hb⟩
      have HB2 := Lib.hid (bel_call HB1.out hb)
      clear hb
      go_wp2_with fail
      go_ret
      exact ⟨rfl, HB2.out⟩
  · rw [if_pos (by simpa using h0)]
    have tE : (E != 0) = true := by simpa using h0
    clear h0
    go_enter Tryz.func155, Tryz.ntmps155
    go_wp2_with fail
    refine (HA.out _).mono ?_; rintro e w1 ⟨rfl, hb⟩
    have HB1 := Lib.hid (bel_call HB.out hb)
    clear hb
    go_wp2_with fail
    go_ret
    exact ⟨rfl, HB1.out⟩
end Go.Proofs.YteegekpanadmkaaGreat

/-
  A record's lower form; which records are the same.
-/
namespace Go.Proofs.YteegekpanadmkaaGreat
open Go.RowKit Go.Shelf
set_option linter.unusedVariables false
set_option linter.unusedSimpArgs false
set_option maxRecDepth 100000

theorem Cel.five {w : World} {q : Nat} {a b c d e : Value} (h : Cel w q [a, b, c, d, e]) : w.cell? ⟨q, 0, none⟩ = some a ∧ w.cell? ⟨q, 1, none⟩ = some b ∧ w.cell? ⟨q, 2, none⟩ = some c ∧ w.cell? ⟨q, 3, none⟩ = some d ∧ w.cell? ⟨q, 4, none⟩ = some e :=
  ⟨h.c 0 (by simp), h.c 1 (by simp), h.c 2 (by simp), h.c 3 (by simp), h.c 4 (by simp)⟩

theorem cel_new (w : World) (a b c d e : Value) (T : TypeId) : Cel (w.alloc (.cells #[a, b, c, d, e] T)) w.heap.size [a, b, c, d, e] := ⟨fun j hj => by
    match j, hj with
    | 0, _ => simp [go_sem]
    | 1, _ => simp [go_sem]
    | 2, _ => simp [go_sem]
    | 3, _ => simp [go_sem]
    | 4, _ => simp [go_sem], fun j => by simp [go_sem]⟩

end Go.Proofs.YteegekpanadmkaaGreat

/-
  Write: plainly; what it asks of the packer.
-/
namespace Go.Proofs.YteegekpanadmkaaGreat
open Go.RowKit Go.Shelf
set_option linter.unusedVariables false
set_option linter.unusedSimpArgs false
set_option maxRecDepth 100000

abbrev KK := List (List UInt8 × Nat)
structure WR where
  out : List UInt8
  code : Int
  K : KK
  e : Nat

def wrL (a : Int) : List Pc → KK → Nat → List UInt8 → WR
  | [], K, e, acc => ⟨acc, 0, K, e⟩
  | x :: L, K, e, acc =>
    if x.2 = true then
      (if pkE e (wrap64 (a + acc.length)) x.1 ≠ 0 then ⟨[], pkE e (wrap64 (a + acc.length)) x.1, K, e⟩
       else wrL a L (nameK K e (wrap64 (a + acc.length)) x.1) (nameE K e (wrap64 (a + acc.length)) x.1) (acc ++ nameB K e (wrap64 (a + acc.length)) x.1))
    else wrL a L K e (acc ++ x.1)

def wrR (a t : Int) (d : List UInt8) (K : KK) (e : Nat) : WR := match spl t d with | .ok L => wrL a L K e [] | .bad c _ => ⟨[], c, K, e⟩

theorem nameB_len {K : KK} {e : Nat} {a : Int} {n : List UInt8} (hG : GoodK K) : (nameB K e a n).length ≤ 255 ∧ (pkE e a n = 0 → (nameB K e a n).length ≤ n.length) := by
  unfold nameB
  by_cases h : pkE e a n = 0
  · rw [if_pos h]
    have hc : chk n = 0 := by
      unfold pkE at h
      split at h
      · rename_i h1; exact absurd h h1
      · rename_i h1; simpa using h1
    obtain ⟨hs, hn⟩ := shorts_of hc
    have hl := told_le hG hs
    have e1 : nm (labs n) = n := hn.symm
    rw [e1] at hl
    have := (chk_pos hc).2
    exact ⟨by omega, fun _ => hl⟩
  · rw [if_neg h]
    exact ⟨by simp, fun h' => absurd h' h⟩

theorem pkE_chk {e : Nat} {a : Int} {n : List UInt8} (h : pkE e a n = 0) : chk n = 0 ∧ 0 ≤ a ∧ a ≤ 65535 ∧ (e : Int) ≤ a := by
  unfold pkE at h
  split at h
  · rename_i h1; exact absurd h h1
  · rename_i h1
    split at h
    · exact absurd h (by decide)
    · split at h
      · exact absurd h (by decide)
      · exact ⟨by simpa using h1, by omega, by omega, by omega⟩

theorem nameK_good {K : KK} {e : Nat} {a : Int} {n : List UInt8} (hG : GoodK K) : GoodK (nameK K e a n) ∧ (nameK K e a n).length ≤ K.length + 127 ∧ nameE K e a n ≤ max e 65790 := by
  unfold nameK nameE
  by_cases h : pkE e a n = 0
  · rw [if_pos h, if_pos h]
    obtain ⟨hc, h0, h1, h2⟩ := pkE_chk h
    obtain ⟨hs, hn⟩ := shorts_of hc
    have hh := hdn_le K (labs n)
    have hb := (nameB_len (e := e) (a := a) (n := n) hG).1
    unfold nameB at hb
    rw [if_pos h] at hb
    refine ⟨good_fr hG hs _ hh, ?_, by omega⟩
    rw [List.length_append]
    have h3 := fr_len (labs n) a.toNat (hdn K (labs n))
    have h4 := len_wire2 hs.1
    have h5 := hs.2
    omega
  · rw [if_neg h, if_neg h]
    exact ⟨hG, by omega, by omega⟩

theorem chk_nil : chk [] = 4 := by unfold chk; rw [show left [] = [] from by rw [left]]; simp

theorem pmade_any {w : World} {p bm e : Nat} {K : KK} (h : Pk w p bm K e) (hG : GoodK K) (hK : K.length ≤ 900000) (he : e ≤ 1000000) : Calls Tryz.prog 167 #[.pointer (some ⟨p, 0, none⟩)] w fun x w' => x = .returned (.bool true) ∧ Pk w' p bm K e ∧ Aside (fun b => b = p ∨ b = bm) w w' := by
  have hE : pkE e 0 [] = 4 := by unfold pkE; rw [if_pos (by rw [chk_nil]; decide), chk_nil]
  have HN : Hid (Calls Tryz.prog 130 #[.pointer (some ⟨p, 0, none⟩), .int .i64 0, .string ⟨#[]⟩] w fun x w' => ∃ v, x = .returned (.tuple #[v, .int .i64 4]) ∧ Pk w' p bm K e ∧ Aside (fun b => b = p ∨ b = bm) w w') := by
    refine (show Calls Tryz.prog _ #[.pointer (some ⟨p, 0, none⟩), .int .i64 0, .string ⟨#[]⟩] w _ from name_any h hG hK he 0 [] (by simp)).mono ?_
    rintro x w' ⟨v, rfl, _, hp, ha⟩
    unfold nameK nameE at hp
    rw [hE, if_neg (by decide), if_neg (by decide)] at hp
    exact ⟨v, by rw [hE], hp, ha⟩
  clear h hE
  go_enter Tryz.func167, Tryz.ntmps167
  go_wp2_with fail
  refine HN.out.mono ?_; rintro e w1 ⟨v, rfl, hp, ha⟩
  have HP := Lib.hid (And.intro hp ha)
  clear hp ha
  go_wp2_with fail
  go_ret
  exact ⟨rfl, HP.out⟩
end Go.Proofs.YteegekpanadmkaaGreat
