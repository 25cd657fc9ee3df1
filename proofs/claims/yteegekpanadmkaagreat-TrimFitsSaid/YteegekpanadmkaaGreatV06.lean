/-
  A row is turned about; two stretches of it that stand side by side change places.
-/
import Derived.Test.YteegekpanadmkaaGreatV05
import Derived.Laws.MakeOwn
import Derived.Laws.OwnMore
import Derived.Test.YteegekpanadmkaaGreatV04
import Derived.Deep.Slices
import Derived.Deep.LoopGhost
import Derived.ChangeArms
import Derived.Outline
import Derived.Laws.StructEq
import Derived.Test.YteegekpanadmkaaGreatV01
import Derived.Test.YteegekpanadmkaaGreatV02
namespace Go.Proofs.YteegekpanadmkaaGreat
open Go.RowKit Go.Shelf
set_option linter.unusedVariables false
set_option linter.unusedSimpArgs false
set_option maxRecDepth 100000

set_option maxHeartbeats 400000 in
theorem rotate_any {w : World} {B b g c N : Nat} {P X Y S : List Nat} (h : Pr w B b g c N (P ++ (X ++ (Y ++ S)))) (hN : N ≤ 1000000) (a m z : Nat) (ha : P.length = a) (hm : a + X.length = m) (hz : m + Y.length = z) (hx0 : 0 < X.length) (hy0 : 0 < Y.length) (f : Value) :
    Calls Tryz.prog 97 #[.slice (some ⟨g, 0, none⟩) N c, .int .i64 a, .int .i64 m, .int .i64 z, f] w (PrPost w B b g c N (fun l => l = P ++ (Y ++ (X ++ S)))) := by
  have hlen := h.len
  rw [List.length_append, List.length_append, List.length_append] at hlen
  obtain ⟨i0, hi0⟩ : ∃ k, X.length = k := ⟨_, rfl⟩
  obtain ⟨j0, hj0⟩ : ∃ k, Y.length = k := ⟨_, rfl⟩
  rw [hi0] at hm hx0 hlen
  rw [hj0] at hz hy0 hlen
  have w1 : IntKind.i64.wrap ((m : Int) - (a : Int)) = (i0 : Int) := by rw [IntWalk.i64_in _ (by omega)]; omega
  have w2 : IntKind.i64.wrap ((z : Int) - (m : Int)) = (j0 : Int) := by rw [IntWalk.i64_in _ (by omega)]; omega
  have v1 : (m : Int) - (a : Int) = (i0 : Int) := by omega
  have v2 : (z : Int) - (m : Int) = (j0 : Int) := by omega
  have H := Lib.hid h
  have HXY := Lib.hid (And.intro hi0 hj0)
  clear h hi0 hj0
  go_enter Tryz.func97, Tryz.ntmps97
  go_wp2
  go_loopg [10, 11] (i0 + j0) (fun kx s t wr => ∃ (i j : Nat) (Y0 X1 Y1 X0 : List Nat), i + j ≤ kx ∧ 0 < i ∧ 0 < j ∧ i ≤ m ∧ m + j ≤ N ∧ s = .int .i64 i ∧ t = .int .i64 j ∧ Hid (X1.length = i ∧ Y1.length = j ∧ P.length + Y0.length + i = m ∧ Y ++ X = Y0 ++ (Y1 ++ (X1 ++ X0)) ∧ Pr wr B b g c N (P ++ (Y0 ++ (X1 ++ (Y1 ++ (X0 ++ S))))) ∧ Aside (fun k => k = g) w wr))
  case atStart => exact ⟨i0, j0, [], X, Y, [], Nat.le_refl _, hx0, hy0, by omega, by omega, rfl, rfl, Lib.hid ⟨HXY.out.1, HXY.out.2, by simp; omega, by simp, by simpa using H.out, Aside.refl _ _⟩⟩
  case round =>
    obtain ⟨i, j, Y0, X1, Y1, X0, hk, hi, hj, him, hmj, rfl, rfl, HH⟩ := hrel
    clear w1 w2 v1 v2
    obtain ⟨q1, hq1⟩ : ∃ q, q + i = m := ⟨m - i, by omega⟩
    have w1 : IntKind.i64.wrap ((m : Int) - (i : Int)) = (q1 : Int) := by rw [IntWalk.i64_in _ (by omega)]; omega
    have v1 : (m : Int) - (i : Int) = (q1 : Int) := by omega
    rcases Nat.lt_trichotomy i j with hlt | rfl | hlt
    · obtain ⟨k1, k2, k3, k4, k5, k6⟩ := HH.out
      obtain ⟨d, hd⟩ : ∃ d, j = i + d := ⟨j - i, by omega⟩
      obtain ⟨q2, hq2⟩ : ∃ q, q = m + d := ⟨_, rfl⟩
      obtain ⟨q3, hq3⟩ : ∃ q, q = m + j := ⟨_, rfl⟩
      have w2 : IntKind.i64.wrap ((m : Int) + (j : Int)) = (q3 : Int) := by rw [IntWalk.i64_in _ (by omega)]; omega
      have v2 : (m : Int) + (j : Int) = (q3 : Int) := by omega
      have w3 : IntKind.i64.wrap ((q3 : Int) - (i : Int)) = (q2 : Int) := by rw [IntWalk.i64_in _ (by omega)]; omega
      have v3 : (q3 : Int) - (i : Int) = (q2 : Int) := by omega
      have w4 : IntKind.i64.wrap ((j : Int) - (i : Int)) = (d : Int) := by rw [IntWalk.i64_in _ (by omega)]; omega
      have v4 : (j : Int) - (i : Int) = (d : Int) := by omega
      obtain ⟨Y2, Y3, rfl, hY2⟩ : ∃ U V, Y1 = U ++ V ∧ U.length = d := ⟨Y1.take d, Y1.drop d, (List.take_append_drop _ _).symm, by simp; omega⟩
      rw [List.length_append] at k2
      have HC := Lib.hid (swapR_any (P := P ++ Y0) (X := X1) (M := Y2) (Y := Y3) (S := X0 ++ S) (by simpa using k5) hN q1 q2 i (by rw [List.length_append]; omega) (by rw [List.length_append]; omega) k1 (by omega) f)
      have hne : ¬ (i : Int) = j := by omega
      have hg : ¬ (j : Int) < i := by omega
      clear hq2 hd hq3
      go_wp2_with fail
      refine HC.out.mono ?_; rintro e w1 ⟨rfl, l, rfl, hp, hs⟩
      have HP := Lib.hid (And.intro hp hs)
      clear hp hs
      go_wp2_with fail
      go_roundg (i + d)
      case rel => exact ⟨i, d, Y0, Y3, Y2, X1 ++ X0, Nat.le_refl _, hi, by omega, him, by omega, rfl, rfl, Lib.hid ⟨by omega, hY2, k3, by rw [k4]; simp, by simpa using HP.out.1, k6.trans HP.out.2⟩⟩
      case measure => omega
    · obtain ⟨k1, k2, k3, k4, k5, k6⟩ := HH.out
      have HC := Lib.hid (swapR_any (P := P ++ Y0) (X := X1) (M := []) (Y := Y1) (S := X0 ++ S) (by simpa using k5) hN q1 m i (by rw [List.length_append]; omega) (by rw [List.length_append]; simp; omega) k1 k2 f)
      clear hq1
      go_wp2_with fail
      refine HC.out.mono ?_; rintro e w1 ⟨rfl, l, rfl, hp, hs⟩
      have HP := Lib.hid (And.intro hp hs)
      clear hp hs
      go_wp2_with fail
      go_end0
      refine ⟨rfl, _, rfl, ?_, k6.trans HP.out.2⟩
      have := HP.out.1
      rw [← List.append_assoc Y X, k4]
      simpa using this
    · obtain ⟨k1, k2, k3, k4, k5, k6⟩ := HH.out
      obtain ⟨d, hd⟩ : ∃ d, i = j + d := ⟨i - j, by omega⟩
      have w4 : IntKind.i64.wrap ((i : Int) - (j : Int)) = (d : Int) := by rw [IntWalk.i64_in _ (by omega)]; omega
      have v4 : (i : Int) - (j : Int) = (d : Int) := by omega
      obtain ⟨X2, X3, rfl, hX2⟩ : ∃ U V, X1 = U ++ V ∧ U.length = j := ⟨X1.take j, X1.drop j, (List.take_append_drop _ _).symm, by simp; omega⟩
      rw [List.length_append] at k1
      have HC := Lib.hid (swapR_any (P := P ++ Y0) (X := X2) (M := X3) (Y := Y1) (S := X0 ++ S) (by simpa using k5) hN q1 m j (by rw [List.length_append]; omega) (by rw [List.length_append]; omega) hX2 k2 f)
      clear hd hq1
      go_wp2_with fail
      refine HC.out.mono ?_; rintro e w1 ⟨rfl, l, rfl, hp, hs⟩
      have HP := Lib.hid (And.intro hp hs)
      clear hp hs
      go_wp2_with fail
      go_roundg (d + j)
      case rel => exact ⟨d, j, Y0 ++ Y1, X3, X2, X0, Nat.le_refl _, by omega, hj, by omega, by omega, rfl, rfl, Lib.hid ⟨by omega, hX2, by rw [List.length_append]; omega, by rw [k4]; simp, by simpa using HP.out.1, k6.trans HP.out.2⟩⟩
      case measure => omega

set_option maxHeartbeats 400000 in
theorem revP_any {w : World} {B b g c N : Nat} {l : List Nat} (h : Pr w B b g c N l) (hN : N ≤ 1000000) (h0 : 0 < N) :
    Calls Tryz.prog 57 #[.slice (some ⟨g, 0, none⟩) N c] w (PrPost w B b g c N (fun m => m = l.reverse)) := by
  have hlen := h.len
  have hcap := h.cap
  obtain ⟨n1, hn1⟩ : ∃ k, k + 1 = N := ⟨N - 1, by omega⟩
  have w1 : IntKind.i64.wrap ((N : Int) - 1) = (n1 : Int) := by rw [IntWalk.i64_in _ (by omega)]; omega
  have v1 : (N : Int) - 1 = (n1 : Int) := by omega
  have H := Lib.hid h
  clear h
  go_enter Tryz.func57, Tryz.ntmps57
  go_wp2
  go_loopg [2, 3] N (fun kx s t wr => ∃ (i j : Nat) (U M V : List Nat), M.length ≤ kx ∧ i + j = n1 ∧ i ≤ j + 1 ∧ s = .int .i64 i ∧ t = .int .i64 j ∧ Hid (l = U ++ (M ++ V) ∧ U.length = i ∧ V.length = i ∧ Pr wr B b g c N (V.reverse ++ (M ++ U.reverse)) ∧ Aside (fun k => k = g) w wr))
  case atStart => exact ⟨0, n1, [], l, [], by omega, by omega, by omega, rfl, rfl, Lib.hid ⟨by simp, rfl, rfl, by simpa using H.out, Aside.refl _ _⟩⟩
  case round =>
    obtain ⟨i, j, U, M, V, hk, hij, hi1, rfl, rfl, HH⟩ := hrel
    clear w1 v1
    obtain ⟨k1, k2, k3, k4, k5⟩ := HH.out
    have hM : M.length + (i + i) = N := by rw [k1, List.length_append, List.length_append] at hlen; omega
    by_cases hlt : i < j
    · obtain ⟨x, M1, rfl⟩ : ∃ x l, M = x :: l := by
        cases M with
        | nil => simp at hM; omega
        | cons x l => exact ⟨x, l, rfl⟩
      obtain ⟨M2, y, rfl⟩ : ∃ l x, M1 = l ++ [x] := by
        rcases List.eq_nil_or_concat M1 with rfl | ⟨l, x, rfl⟩
        · simp at hM; omega
        · exact ⟨l, x, by simp⟩
      have hM2 : M2.length + 2 + (i + i) = N := by simp at hM; omega
      have eL : V.reverse ++ (x :: (M2 ++ [y]) ++ U.reverse) = V.reverse ++ x :: (M2 ++ y :: U.reverse) := by simp
      obtain ⟨s1, _, s2, s3, s4⟩ := swap_two V.reverse M2 U.reverse x y i j (by simp [k3]) (by simp [k3]; omega)
      rw [eL] at k4
      have hR : Pr ((wr.setCell ⟨g, i, none⟩ (pe b y)).setCell ⟨g, j, none⟩ (pe b x)) B b g c N (V.reverse ++ y :: (M2 ++ x :: U.reverse)) := by
        have := (k4.set i y).set j x
        rwa [s1] at this
      have hA : Aside (fun k => k = g) w ((wr.setCell ⟨g, i, none⟩ (pe b y)).setCell ⟨g, j, none⟩ (pe b x)) := (k5.trans (Aside.setCell _ _ rfl)).trans (Aside.setCell _ _ rfl)
      have c1 := k4.at_ i (by omega) x s2
      have c2 := k4.at_ j (by omega) y s3
      have c3 := (k4.set i y).at_ j (by omega) y s4
      have f1 := k4.fz i
      have f2 := (k4.set i y).fz j
      have b1 : i < N := by omega
      have b2 : j < N := by omega
      have HR := Lib.hid hR
      have HA := Lib.hid hA
      have HK := Lib.hid (And.intro k1 (And.intro k2 k3))
      have HM := Lib.hid (And.intro hM2 (And.intro hij hk))
      obtain ⟨j1, hj1⟩ : ∃ k, k + 1 = j := ⟨j - 1, by omega⟩
      have v2 : (j : Int) - 1 = (j1 : Int) := by omega
      have HJ := Lib.hid hj1
      clear HH k1 k2 k3 k4 k5 hR hA s1 s2 s3 s4 eL hM hM2 hlen hij hk hj1 hi1 hn1
      unfold pe at *
      go_wp2
      go_region
      go_wp2
      go_roundg M2.length
      case rel =>
        obtain ⟨k1, k2, k3⟩ := HK.out
        have := HM.out
        have := HJ.out
        exact ⟨i + 1, j1, U ++ [x], M2, y :: V, Nat.le_refl _, by omega, by omega, by go_num, rfl, Lib.hid ⟨by rw [k1]; simp, by simp [k2], by simp [k3], by rw [show (y :: V).reverse ++ (M2 ++ (U ++ [x]).reverse) = V.reverse ++ y :: (M2 ++ x :: U.reverse) by simp]; exact HR.out, HA.out.trans (Aside.drewN _ 1)⟩⟩
      case measure => have := HM.out.2.2; simp at this; omega
    · go_wp2
      go_end0
      refine ⟨rfl, _, ?_, k4, k5⟩
      rw [k1]
      have : M.reverse = M := by
        match M, hM with
        | [], _ => rfl
        | [x], _ => rfl
        | x :: y :: r, hM => simp at hM; omega
      simp [this]
end Go.Proofs.YteegekpanadmkaaGreat

/-
  Messages, plainly: whether one may be, its bytes, and that what is written stands.
-/
namespace Go.Proofs.YteegekpanadmkaaGreat
open Go.RowKit Go.Shelf
set_option linter.unusedVariables false
set_option linter.unusedSimpArgs false
set_option maxRecDepth 100000

theorem wr_back2 (a : Nat) : ∀ (L : List Pc) (b : List UInt8) (K : KK) (e : Nat) (P : KK) (acc : List UInt8), Inv b K e P → (∀ x ∈ L, x.2 = true → chk x.1 = 0) → b.length = a + acc.length → b.length + (joined L).length ≤ 1000000000 →
    (wrL a L K e acc).code = 0 →
    ∃ out K' e' P', wrL a L K e acc = ⟨acc ++ out, 0, K', e'⟩ ∧ out.length ≤ (joined L).length ∧ Inv (b ++ out) K' e' P' ∧ Lies (b ++ out) b.length L (b.length + out.length)
  | [], b, K, e, P, acc, hI, _, hb, hl, _ => ⟨[], K, e, P, by rw [wrL, List.append_nil], by simp, by rw [List.append_nil]; exact hI, by rw [List.append_nil]; exact .nil (Nat.le_refl _)⟩
  | (x, false) :: L, b, K, e, P, acc, hI, hc, hb, hl, h0 => by
    rw [joined_cons, List.length_append] at hl
    have hl' : b.length + (x.length + (joined L).length) ≤ 1000000000 := hl
    have h0' : (wrL a L K e (acc ++ x)).code = 0 := by rw [wrL] at h0; exact h0
    obtain ⟨out, K', e', P', h1, h2, h3, h4⟩ := wr_back2 a L (b ++ x) K e P (acc ++ x) (hI.more x) (fun y hy => hc y (by simp [hy])) (by rw [List.length_append, List.length_append]; omega) (by rw [List.length_append]; omega) h0'
    refine ⟨x ++ out, K', e', P', ?_, ?_, ?_, ?_⟩
    · rw [wrL]
      show wrL a L K e (acc ++ x) = _
      rw [h1, List.append_assoc]
    · rw [joined_cons, List.length_append, List.length_append]
      show x.length + out.length ≤ x.length + _
      omega
    · rw [← List.append_assoc]; exact h3
    · rw [← List.append_assoc]
      rw [List.length_append] at h4
      refine .byt ?_ (by simp) (by rw [List.length_append, ← Nat.add_assoc]; exact h4)
      rw [List.append_assoc, List.drop_left, List.take_left]
  | (x, true) :: L, b, K, e, P, acc, hI, hc, hb, hl, h0 => by
    rw [joined_cons, List.length_append] at hl
    have hl' : b.length + (x.length + (joined L).length) ≤ 1000000000 := hl
    obtain ⟨hs, hx⟩ := shorts_of (hc (x, true) (by simp) rfl)
    have hx : x = nm (labs x) := hx
    obtain ⟨ls, hls⟩ : ∃ ls, labs x = ls := ⟨_, rfl⟩
    rw [hls] at hs hx
    subst hx
    have hw : wrap64 ((a : Int) + acc.length) = ((b.length : Nat) : Int) := by rw [IntWalk.wrap64_in _ ⟨by omega, by omega⟩]; omega
    have hla := hI.last
    have hE : pkE e b.length (nm ls) = 0 := by
      rw [wrL, if_pos rfl] at h0
      simp only at h0
      rw [hw] at h0
      by_cases hE : pkE e b.length (nm ls) = 0
      · exact hE
      · rw [if_pos hE] at h0; exact absurd h0 hE
    have e1 : nameB K e b.length (nm ls) = told K ls := by unfold nameB; rw [if_pos hE, show labs (nm ls) = ls from shorts_labs hs]
    have e2 : nameK K e b.length (nm ls) = K ++ fr b.length ls (hdn K ls) := by unfold nameK; rw [if_pos hE, show labs (nm ls) = ls from shorts_labs hs, Int.toNat_natCast]
    have e3 : nameE K e b.length (nm ls) = b.length + (told K ls).length := by unfold nameE; rw [if_pos hE, show labs (nm ls) = ls from shorts_labs hs, Int.toNat_natCast]
    have htl := told_le hI.good hs
    have hstep : wrL a ((nm ls, true) :: L) K e acc = wrL a L (K ++ fr b.length ls (hdn K ls)) (b.length + (told K ls).length) (acc ++ told K ls) := by
      rw [wrL, if_pos rfl]
      simp only
      rw [hw, if_neg (by simpa using hE), e1, e2, e3]
    rw [hstep] at h0 ⊢
    obtain ⟨out, K', e', P', h1, h2, h3, h4⟩ := wr_back2 a L (b ++ told K ls) (K ++ fr b.length ls (hdn K ls)) (b.length + (told K ls).length) _ (acc ++ told K ls) (hI.tell hs) (fun y hy => hc y (by simp [hy])) (by rw [List.length_append, List.length_append]; omega) (by rw [List.length_append]; omega) h0
    refine ⟨told K ls ++ out, K', e', P', ?_, ?_, ?_, ?_⟩
    · rw [h1, List.append_assoc]
    · rw [joined_cons, List.length_append, List.length_append]
      show (told K ls).length + out.length ≤ (nm ls).length + _
      omega
    · rw [← List.append_assoc]; exact h3
    · rw [← List.append_assoc]
      rw [List.length_append] at h4
      have hst := toldE_rd hI hs (hdn K ls) 0 (by omega) b.length (Nat.le_refl _)
      rw [pos_zero, Nat.add_zero, List.drop_zero] at hst
      exact .nam hs (hst.more out) (by rw [List.length_append, ← Nat.add_assoc]; exact h4)

theorem write_lies2 {b : List UInt8} {K : KK} {e : Nat} {P : KK} (hI : Inv b K e P) {x : Rc} (hx : chkC x = 0) (hb : b.length ≤ 65535) (h0 : (wrC b.length x K e).code = 0) :
    ∃ out K' e' P' i, wrC b.length x K e = ⟨out, 0, K', e'⟩ ∧ out.length ≤ 265 + x.d.length ∧ Inv (b ++ out) K' e' P' ∧ LiesQ (b ++ out) b.length x i ∧ LiesR (b ++ out) b.length x i (b.length + out.length) := by
  obtain ⟨hak, l0, l1, hsp⟩ := chkC_ok hx
  obtain ⟨hc, t0, t1, c0, c1⟩ := askE_ok hak
  obtain ⟨ls, hs, hn, hE, hB, hI1, hst, hle⟩ := name_lies hI hc (by omega)
  have hn255 := (chk_pos hc).2
  obtain ⟨L, hL⟩ := code_ok hsp
  obtain ⟨_, _, hd, hf, hj⟩ := spl_ok hL
  obtain ⟨T, hT⟩ : ∃ T, told K ls = T := ⟨_, rfl⟩
  rw [hT] at hB hI1 hst hle
  have hl : (b ++ T).length = b.length + T.length := List.length_append
  obtain ⟨K1, hK1⟩ : ∃ K1, nameK K e b.length x.n = K1 := ⟨_, rfl⟩
  obtain ⟨e1, he1⟩ : ∃ e1, nameE K e b.length x.n = e1 := ⟨_, rfl⟩
  rw [hK1, he1] at hI1
  obtain ⟨R, hR⟩ : ∃ R, wrR ((b.length : Int) + T.length + 10) x.t x.d K1 e1 = R := ⟨_, rfl⟩
  have hw : wrC b.length x K e = wrT T x.t x.c x.l R := by
    unfold wrC
    rw [if_neg (by simpa using hx), if_neg (by simpa using hE), hB, hK1, he1, hR]
  obtain ⟨H, hH⟩ : ∃ H, headB x.t x.c x.l R.out.length = H := ⟨_, rfl⟩
  have hHl : H.length = 10 := by rw [← hH]; exact headB_len _ _ _ _
  have h2l : (b ++ T ++ H).length = b.length + T.length + 10 := by rw [List.length_append, hl, hHl]
  have hRL : R = wrL ((b.length + T.length + 10 : Nat) : Int) L K1 e1 [] := by
    rw [← hR]
    unfold wrR
    rw [hL]
    show wrL _ L K1 e1 [] = _
    rw [show ((b.length : Int) + T.length + 10) = ((b.length + T.length + 10 : Nat) : Int) by push_cast; rfl]
  have hR0 : (wrL ((b.length + T.length + 10 : Nat) : Int) L K1 e1 []).code = 0 := by
    rw [hw] at h0
    unfold wrT at h0
    by_cases hc : R.code = 0
    · rw [← hRL]; exact hc
    · rw [if_pos hc] at h0; exact absurd h0 hc
  obtain ⟨out, K', e', P', w1, w2, w3, w4⟩ := wr_back2 (b.length + T.length + 10) L (b ++ T ++ H) K1 e1 _ [] (hI1.more H) (fits_nam hf) (by rw [h2l]; simp) (by rw [h2l, hj]; omega) hR0
  have hRe : R = ⟨out, 0, K', e'⟩ := by rw [hRL, w1]; rfl
  have hRo : R.out = out := by rw [hRe]
  have hRc : R.code = 0 := by rw [hRe]
  rw [hj] at w2
  rw [hRo] at hH
  have hq : out.length ≤ 65535 := by omega
  have eo : b ++ (T ++ (H ++ out)) = b ++ T ++ H ++ out := by simp
  refine ⟨T ++ (H ++ out), K', e', P', b.length + T.length, ?_, ?_, ?_, ?_, ?_⟩
  · rw [hw]; unfold wrT; rw [hRe, if_neg (by simp)]
    simp only [hH]
  · rw [List.length_append, List.length_append, hHl]; omega
  · rw [eo]; exact w3
  · refine ⟨ls, hs, hn, ?_, ?_, ?_, ?_⟩
    · rw [eo]; exact (hst.more H).more out
    · rw [eo, List.length_append, h2l]; omega
    · have h := at2 (b ++ T) (two x.c ++ (four x.l ++ (two (out.length : Int) ++ out))) x.t t0 t1
      rw [hl] at h
      rw [← h, eo, ← hH]
      congr 2
      unfold headB
      simp
    · have h := at2 (b ++ T ++ two x.t) (four x.l ++ (two (out.length : Int) ++ out)) x.c c0 c1
      rw [List.length_append, hl, two_len] at h
      rw [← h, eo, ← hH]
      congr 2
      unfold headB
      simp
  · refine ⟨?_, ?_, out.length, L, ?_, hq, hL, ?_, ?_⟩
    · rw [eo, List.length_append, h2l]; omega
    · have h := at4 (b ++ T ++ two x.t ++ two x.c) (two (out.length : Int) ++ out) x.l l0 (by omega)
      rw [List.length_append, List.length_append, hl, two_len, two_len] at h
      rw [← h, eo, ← hH]
      congr 2
      unfold headB
      simp
    · have h := at2 (b ++ T ++ two x.t ++ two x.c ++ four x.l) out (out.length : Int) (by omega) (by omega)
      rw [List.length_append, List.length_append, List.length_append, hl, two_len, two_len, four_len] at h
      rw [← h, eo, ← hH]
      congr 2
      unfold headB
      simp
    · rw [eo]
      rw [h2l] at w4
      exact w4
    · rw [List.length_append, List.length_append, hHl]; omega

structure Qn where
  n : List UInt8
  t : Int
  c : Int

inductive It where
  | q (x : Qn)
  | r (x : Rc)

def Qn.rc (x : Qn) : Rc := ⟨x.n, x.t, x.c, 0, []⟩

structure Ms where
  id : Int
  fl : Int
  q : List Qn
  an : List Rc
  ns : List Rc
  ar : List Rc

def It.err : It → Int
  | .q x => askE x.n x.t x.c
  | .r x => chkC x

def fst0 : List Int → Int
  | [] => 0
  | e :: l => if e ≠ 0 then e else fst0 l

theorem fst0_zero : ∀ {l : List Int}, fst0 l = 0 → ∀ e ∈ l, e = 0
  | [], _, e, h => by simp at h
  | a :: l, h, e, he => by
    unfold fst0 at h
    split at h
    · rename_i h1; exact absurd h h1
    · rename_i h1
      rcases List.mem_cons.mp he with rfl | he
      · simpa using h1
      · exact fst0_zero h e he
theorem fst0_all : ∀ {l : List Int}, (∀ e ∈ l, e = 0) → fst0 l = 0
  | [], _ => rfl
  | a :: l, h => by
    unfold fst0
    rw [if_neg (by rw [h a (by simp)]; simp)]
    exact fst0_all fun e he => h e (by simp [he])
theorem fst0_app (l l' : List Int) : fst0 (l ++ l') = if fst0 l ≠ 0 then fst0 l else fst0 l' := by
  induction l with
  | nil => simp [fst0]
  | cons a l ih =>
    have e1 : fst0 (a :: (l ++ l')) = if a ≠ 0 then a else fst0 (l ++ l') := by rw [fst0]
    have e2 : fst0 (a :: l) = if a ≠ 0 then a else fst0 l := by rw [fst0]
    rw [List.cons_append, e1, e2, ih]
    by_cases h : a = 0
    · subst h; simp
    · simp [h]

def Ms.its (m : Ms) : List It := m.q.map .q ++ (m.an.map .r ++ (m.ns.map .r ++ m.ar.map .r))

def chkM (m : Ms) : Int :=
  if m.id < 0 ∨ 65535 < m.id ∨ m.fl < 0 ∨ 65535 < m.fl then 5
  else if 65535 < m.q.length ∨ 65535 < m.an.length ∨ 65535 < m.ns.length ∨ 65535 < m.ar.length then 3
  else fst0 (m.its.map It.err)

def headM (m : Ms) : List UInt8 := two m.id ++ (two m.fl ++ (two m.q.length ++ (two m.an.length ++ (two m.ns.length ++ two m.ar.length))))

theorem headM_len (m : Ms) : (headM m).length = 12 := rfl

def wrI (b : List UInt8) (K : KK) (e : Nat) : It → WR
  | .q x => askW b.length x.n x.t x.c K e
  | .r x => wrC b.length x K e

def wrIs : List It → List UInt8 → KK → Nat → Option (List UInt8)
  | [], b, _, _ => some b
  | it :: l, b, K, e => if (wrI b K e it).code ≠ 0 ∨ 65535 < (b ++ (wrI b K e it).out).length then none else wrIs l (b ++ (wrI b K e it).out) (wrI b K e it).K (wrI b K e it).e

def wrM (m : Ms) : Option (List UInt8) × Int :=
  if chkM m ≠ 0 then (none, chkM m) else match wrIs m.its (headM m) [] 0 with | some z => (some z, 0) | none => (none, 3)

def LiesI (b : List UInt8) (p : Nat) : It → Nat → Prop
  | .q x, en => ∃ i, LiesQ b p x.rc i ∧ en = i + 4
  | .r x, en => ∃ i, LiesQ b p x i ∧ LiesR b p x i en

inductive LiesIs (b : List UInt8) : Nat → List It → Nat → Prop
  | nil {p : Nat} : LiesIs b p [] p
  | cons {p q en : Nat} {it : It} {l : List It} (h : LiesI b p it q) (r : LiesIs b q l en) : LiesIs b p (it :: l) en

theorem wrI_lies {b : List UInt8} {K : KK} {e : Nat} {P : KK} (hI : Inv b K e P) {it : It} (hx : it.err = 0) (hb : b.length ≤ 65535) (h0 : (wrI b K e it).code = 0) :
    ∃ P', Inv (b ++ (wrI b K e it).out) (wrI b K e it).K (wrI b K e it).e P' ∧ LiesI (b ++ (wrI b K e it).out) b.length it (b ++ (wrI b K e it).out).length := by
  cases it with
  | q x =>
    obtain ⟨out, K', e', P', i, h1, _, h2, h3, h4, _⟩ := ask_lies hI (x := x.rc) hx hb
    have h1' : wrI b K e (.q x) = ⟨out, 0, K', e'⟩ := h1
    rw [h1']
    exact ⟨P', h2, i, h3, by rw [List.length_append]; exact h4⟩
  | r x =>
    obtain ⟨out, K', e', P', i, h1, _, h2, h3, h4⟩ := write_lies2 hI (x := x) hx hb h0
    have h1' : wrI b K e (.r x) = ⟨out, 0, K', e'⟩ := h1
    rw [h1']
    exact ⟨P', h2, i, h3, by rw [List.length_append]; exact h4⟩

theorem chkM_ok {m : Ms} (h : chkM m = 0) : 0 ≤ m.id ∧ m.id ≤ 65535 ∧ 0 ≤ m.fl ∧ m.fl ≤ 65535 ∧ m.q.length ≤ 65535 ∧ m.an.length ≤ 65535 ∧ m.ns.length ≤ 65535 ∧ m.ar.length ≤ 65535 ∧ ∀ it ∈ m.its, it.err = 0 := by
  unfold chkM at h
  split at h
  · exact absurd h (by decide)
  · split at h
    · exact absurd h (by decide)
    · exact ⟨by omega, by omega, by omega, by omega, by omega, by omega, by omega, by omega, fun it hit => fst0_zero h _ (List.mem_map_of_mem hit)⟩

end Go.Proofs.YteegekpanadmkaaGreat

/-
  Rows of cells in memory: what a slice reads as, and append of it to a row of the call's own.
-/
namespace Go.Proofs.YteegekpanadmkaaGreat
open Go.RowKit Go.Shelf
set_option linter.unusedVariables false
set_option linter.unusedSimpArgs false
set_option maxRecDepth 100000

section
variable {α : Type} {f : α → List Value} {k : Nat}
theorem flat_len (hf : ∀ x, (f x).length = k) (l : List α) : (l.flatMap f).length = l.length * k := by
  induction l with
  | nil => simp
  | cons x r ih => rw [List.flatMap_cons, List.length_append, ih, hf, List.length_cons, Nat.add_mul, Nat.one_mul, Nat.add_comm]
theorem flat_at (hf : ∀ x, (f x).length = k) : ∀ (l : List α) (j : Nat) (h : j < l.length) (i : Nat) (u : Value), (f l[j])[i]? = some u → (l.flatMap f)[j * k + i]? = some u
  | [], j, h, _, _, _ => by simp at h
  | x :: r, 0, h, i, u, hu => by
    have hi : i < k := by have := (List.getElem?_eq_some_iff.mp hu).1; simpa [hf] using this
    rw [List.flatMap_cons, Nat.zero_mul, Nat.zero_add, List.getElem?_append_left (by rw [hf]; exact hi)]
    exact hu
  | x :: r, j + 1, h, i, u, hu => by
    have ih := flat_at hf r j (by simpa using h) i u hu
    rw [List.flatMap_cons, List.getElem?_append_right (by rw [hf, Nat.add_mul]; omega)]
    rw [hf, show (j + 1) * k + i - k = j * k + i by rw [Nat.add_mul]; omega]
    exact ih
theorem flat_one (h1 : ∀ x, ∀ u ∈ f x, u.oneCell' = true) (l : List α) : ∀ u ∈ l.flatMap f, u.oneCell' = true := by
  intro u hu
  obtain ⟨x, _, hx⟩ := List.mem_flatMap.mp hu
  exact h1 x u hx
end

def Lst (w : World) (hi : Nat) (v : Value) (n : Nat) (xs : List Value) : Prop :=
  ∃ a c, v = .slice a n c ∧ n ≤ 140737488351232 ∧ (a = none → n = 0 ∧ c = 0) ∧ (0 < n → ∃ b off, a = some ⟨b, off, none⟩ ∧ b < hi ∧ ∀ i u, xs[i]? = some u → w.cell? ⟨b, off + i, none⟩ = some u)

section
variable {w w' : World} {hi n : Nat} {v : Value} {xs : List Value}
theorem Lst.keep (h : Lst w hi v n xs) (hk : ∀ b o, b < hi → w'.cell? ⟨b, o, none⟩ = w.cell? ⟨b, o, none⟩) : Lst w' hi v n xs := by
  obtain ⟨a, c, rfl, hn, h0, hx⟩ := h
  refine ⟨a, c, rfl, hn, h0, fun hp => ?_⟩
  obtain ⟨b, off, rfl, h1, h2⟩ := hx hp
  exact ⟨b, off, rfl, h1, fun i u hu => (hk b _ h1).trans (h2 i u hu)⟩
theorem Lst.below {B : Nat} (h : Lst w hi v n xs) (hb : Below B w w') (hB : hi ≤ B) : Lst w' hi v n xs :=
  h.keep fun b o h1 => hb.cell (p := ⟨b, o, none⟩) (Nat.lt_of_lt_of_le h1 hB)
theorem Lst.wide {hi' : Nat} (h : Lst w hi v n xs) (hh : hi ≤ hi') : Lst w hi' v n xs := by
  obtain ⟨a, c, rfl, hn, h0, hx⟩ := h
  refine ⟨a, c, rfl, hn, h0, fun hp => ?_⟩
  obtain ⟨b, off, rfl, h1, h2⟩ := hx hp
  exact ⟨b, off, rfl, Nat.lt_of_lt_of_le h1 hh, h2⟩
theorem Lst.shape (h : Lst w hi v n xs) : ∃ a c, v = .slice a n c := by obtain ⟨a, c, rfl, _⟩ := h; exact ⟨a, c, rfl⟩
theorem Lst.len (h : Lst w hi v n xs) : n ≤ 140737488351232 := by obtain ⟨_, _, _, hn, _⟩ := h; exact hn
theorem Lst.nil (w : World) (hi : Nat) : Lst w hi (.slice none 0 0) 0 [] := ⟨none, 0, rfl, by omega, fun _ => ⟨rfl, rfl⟩, fun h => by omega⟩
theorem Lst.own {B k : Nat} {e : TypeId} (h : w.ownsRow B e k v n xs) (hn : n ≤ 1000000) : Lst w w.heap.size v n xs := by
  have hc := fun g hg => World.ownsRow.cells h (g := g) hg
  have hl := fun b hb => (World.ownsRow.lt h b hb).2
  rcases h.2 with ⟨rfl, h0⟩ | ⟨g, cap, cur, rfl, _⟩
  · subst h0
    exact ⟨none, 0, rfl, by omega, fun _ => ⟨rfl, rfl⟩, fun h => by omega⟩
  · refine ⟨_, cap, rfl, by omega, fun h => by simp at h, fun _ => ⟨g, 0, rfl, hl g rfl, fun i u hu => ?_⟩⟩
    have := hc g rfl i u hu
    rwa [WideShapes.add_plain] at this
theorem Lst.part {m c : Nat} {a : Option Addr} {ys : List Value} (h : Lst w hi (.slice a n c) n (ys ++ xs)) (hm : m ≤ n) : Lst w hi (.slice a m c) m ys := by
  obtain ⟨a', c', he, hn, h0, hx⟩ := h
  injection he with e1 e2 e3
  subst e1; subst e3
  refine ⟨_, _, rfl, by omega, fun h => ⟨by have := (h0 h).1; omega, (h0 h).2⟩, fun hp => ?_⟩
  obtain ⟨b, off, h1, h2, h3⟩ := hx (by omega)
  exact ⟨b, off, h1, h2, fun i u hu => h3 i u (by rw [List.getElem?_append_left (List.getElem?_eq_some_iff.mp hu).1]; exact hu)⟩
end

theorem row_more {w : World} {B hi n m k : Nat} {t ty e : TypeId} {i : TypeInfo} {z v u : Value} {xs ys : List Value} (bytes : Nat) (ht : Tryz.prog.underlying t = some (.slice e)) (hti : Tryz.prog.info? e = some i) (hz : i.zero = some z)
    (hsize : i.size = k) (hby : i.bytes = bytes) (hzs : z.cells.size = k) (hk : 0 < k) (hb1 : bytes ≤ 1000)
    (hown : w.ownsRow B e k v n xs) (hx : Lst w hi u m ys) (hl : ys.length = m * k) (h1 : ∀ u ∈ ys, u.oneCell' = true) (hnm : n + m ≤ 1000000) (hB : B ≤ w.heap.size) :
    ∃ a' c' w', (Builtin.append_ #[t, t] ty #[v, u]).run Tryz.prog w = .ok (.slice a' (n + m) c') w' ∧ w'.ownsRow B e k (.slice a' (n + m) c') (n + m) (xs ++ ys) ∧ Aside (fun b => v.ownBlock = some b) w w' ∧
      ((Value.slice a' (n + m) c').ownBlock = v.ownBlock ∨ (Value.slice a' (n + m) c').ownBlock = some w.heap.size) := by
  obtain ⟨a, c, rfl, _, h0, hx⟩ := hx
  cases a with
  | none =>
    obtain ⟨hm0, hc⟩ := h0 rfl
    subst hm0; subst hc
    have hy : ys = [] := by rw [Nat.zero_mul] at hl; exact List.length_eq_zero_iff.mp hl
    subst hy
    have hr := run_append_owned_none (P := Tryz.prog) (w := w) B t ty e i k ht hti v n xs hown
    obtain ⟨a', c', rfl⟩ := row_shape hown
    exact ⟨a', c', w, by rw [Nat.add_zero]; exact hr, by rw [Nat.add_zero, List.append_nil]; exact hown, Aside.refl _ _, .inl rfl⟩
  | some a =>
    have hnews : ∀ j u, ys[j]? = some u → w.cell? (a.add j) = some u := by
      intro j u hu
      have hp : 0 < m := by
        rcases Nat.eq_zero_or_pos m with h | h
        · subst h; rw [Nat.zero_mul] at hl; rw [List.length_eq_zero_iff.mp hl] at hu; simp at hu
        · exact h
      obtain ⟨b, off, h2, _, h3⟩ := hx hp
      injection h2 with h2
      subst h2
      rw [WideShapes.add_plain]
      exact h3 j u hu
    have hbb : (n + m) * bytes ≤ 140737488355328 := Nat.le_trans (Nat.mul_le_mul hnm hb1) (by decide)
    obtain ⟨v', w', r1, r2, r3, _, r5⟩ := run_append_own_at (P := Tryz.prog) (w := w) B t ty e i z k bytes ht hti hz hsize hby hzs hk v n xs hown a m c ys hl hnews h1 (by unfold maxLen; omega) hbb hB
    obtain ⟨a', c', hv⟩ := row_shape r2
    subst hv
    exact ⟨a', c', w', r1, r2, Aside.grown r3 fun _ h => h, r5⟩
end Go.Proofs.YteegekpanadmkaaGreat

/-
  Acts that came in: records, whether they are asked alone, places.
-/
namespace Go.Proofs.YteegekpanadmkaaGreat
open Go.RowKit Go.Shelf
set_option linter.unusedVariables false
set_option linter.unusedSimpArgs false
set_option maxRecDepth 100000

def AtR (w : World) (b o : Nat) (x : Rc) : Prop :=
  w.cell? ⟨b, o, none⟩ = some (.string (bs x.n)) ∧ w.cell? ⟨b, o + 1, none⟩ = some (.int .i64 x.t) ∧ w.cell? ⟨b, o + 2, none⟩ = some (.int .i64 x.c) ∧ w.cell? ⟨b, o + 3, none⟩ = some (.int .i64 x.l) ∧ w.cell? ⟨b, o + 4, none⟩ = some (.string (bs x.d))

theorem AtR.keep {w w' : World} {b o : Nat} {x : Rc} (h : AtR w b o x) (hk : ∀ o, w'.cell? ⟨b, o, none⟩ = w.cell? ⟨b, o, none⟩) : AtR w' b o x :=
  ⟨(hk _).trans h.1, (hk _).trans h.2.1, (hk _).trans h.2.2.1, (hk _).trans h.2.2.2.1, (hk _).trans h.2.2.2.2⟩

structure AR where
  x : Rc
  k : Bool
  r : Bool
  a : Int

theorem cells_rec : Tryz.prog.cellsOf 52 = 5 := by kernel_rfl
theorem cellsC_str : Tryz.prog.cellsOf 9 = 1 := by kernel_rfl
theorem cellsC_int : Tryz.prog.cellsOf 3 = 1 := by kernel_rfl
theorem open_rec {H : Type} {enc : TypeId × Value → H} {w : World} {base fuel : Nat} {spare : Nat → Bool} {held : Bool} {cs : List Value} {x : DataW H × List MemPlace}
    (h : DataW.trod enc Tryz.prog w base spare held fuel 52 cs = some x) (hl : cs.length = 5) : ∃ (s : ByteArray) (t c l : Int) (d : ByteArray), cs = [.string s, .int .i64 t, .int .i64 c, .int .i64 l, .string d] := by
  cases fuel with
  | zero => simp [DataW.trod] at h
  | succ fuel =>
    obtain ⟨xs, k, _, _, _, h9, h10⟩ := DataW.trod_struct Tryz.underlying52 h
    match cs, hl with
    | [v0, v1, v2, v3, v4], _ =>
      have g0 := h10 0 _ rfl
      have g1 := h10 1 _ rfl
      have g2 := h10 2 _ rfl
      have g3 := h10 3 _ rfl
      have g4 := h10 4 _ rfl
      match xs, h9 with
      | [y0, y1, y2, y3, y4], _ =>
        simp [cellsC_str, cellsC_int] at g0 g1 g2 g3 g4
        obtain ⟨s, k0, _, _⟩ := DataW.trod_string Tryz.underlying9 g0
        obtain ⟨t, k1, _, _⟩ := DataW.trod_int Tryz.underlying3 g1
        obtain ⟨c, k2, _, _⟩ := DataW.trod_int Tryz.underlying3 g2
        obtain ⟨l, k3, _, _⟩ := DataW.trod_int Tryz.underlying3 g3
        obtain ⟨d, k4, _, _⟩ := DataW.trod_string Tryz.underlying9 g4
        injection k0 with k0 _
        injection k1 with k1 _
        injection k2 with k2 _
        injection k3 with k3 _
        injection k4 with k4 _
        subst k0; subst k1; subst k2; subst k3; subst k4
        exact ⟨s, t, c, l, d, rfl⟩

end Go.Proofs.YteegekpanadmkaaGreat

/-
  Questions, records, messages in memory; the same ones are told the same.
-/
namespace Go.Proofs.YteegekpanadmkaaGreat
open Go.RowKit Go.Shelf
set_option linter.unusedVariables false
set_option linter.unusedSimpArgs false
set_option maxRecDepth 100000

def cq (x : Qn) : List Value := [.string (bs x.n), .int .i64 x.t, .int .i64 x.c]
def cr (x : Rc) : List Value := [.string (bs x.n), .int .i64 x.t, .int .i64 x.c, .int .i64 x.l, .string (bs x.d)]
def acq (l : List Qn) : List Value := l.flatMap cq
def acr (l : List Rc) : List Value := l.flatMap cr
theorem acq_len (l : List Qn) : (acq l).length = l.length * 3 := flat_len (f := cq) (k := 3) (fun _ => rfl) l
theorem acr_len (l : List Rc) : (acr l).length = l.length * 5 := flat_len (f := cr) (k := 5) (fun _ => rfl) l
theorem acq_app (l m : List Qn) : acq (l ++ m) = acq l ++ acq m := List.flatMap_append
theorem acr_app (l m : List Rc) : acr (l ++ m) = acr l ++ acr m := List.flatMap_append
theorem acq_one (l : List Qn) : ∀ u ∈ acq l, u.oneCell' = true := flat_one (fun x u hu => by
  simp only [cq, List.mem_cons, List.mem_nil_iff, or_false] at hu
  rcases hu with rfl | rfl | rfl <;> rfl) l
theorem acr_one (l : List Rc) : ∀ u ∈ acr l, u.oneCell' = true := flat_one (fun x u hu => by
  simp only [cr, List.mem_cons, List.mem_nil_iff, or_false] at hu
  rcases hu with rfl | rfl | rfl | rfl | rfl <;> rfl) l

def AtQn (w : World) (b o : Nat) (x : Qn) : Prop := w.cell? ⟨b, o, none⟩ = some (.string (bs x.n)) ∧ w.cell? ⟨b, o + 1, none⟩ = some (.int .i64 x.t) ∧ w.cell? ⟨b, o + 2, none⟩ = some (.int .i64 x.c)
theorem AtQn.keep {w w' : World} {b o : Nat} {x : Qn} (h : AtQn w b o x) (hk : ∀ o, w'.cell? ⟨b, o, none⟩ = w.cell? ⟨b, o, none⟩) : AtQn w' b o x := ⟨(hk _).trans h.1, (hk _).trans h.2.1, (hk _).trans h.2.2⟩

def SQ (w : World) (hi : Nat) (v : Value) (l : List Qn) : Prop := Lst w hi v l.length (acq l)
def SR (w : World) (hi : Nat) (v : Value) (l : List Rc) : Prop := Lst w hi v l.length (acr l)
def OwnQn (w : World) (B : Nat) (v : Value) (l : List Qn) : Prop := w.ownsRow B 56 3 v l.length (acq l)
def OwnRc (w : World) (B : Nat) (v : Value) (l : List Rc) : Prop := w.ownsRow B 52 5 v l.length (acr l)

theorem SQ.at_ {w : World} {hi : Nat} {v : Value} {l : List Qn} (h : SQ w hi v l) (j : Nat) (hj : j < l.length) : ∃ b off c, v = .slice (some ⟨b, off, none⟩) l.length c ∧ b < hi ∧ AtQn w b (off + j * 3) l[j] := by
  obtain ⟨a, c, rfl, _, _, hx⟩ := h
  obtain ⟨b, off, rfl, h1, h2⟩ := hx (by omega)
  have e := fun i u hu => h2 _ _ (flat_at (f := cq) (k := 3) (fun _ => rfl) l j hj i u hu)
  simp only [← Nat.add_assoc] at e
  exact ⟨b, off, c, rfl, h1, e 0 _ rfl, e 1 _ rfl, e 2 _ rfl⟩
theorem SR.at_ {w : World} {hi : Nat} {v : Value} {l : List Rc} (h : SR w hi v l) (j : Nat) (hj : j < l.length) : ∃ b off c, v = .slice (some ⟨b, off, none⟩) l.length c ∧ b < hi ∧ AtR w b (off + j * 5) l[j] := by
  obtain ⟨a, c, rfl, _, _, hx⟩ := h
  obtain ⟨b, off, rfl, h1, h2⟩ := hx (by omega)
  have e := fun i u hu => h2 _ _ (flat_at (f := cr) (k := 5) (fun _ => rfl) l j hj i u hu)
  simp only [← Nat.add_assoc] at e
  exact ⟨b, off, c, rfl, h1, e 0 _ rfl, e 1 _ rfl, e 2 _ rfl, e 3 _ rfl, e 4 _ rfl⟩

def Mg (w : World) (hi : Nat) (v : Value) (m : Ms) : Prop := ∃ q a n r, v = .agg #[.int .i64 m.id, .int .i64 m.fl, q, a, n, r] ∧ SQ w hi q m.q ∧ SR w hi a m.an ∧ SR w hi n m.ns ∧ SR w hi r m.ar
theorem Mg.below {w w' : World} {hi B : Nat} {v : Value} {m : Ms} (h : Mg w hi v m) (hb : Below B w w') (hB : hi ≤ B) : Mg w' hi v m := by
  obtain ⟨q, a, n, r, rfl, h1, h2, h3, h4⟩ := h
  exact ⟨q, a, n, r, rfl, Lst.below h1 hb hB, Lst.below h2 hb hB, Lst.below h3 hb hB, Lst.below h4 hb hB⟩
theorem Mg.wide {w : World} {hi hi' : Nat} {v : Value} {m : Ms} (h : Mg w hi v m) (hh : hi ≤ hi') : Mg w hi' v m := by
  obtain ⟨q, a, n, r, rfl, h1, h2, h3, h4⟩ := h
  exact ⟨q, a, n, r, rfl, Lst.wide h1 hh, Lst.wide h2 hh, Lst.wide h3 hh, Lst.wide h4 hh⟩
theorem Mg.later {w w' : World} {v : Value} {m : Ms} (h : Mg w w.heap.size v m) (hb : Below w.heap.size w w') : Mg w' w'.heap.size v m := (h.below hb (Nat.le_refl _)).wide hb.size

theorem neqQ (x : Qn) (w : World) : (binOp .neq 56 (.agg #[.string (bs x.n), .int .i64 x.t, .int .i64 x.c]) (.agg #[.string (bs x.n), .int .i64 x.t, .int .i64 x.c])).run Tryz.prog w = .ok (.bool false) w := by
  have hS : Tryz.prog.underlying 56 = some (.struct (Tryz.prog.fieldsOf 56)) := by kernel_rfl
  have hI : Tryz.prog.stoodInHeld 56 = false := by kernel_rfl
  have u3 := Tryz.underlying3
  have u9 := Tryz.underlying9
  have a3 := Tryz.isAgg3
  have z3 := Tryz.sizeOf3
  have a9 := Tryz.isAgg9
  have z9 := Tryz.sizeOf9
  rw [run_neq_struct, run_equalIn_agg _ _ _ _ _ hS hI]
  simp only [Program.fieldsOf, Tryz.underlying56]
  go_simp
theorem neqR (x : Rc) (w : World) : (binOp .neq 52 (.agg #[.string (bs x.n), .int .i64 x.t, .int .i64 x.c, .int .i64 x.l, .string (bs x.d)]) (.agg #[.string (bs x.n), .int .i64 x.t, .int .i64 x.c, .int .i64 x.l, .string (bs x.d)])).run Tryz.prog w = .ok (.bool false) w := by
  have hS : Tryz.prog.underlying 52 = some (.struct (Tryz.prog.fieldsOf 52)) := by kernel_rfl
  have hI : Tryz.prog.stoodInHeld 52 = false := by kernel_rfl
  have u3 := Tryz.underlying3
  have u9 := Tryz.underlying9
  have a3 := Tryz.isAgg3
  have z3 := Tryz.sizeOf3
  have a9 := Tryz.isAgg9
  have z9 := Tryz.sizeOf9
  rw [run_neq_struct, run_equalIn_agg _ _ _ _ _ hS hI]
  simp only [Program.fieldsOf, Tryz.underlying52]
  go_simp
end Go.Proofs.YteegekpanadmkaaGreat

/-
  What a message says besides, plainly: options as bytes and back, what is told of a message, what is put into it, what is left of it.
-/
namespace Go.Proofs.YteegekpanadmkaaGreat
open Go.RowKit Go.Shelf
set_option linter.unusedVariables false
set_option linter.unusedSimpArgs false
set_option maxRecDepth 100000

structure Ot where
  c : Int
  d : List UInt8
structure Ed where
  s : Int
  x : Int
  v : Int
  b : Bool
  o : List Ot
/-! ### options as bytes, and back -/

def b2 (n : Int) : List UInt8 := [UInt8.ofNat (n / 256).toNat, UInt8.ofNat (n % 256).toNat]
def n2 (b : List UInt8) (p : Nat) : Nat := (b.getD p 0).toNat * 256 + (b.getD (p + 1) 0).toNat
inductive OtR where
  | ok (x : Ot) (q : Nat)
  | bad (a : Nat)
/-! ### records -/

def isO (x : Rc) : Bool := decide (x.t = 41)
def noL (l : List Rc) : List Rc := l.filter fun x => !isO x
def stM (m : Ms) : Ms := ⟨m.id, m.fl, m.q, noL m.an, noL m.ns, noL m.ar⟩
/-! ### in memory -/

def co (x : Ot) : List Value := [.int .i64 x.c, .string (bs x.d)]
end Go.Proofs.YteegekpanadmkaaGreat

/-
  A message with so many entries left out, plainly; by places, and one by one.
-/
namespace Go.Proofs.YteegekpanadmkaaGreat
open Go.RowKit Go.Shelf
set_option linter.unusedVariables false
set_option linter.unusedSimpArgs false
set_option maxRecDepth 100000

section
variable {α : Type}
def kept (f : α → List α → Bool) : List α → List α
  | [] => []
  | x :: l => if f x l then kept f l else x :: kept f l
def selL (out : Nat → Bool) : Nat → List α → List α
  | _, [] => []
  | s, x :: l => if out s then selL out (s + 1) l else x :: selL out (s + 1) l
theorem selL_kept {f : α → List α → Bool} {out : Nat → Bool} : ∀ {l : List α} {s : Nat}, (∀ j (h : j < l.length), out (s + j) = f l[j] (l.drop (j + 1))) → selL out s l = kept f l
  | [], s, _ => rfl
  | x :: l, s, h => by
    have h0 := h 0 (by simp)
    rw [Nat.add_zero] at h0
    have ih : selL out (s + 1) l = kept f l := selL_kept (s := s + 1) fun j hj => by
      have := h (j + 1) (by simpa using hj)
      rw [Nat.add_assoc, Nat.add_comm 1 j]
      exact this
    unfold selL kept
    rw [h0, ih]
    rfl
theorem kept_congr {f g : α → List α → Bool} : ∀ {l : List α}, (∀ j (h : j < l.length), f l[j] (l.drop (j + 1)) = g l[j] (l.drop (j + 1))) → kept f l = kept g l
  | [], _ => rfl
  | x :: l, h => by
    have h0 : f x l = g x l := h 0 (by simp)
    have ih : kept f l = kept g l := kept_congr fun j hj => h (j + 1) (by simpa using hj)
    unfold kept
    rw [h0, ih]
theorem kept_take (s n : Nat) : ∀ (l : List α), kept (fun _ t => decide (s + t.length < n)) l = l.take (l.length - (n - s))
  | [] => by simp [kept]
  | x :: l => by
    unfold kept
    rw [kept_take s n l]
    by_cases h : s + l.length < n
    · rw [if_pos (by simpa using h), List.length_cons, show l.length + 1 - (n - s) = 0 by omega, show l.length - (n - s) = 0 by omega, List.take_zero, List.take_zero]
    · rw [if_neg (by simpa using h), List.length_cons, show l.length + 1 - (n - s) = (l.length - (n - s)) + 1 by omega, List.take_succ_cons]
def lop (p : α → Bool) (k : Nat) (l : List α) : List α := kept (fun x t => p x && decide (t.countP p < k)) l
theorem lop_cons (p : α → Bool) (k : Nat) (x : α) (l : List α) : lop p k (x :: l) = if p x = true ∧ l.countP p < k then lop p k l else x :: lop p k l := by
  unfold lop
  rw [kept]
  by_cases h : p x = true ∧ l.countP p < k
  · rw [if_pos h, if_pos (by simp [h])]
  · rw [if_neg h, if_neg (by simpa using h)]
theorem lop_nil (p : α → Bool) (k : Nat) : lop p k [] = [] := rfl
theorem lop_zero (p : α → Bool) : ∀ (l : List α), lop p 0 l = l
  | [] => rfl
  | x :: l => by rw [lop_cons, if_neg (by omega), lop_zero p l]
theorem lop_count (p : α → Bool) (k : Nat) : ∀ (l : List α), (lop p k l).countP p = l.countP p - k
  | [] => by simp [lop_nil]
  | x :: l => by
    rw [lop_cons]
    by_cases h : p x = true
    · by_cases h2 : l.countP p < k
      · rw [if_pos ⟨h, h2⟩, lop_count p k l, List.countP_cons, if_pos h]; omega
      · rw [if_neg (by omega), List.countP_cons, List.countP_cons, if_pos h, lop_count p k l]; omega
    · rw [if_neg (by simp [h]), List.countP_cons, List.countP_cons, if_neg h, lop_count p k l, Nat.add_zero, Nat.add_zero]
theorem lop_filter (p : α → Bool) (k : Nat) : ∀ (l : List α), (lop p k l).filter p = (l.filter p).take (l.countP p - k)
  | [] => by simp [lop_nil]
  | x :: l => by
    rw [lop_cons]
    by_cases h : p x = true
    · by_cases h2 : l.countP p < k
      · rw [if_pos ⟨h, h2⟩, lop_filter p k l, List.countP_cons, if_pos h, show l.countP p + 1 - k = 0 by omega, show l.countP p - k = 0 by omega, List.take_zero, List.take_zero]
      · rw [if_neg (by omega), List.filter_cons_of_pos h, List.filter_cons_of_pos h, List.countP_cons, if_pos h, lop_filter p k l, show l.countP p + 1 - k = (l.countP p - k) + 1 by omega, List.take_succ_cons]
    · rw [if_neg (by simp [h]), List.filter_cons_of_neg h, List.filter_cons_of_neg h, List.countP_cons, if_neg h, lop_filter p k l, Nat.add_zero]
theorem lop_other (p : α → Bool) (k : Nat) : ∀ (l : List α), (lop p k l).filter (fun x => !p x) = l.filter (fun x => !p x)
  | [] => rfl
  | x :: l => by
    rw [lop_cons]
    by_cases h : p x = true
    · rw [List.filter_cons_of_neg (by simp [h])]
      by_cases h2 : l.countP p < k
      · rw [if_pos ⟨h, h2⟩, lop_other p k l]
      · rw [if_neg (by omega), List.filter_cons_of_neg (by simp [h]), lop_other p k l]
    · rw [if_neg (by simp [h]), List.filter_cons_of_pos (by simp [h]), List.filter_cons_of_pos (by simp [h]), lop_other p k l]
theorem lop_all (p : α → Bool) (k : Nat) (l : List α) (h : l.countP p ≤ k) : lop p k l = l.filter (fun x => !p x) := by
  have h0 : (lop p k l).filter (fun x => !p x) = lop p k l := by
    rw [List.filter_eq_self]
    intro x hx
    have hc : (lop p k l).countP p = 0 := by rw [lop_count]; omega
    have := List.countP_eq_zero.mp hc x hx
    simpa using this
  rw [← h0, lop_other]
theorem lop_one (p : α → Bool) (k : Nat) : ∀ (l : List α), lop p 1 (lop p k l) = lop p (k + 1) l
  | [] => rfl
  | x :: l => by
    have ih := lop_one p k l
    have hc := lop_count p k l
    rw [lop_cons p k, lop_cons p (k + 1)]
    by_cases h : p x = true
    · by_cases h2 : l.countP p < k
      · rw [if_pos ⟨h, h2⟩, if_pos ⟨h, by omega⟩, ih]
      · rw [if_neg (by omega), lop_cons]
        by_cases h3 : l.countP p < k + 1
        · rw [if_pos ⟨h, by omega⟩, if_pos ⟨h, h3⟩, ih]
        · rw [if_neg (by omega), if_neg (by omega), ih]
    · rw [if_neg (by simp [h]), if_neg (by simp [h]), lop_cons, if_neg (by simp [h]), ih]
theorem lop_at (p : α → Bool) : ∀ (l : List α) (i : Nat) (hi : i < l.length), p l[i] = true → (l.drop (i + 1)).countP p = 0 → lop p 1 l = l.take i ++ l.drop (i + 1)
  | x :: l, 0, _, hp, h0 => by
    have h0 : l.countP p = 0 := h0
    have hp : p x = true := hp
    rw [lop_cons, if_pos ⟨hp, by omega⟩, lop_all p 1 l (by omega), List.filter_eq_self.mpr]
    · rfl
    · intro y hy
      have := List.countP_eq_zero.mp h0 y hy
      simpa using this
  | x :: l, i + 1, hi, hp, h0 => by
    have hi' : i < l.length := by simpa using hi
    have h0' : (l.drop (i + 1)).countP p = 0 := h0
    have hp' : p l[i] = true := hp
    have h1 : 0 < l.countP p := List.countP_pos_iff.mpr ⟨l[i], List.getElem_mem hi', hp'⟩
    rw [lop_cons, if_neg (by omega), lop_at p l i hi' hp' h0']
    rfl
  | [], i, hi, _, _ => by simp at hi
theorem lop_mem (p : α → Bool) (k : Nat) : ∀ (l : List α) {x : α}, x ∈ lop p k l → x ∈ l
  | [], x, h => by simp [lop_nil] at h
  | y :: l, x, h => by
    rw [lop_cons] at h
    split at h
    · exact List.mem_cons_of_mem _ (lop_mem p k l h)
    · rcases List.mem_cons.mp h with rfl | h
      · simp
      · exact List.mem_cons_of_mem _ (lop_mem p k l h)
end

/-! ### entries -/

structure En where
  k : Int
  q : Qn
  x : Rc
def q0 : Qn := ⟨[], 0, 0⟩
def x0 : Rc := ⟨[], 0, 0, 0, []⟩
def nO (x : Rc) : Bool := !isO x
def arK (x : Rc) : Int := if isO x then 3 else 0
def enQ (q : Qn) : En := ⟨4, q, x0⟩
def enR (k : Int) (x : Rc) : En := ⟨k, q0, x⟩
def enA (x : Rc) : En := enR (arK x) x
def ents (m : Ms) : List En := m.q.map enQ ++ (m.an.map (enR 2) ++ (m.ns.map (enR 1) ++ m.ar.map enA))
theorem ents_len (m : Ms) : (ents m).length = m.q.length + m.an.length + m.ns.length + m.ar.length := by unfold ents; simp; omega
def kOf (E : List En) (i : Nat) : Int := (E.map En.k).getD i 0
theorem kOf_at {E : List En} {i : Nat} (h : i < E.length) : kOf E i = E[i].k := by unfold kOf; simp [h]
def putEn (m : Ms) (e : En) : Ms :=
  if e.k = 4 then { m with q := m.q ++ [e.q] } else if e.k = 2 then { m with an := m.an ++ [e.x] } else if e.k = 1 then { m with ns := m.ns ++ [e.x] } else { m with ar := m.ar ++ [e.x] }
def gath (out : Nat → Bool) : Nat → List En → Ms → Ms
  | _, [], m => m
  | s, e :: l, m => gath out (s + 1) l (if out s then m else putEn m e)
theorem gath_app (out : Nat → Bool) : ∀ (E F : List En) (s : Nat) (m : Ms), gath out s (E ++ F) m = gath out (s + E.length) F (gath out s E m)
  | [], F, s, m => rfl
  | e :: E, F, s, m => by
    show gath out (s + 1) (E ++ F) _ = gath out (s + (E.length + 1)) F (gath out (s + 1) E _)
    rw [gath_app out E F (s + 1), show s + 1 + E.length = s + (E.length + 1) by omega]
theorem gath_more (out : Nat → Bool) (E : List En) (i : Nat) (hi : i < E.length) (m : Ms) : gath out 0 (E.take (i + 1)) m = if out i then gath out 0 (E.take i) m else putEn (gath out 0 (E.take i) m) E[i] := by
  rw [List.take_succ_eq_append_getElem hi, gath_app, List.length_take, Nat.min_eq_left (by omega), Nat.zero_add]
  rfl
theorem gath_q (out : Nat → Bool) : ∀ (l : List Qn) (s : Nat) (m : Ms), gath out s (l.map enQ) m = { m with q := m.q ++ selL out s l }
  | [], s, m => by simp [gath, selL]
  | x :: l, s, m => by
    rw [List.map_cons, gath, gath_q out l, selL]
    cases out s <;> simp [putEn, enQ]
theorem gath_an (out : Nat → Bool) : ∀ (l : List Rc) (s : Nat) (m : Ms), gath out s (l.map (enR 2)) m = { m with an := m.an ++ selL out s l }
  | [], s, m => by simp [gath, selL]
  | x :: l, s, m => by
    rw [List.map_cons, gath, gath_an out l, selL]
    cases out s <;> simp [putEn, enR]
theorem gath_ns (out : Nat → Bool) : ∀ (l : List Rc) (s : Nat) (m : Ms), gath out s (l.map (enR 1)) m = { m with ns := m.ns ++ selL out s l }
  | [], s, m => by simp [gath, selL]
  | x :: l, s, m => by
    rw [List.map_cons, gath, gath_ns out l, selL]
    cases out s <;> simp [putEn, enR]
theorem gath_ar (out : Nat → Bool) : ∀ (l : List Rc) (s : Nat) (m : Ms), gath out s (l.map enA) m = { m with ar := m.ar ++ selL out s l }
  | [], s, m => by simp [gath, selL]
  | x :: l, s, m => by
    have hk : (enA x).k = 3 ∨ (enA x).k = 0 := by unfold enA enR arK; split <;> simp
    have hp : putEn m (enA x) = { m with ar := m.ar ++ [x] } := by
      unfold putEn
      rw [if_neg (by omega), if_neg (by omega), if_neg (by omega)]
      rfl
    rw [List.map_cons, gath, gath_ar out l, selL]
    cases out s <;> simp [hp]
theorem gath_tot (out : Nat → Bool) : ∀ (E : List En) (s : Nat) (m : Ms), (gath out s E m).q.length + (gath out s E m).an.length + (gath out s E m).ns.length + (gath out s E m).ar.length ≤ m.q.length + m.an.length + m.ns.length + m.ar.length + E.length
  | [], s, m => by simp [gath]
  | e :: E, s, m => by
    have h1 : ∀ e, (putEn m e).q.length + (putEn m e).an.length + (putEn m e).ns.length + (putEn m e).ar.length = m.q.length + m.an.length + m.ns.length + m.ar.length + 1 := fun e => by
      unfold putEn
      split
      · simp; omega
      · split
        · simp; omega
        · split <;> simp <;> omega
    have ih := gath_tot out E (s + 1) (if out s then m else putEn m e)
    rw [gath, List.length_cons]
    have h2 := h1 e
    by_cases hs : out s = true
    · rw [if_pos hs] at ih ⊢; omega
    · rw [if_neg hs] at ih ⊢; omega
theorem gath_ents (out : Nat → Bool) (m : Ms) (f : Int) : gath out 0 (ents m) ⟨m.id, f, [], [], [], []⟩ =
    ⟨m.id, f, selL out 0 m.q, selL out m.q.length m.an, selL out (m.q.length + m.an.length) m.ns, selL out (m.q.length + m.an.length + m.ns.length) m.ar⟩ := by
  unfold ents
  rw [gath_app, gath_app, gath_app, gath_q, gath_an, gath_ns, gath_ar]
  simp

/-! ### which are left out -/

def nA (m : Ms) : Nat := m.ar.countP nO
def nD (m : Ms) : Nat := m.ar.countP isO
theorem nA_nD (m : Ms) : nA m + nD m = m.ar.length := by
  unfold nA nD
  have := List.length_eq_countP_add_countP isO (l := m.ar)
  have e : m.ar.countP nO = m.ar.countP (fun a => ¬ isO a) := by congr 1; funext x; unfold nO; cases isO x <;> rfl
  rw [e]; omega
def tcG (f : Int) : Int := bits .or .i64 f 512
theorem tcG_nat {f : Int} (h0 : 0 ≤ f) (h1 : f ≤ 65535) : tcG f = ((f.toNat ||| 512 : Nat) : Int) ∧ 0 ≤ tcG f ∧ tcG f ≤ 65535 := by
  have e1 : (BitVec.ofInt 64 f).toNat = f.toNat := by rw [BitVec.toNat_ofInt]; omega
  have e2 : (BitVec.ofInt 64 512).toNat = 512 := by decide
  have hl : f.toNat ||| 512 < 2 ^ 16 := Nat.or_lt_two_pow (by omega) (by decide)
  have h : tcG f = ((f.toNat ||| 512 : Nat) : Int) := by
    show IntKind.i64.wrap ((BitVec.ofInt 64 f ||| BitVec.ofInt 64 512).toNat : Nat) = _
    rw [BitVec.toNat_or, e1, e2, IntKind.wrap_i64]
    omega
  exact ⟨h, by omega, by omega⟩
theorem tcG_twice {f : Int} (h0 : 0 ≤ f) (h1 : f ≤ 65535) : tcG (tcG f) = tcG f := by
  obtain ⟨e, l0, l1⟩ := tcG_nat h0 h1
  obtain ⟨e2, _, _⟩ := tcG_nat l0 l1
  rw [e2, e]
  have : (((f.toNat ||| 512 : Nat) : Int)).toNat = f.toNat ||| 512 := by omega
  rw [this, Nat.or_assoc, Nat.or_self]
def mcut (m : Ms) (n : Nat) : Ms :=
  ⟨m.id, if (nA m < n ∧ 0 < m.ns.length) ∨ (nA m + m.ns.length < n ∧ 0 < m.an.length) ∨ (nA m + m.ns.length + m.an.length + nD m < n ∧ 0 < m.q.length) then tcG m.fl else m.fl,
    m.q.take (m.q.length - (n - (nA m + m.ns.length + m.an.length + nD m))), m.an.take (m.an.length - (n - (nA m + m.ns.length))), m.ns.take (m.ns.length - (n - nA m)),
    (lop nO n m.ar).take ((lop nO n m.ar).length - (n - (nA m + m.ns.length + m.an.length)))⟩
end Go.Proofs.YteegekpanadmkaaGreat

/-
  How two entries are compared, by their kinds.
-/
namespace Go.Proofs.YteegekpanadmkaaGreat
open Go.RowKit Go.Shelf
set_option linter.unusedVariables false
set_option linter.unusedSimpArgs false
set_option maxRecDepth 100000

def cmpV (a b : Int) : Int := if a < b then -1 else if b < a then 1 else 0
theorem cmpV_neg (a b : Int) : cmpV a b < 0 ↔ a < b := by
  unfold cmpV
  split
  · omega
  · split <;> omega

set_option maxHeartbeats 400000 in
theorem nanI_any (w : World) (a : Int) : Calls Tryz.prog 71 #[.int .i64 a] w fun e w' => e = .returned (.bool false) ∧ w' = w := by
  go_enter Tryz.func71, Tryz.ntmps71
  go_wp2
  go_ret
  exact ⟨rfl, rfl⟩

set_option maxHeartbeats 400000 in
theorem cmp_any (w : World) (a b : Int) : Calls Tryz.prog 42 #[.int .i64 a, .int .i64 b] w fun e w' => e = .returned (.int .i64 (cmpV a b)) ∧ w' = w := by
  rcases Int.lt_trichotomy a b with h | h | h
  · rw [show cmpV a b = -1 by unfold cmpV; rw [if_pos h]]
    go_enter Tryz.func42, Tryz.ntmps42
    go_wp2_with (go_at_call 71; refine (nanI_any _ _).mono ?_; rintro e w1 ⟨rfl, rfl⟩)
    go_ret
    exact ⟨rfl, rfl⟩
  · rw [show cmpV a b = 0 by unfold cmpV; rw [if_neg (by omega), if_neg (by omega)]]
    subst h
    go_enter Tryz.func42, Tryz.ntmps42
    go_wp2_with (go_at_call 71; refine (nanI_any _ _).mono ?_; rintro e w1 ⟨rfl, rfl⟩)
    go_ret
    exact ⟨rfl, rfl⟩
  · rw [show cmpV a b = 1 by unfold cmpV; rw [if_neg (by omega), if_pos h]]
    have h2 : ¬ a < b := by omega
    go_enter Tryz.func42, Tryz.ntmps42
    go_wp2_with (go_at_call 71; refine (nanI_any _ _).mono ?_; rintro e w1 ⟨rfl, rfl⟩)
    go_ret
    exact ⟨rfl, rfl⟩

def Kn (w : World) (b N : Nat) (κ : Nat → Int) : Prop := ∀ i, i < N → w.cell? ⟨b, i * 10, none⟩ = some (.int .i64 (κ i))
theorem Kn.aside {G : Nat → Prop} {w w' : World} {b N : Nat} {κ : Nat → Int} (h : Kn w b N κ) (ha : Aside G w w') (hG : ¬ G b) : Kn w' b N κ := fun i hi => ha.cell_lt (h i hi) hG

set_option maxHeartbeats 400000 in
theorem less_any {w : World} {b N : Nat} {κ : Nat → Int} (h : Kn w b N κ) (i j : Nat) (hi : i < N) (hj : j < N) :
    Calls Tryz.prog 59 #[pe b i, pe b j] w fun e w' => e = .returned (.int .i64 (cmpV (κ i) (κ j))) ∧ ∃ q, w' = w.drewN q := by
  have c1 := h i hi
  have c2 := h j hj
  obtain ⟨a1, ha1⟩ : ∃ k, i * 10 = k := ⟨_, rfl⟩
  obtain ⟨a2, ha2⟩ : ∃ k, j * 10 = k := ⟨_, rfl⟩
  obtain ⟨k1, hk1⟩ : ∃ k, κ i = k := ⟨_, rfl⟩
  obtain ⟨k2, hk2⟩ : ∃ k, κ j = k := ⟨_, rfl⟩
  unfold pe
  rw [ha1, hk1] at c1
  rw [ha2, hk2] at c2
  rw [ha1, ha2, hk1, hk2]
  clear ha1 ha2 hk1 hk2 h
  obtain ⟨r, hr⟩ : ∃ r, cmpV k1 k2 = r := ⟨_, rfl⟩
  have hc : ∀ wx, Calls Tryz.prog 42 #[.int .i64 k1, .int .i64 k2] wx fun e w' => e = .returned (.int .i64 r) ∧ w' = wx := fun wx => by rw [← hr]; exact cmp_any wx k1 k2
  rw [hr]
  clear hr
  go_enter Tryz.func59, Tryz.ntmps59
  go_wp2
  go_quiet ((go_at_call 42; exact Calls.quiet_of_same (hc _)))
  go_wp2
  go_ret
  exact ⟨rfl, nq, rfl⟩
end Go.Proofs.YteegekpanadmkaaGreat

/-
  Two readings of the same message are told the same.
-/
namespace Go.Proofs.YteegekpanadmkaaGreat
open Go.RowKit Go.Shelf
set_option linter.unusedVariables false
set_option linter.unusedSimpArgs false
set_option maxRecDepth 100000

set_option maxHeartbeats 1000000 in
theorem sameQ_yes {w : World} {hi hi' : Nat} {u v : Value} {l : List Qn} (h : SQ w hi u l) (h' : SQ w hi' v l) (h1 : hi ≤ w.heap.size) (h2 : hi' ≤ w.heap.size) :
    Calls Tryz.prog 23 #[u, v] w (Tells w (.bool true)) := by
  have HN := Lib.hid (Lst.len h)
  have HS := Lib.hid h
  have HS' := Lib.hid h'
  obtain ⟨a, c, rfl⟩ := Lst.shape h
  obtain ⟨a', c', rfl⟩ := Lst.shape h'
  have HB0 := Lib.hid (Below.refl w.heap.size w)
  clear h h'
  go_enter Tryz.func23, Tryz.ntmps23
  go_wp2
  go_loopg [5] l.length (fun g v5 wr => ∃ k : Nat, k + g = l.length ∧ v5 = .int .i64 k ∧ Hid (Below w.heap.size w wr))
  case atStart => exact ⟨0, by omega, rfl, HB0⟩
  case round =>
    clear HB0
    obtain ⟨k, hk, rfl, HB⟩ := hrel
    have hlen := HN.out
    by_cases hlt : k < l.length
    · obtain ⟨b, off, c2, he, hb, hc⟩ := HS.out.at_ k hlt
      obtain ⟨b', off', c2', he', hb', hc'⟩ := HS'.out.at_ k hlt
      injection he with he hn3 hc3
      injection he' with he' hn3' hc3'
      clear hn3 hc3 hn3' hc3'
      subst he; subst he'
      obtain ⟨c0, c1, c2⟩ := hc.keep fun o => HB.out.cell (p := ⟨b, o, none⟩) (Nat.lt_of_lt_of_le hb h1)
      obtain ⟨d0, d1, d2⟩ := hc'.keep fun o => HB.out.cell (p := ⟨b', o, none⟩) (Nat.lt_of_lt_of_le hb' h2)
      have HE := fun wx => neqQ l[k] wx
      obtain ⟨x, hx⟩ : ∃ x, l[k] = x := ⟨_, rfl⟩
      rw [hx] at c0 c1 c2 d0 d1 d2 HE
      have HB2 := Lib.hid (fun n => below_drewN HB.out n)
      clear hc hc' hx HB
      go_wp2_with fail
      go_quiet (fail)
      go_wp2_with fail
      go_roundg (l.length - (k + 1))
      case measure => omega
      case rel => exact ⟨k + 1, by omega, by go_num, HB2.out _⟩
    · have t1 : ¬ ((k : Int) < l.length) := by omega
      go_wp2_with fail
      go_ret
      exact ⟨rfl, HB.out⟩
set_option maxHeartbeats 1000000 in
theorem sameR_yes {w : World} {hi hi' : Nat} {u v : Value} {l : List Rc} (h : SR w hi u l) (h' : SR w hi' v l) (h1 : hi ≤ w.heap.size) (h2 : hi' ≤ w.heap.size) :
    Calls Tryz.prog 49 #[u, v] w (Tells w (.bool true)) := by
  have HN := Lib.hid (Lst.len h)
  have HS := Lib.hid h
  have HS' := Lib.hid h'
  obtain ⟨a, c, rfl⟩ := Lst.shape h
  obtain ⟨a', c', rfl⟩ := Lst.shape h'
  have HB0 := Lib.hid (Below.refl w.heap.size w)
  clear h h'
  go_enter Tryz.func49, Tryz.ntmps49
  go_wp2
  go_loopg [5] l.length (fun g v5 wr => ∃ k : Nat, k + g = l.length ∧ v5 = .int .i64 k ∧ Hid (Below w.heap.size w wr))
  case atStart => exact ⟨0, by omega, rfl, HB0⟩
  case round =>
    clear HB0
    obtain ⟨k, hk, rfl, HB⟩ := hrel
    have hlen := HN.out
    by_cases hlt : k < l.length
    · obtain ⟨b, off, c9, he, hb, hc⟩ := HS.out.at_ k hlt
      obtain ⟨b', off', c9', he', hb', hc'⟩ := HS'.out.at_ k hlt
      injection he with he hn3 hc3
      injection he' with he' hn3' hc3'
      clear hn3 hc3 hn3' hc3'
      subst he; subst he'
      obtain ⟨c0, c1, c2, c3, c4⟩ := hc.keep fun o => HB.out.cell (p := ⟨b, o, none⟩) (Nat.lt_of_lt_of_le hb h1)
      obtain ⟨d0, d1, d2, d3, d4⟩ := hc'.keep fun o => HB.out.cell (p := ⟨b', o, none⟩) (Nat.lt_of_lt_of_le hb' h2)
      have HE := fun wx => neqR l[k] wx
      obtain ⟨x, hx⟩ : ∃ x, l[k] = x := ⟨_, rfl⟩
      rw [hx] at c0 c1 c2 c3 c4 d0 d1 d2 d3 d4 HE
      have HB2 := Lib.hid (fun n => below_drewN HB.out n)
      clear hc hc' hx HB
      go_wp2_with fail
      go_quiet (fail)
      go_wp2_with fail
      go_roundg (l.length - (k + 1))
      case measure => omega
      case rel => exact ⟨k + 1, by omega, by go_num, HB2.out _⟩
    · have t1 : ¬ ((k : Int) < l.length) := by omega
      go_wp2_with fail
      go_ret
      exact ⟨rfl, HB.out⟩

theorem cel_new6 (w : World) (a b c d e f : Value) (T : TypeId) : Cel (w.alloc (.cells #[a, b, c, d, e, f] T)) w.heap.size [a, b, c, d, e, f] := ⟨fun j hj => by
    match j, hj with
    | 0, _ => simp [go_sem]
    | 1, _ => simp [go_sem]
    | 2, _ => simp [go_sem]
    | 3, _ => simp [go_sem]
    | 4, _ => simp [go_sem]
    | 5, _ => simp [go_sem], fun j => by simp [go_sem]⟩
theorem Cel.six {w : World} {q : Nat} {a b c d e f : Value} (h : Cel w q [a, b, c, d, e, f]) : w.cell? ⟨q, 0, none⟩ = some a ∧ w.cell? ⟨q, 1, none⟩ = some b ∧ w.cell? ⟨q, 2, none⟩ = some c ∧ w.cell? ⟨q, 3, none⟩ = some d ∧ w.cell? ⟨q, 4, none⟩ = some e ∧ w.cell? ⟨q, 5, none⟩ = some f :=
  ⟨h.c 0 (by simp), h.c 1 (by simp), h.c 2 (by simp), h.c 3 (by simp), h.c 4 (by simp), h.c 5 (by simp)⟩

set_option maxHeartbeats 4000000 in
theorem sameM_yes {w : World} {hi hi' : Nat} {u v : Value} {m : Ms} (h : Mg w hi u m) (h' : Mg w hi' v m) (h1 : hi ≤ w.heap.size) (h2 : hi' ≤ w.heap.size) :
    Calls Tryz.prog 43 #[u, v] w (Tells w (.bool true)) := by
  obtain ⟨q, a, n, r, rfl, k1, k2, k3, k4⟩ := h
  obtain ⟨q', a', n', r', rfl, k1', k2', k3', k4'⟩ := h'
  have HQ := Lib.hid (fun wx (hb : Below w.heap.size w wx) => sameQ_yes (Lst.below k1 hb h1) (Lst.below k1' hb h2) (Nat.le_trans h1 hb.size) (Nat.le_trans h2 hb.size))
  have HA := Lib.hid (fun wx (hb : Below w.heap.size w wx) => sameR_yes (Lst.below k2 hb h1) (Lst.below k2' hb h2) (Nat.le_trans h1 hb.size) (Nat.le_trans h2 hb.size))
  have HN := Lib.hid (fun wx (hb : Below w.heap.size w wx) => sameR_yes (Lst.below k3 hb h1) (Lst.below k3' hb h2) (Nat.le_trans h1 hb.size) (Nat.le_trans h2 hb.size))
  have HR := Lib.hid (fun wx (hb : Below w.heap.size w wx) => sameR_yes (Lst.below k4 hb h1) (Lst.below k4' hb h2) (Nat.le_trans h1 hb.size) (Nat.le_trans h2 hb.size))
  obtain ⟨i0, hi0⟩ : ∃ i, m.id = i := ⟨_, rfl⟩
  obtain ⟨i1, hi1⟩ : ∃ i, m.fl = i := ⟨_, rfl⟩
  rw [hi0, hi1]
  have HX := Lib.hid ((cel_new6 w (.int .i64 i0) (.int .i64 i1) q a n r 25).below (by simp) ((Below.refl _ _).alloc (Nat.le_refl _) (.cells #[.int .i64 i0, .int .i64 i1, q', a', n', r'] 25)))
  have HY := Lib.hid (cel_new6 (w.alloc (.cells #[.int .i64 i0, .int .i64 i1, q, a, n, r] 25)) (.int .i64 i0) (.int .i64 i1) q' a' n' r' 25)
  have HB := Lib.hid (((Below.refl w.heap.size w).alloc (Nat.le_refl _) (.cells #[.int .i64 i0, .int .i64 i1, q, a, n, r] 25)).alloc (by simp) (.cells #[.int .i64 i0, .int .i64 i1, q', a', n', r'] 25))
  rw [World.size_alloc] at HY
  obtain ⟨c0, c1, c2, c3, c4, c5⟩ := HX.out.six
  obtain ⟨d0, d1, d2, d3, d4, d5⟩ := HY.out.six
  clear k1 k2 k3 k4 k1' k2' k3' k4' hi0 hi1
  go_enter Tryz.func43, Tryz.ntmps43
  go_wp2_with fail
  refine (HQ.out _ HB.out).mono ?_; rintro e w1 ⟨rfl, hb⟩
  replace HB := Lib.hid (bel_call HB.out hb)
  replace HX := Lib.hid (HX.out.below (by simp) hb)
  replace HY := Lib.hid (HY.out.below (by simp) hb)
  clear c0 c1 c2 c3 c4 c5 d0 d1 d2 d3 d4 d5 hb
  obtain ⟨c0, c1, c2, c3, c4, c5⟩ := HX.out.six
  obtain ⟨d0, d1, d2, d3, d4, d5⟩ := HY.out.six
  go_wp2_with fail
  refine (HA.out _ HB.out).mono ?_; rintro e w2 ⟨rfl, hb⟩
  replace HB := Lib.hid (bel_call HB.out hb)
  replace HX := Lib.hid (HX.out.below (by simp) hb)
  replace HY := Lib.hid (HY.out.below (by simp) hb)
  clear c0 c1 c2 c3 c4 c5 d0 d1 d2 d3 d4 d5 hb
  obtain ⟨c0, c1, c2, c3, c4, c5⟩ := HX.out.six
  obtain ⟨d0, d1, d2, d3, d4, d5⟩ := HY.out.six
  go_wp2_with fail
  refine (HN.out _ HB.out).mono ?_; rintro e w3 ⟨rfl, hb⟩
  replace HB := Lib.hid (bel_call HB.out hb)
  replace HX := Lib.hid (HX.out.below (by simp) hb)
  replace HY := Lib.hid (HY.out.below (by simp) hb)
  clear c0 c1 c2 c3 c4 c5 d0 d1 d2 d3 d4 d5 hb
  obtain ⟨c0, c1, c2, c3, c4, c5⟩ := HX.out.six
  obtain ⟨d0, d1, d2, d3, d4, d5⟩ := HY.out.six
  go_wp2_with fail
  refine (HR.out _ HB.out).mono ?_; rintro e w4 ⟨rfl, hb⟩
  replace HB := Lib.hid (bel_call HB.out hb)
  replace HX := Lib.hid (HX.out.below (by simp) hb)
  replace HY := Lib.hid (HY.out.below (by simp) hb)
  clear c0 c1 c2 c3 c4 c5 d0 d1 d2 d3 d4 d5 hb
  obtain ⟨c0, c1, c2, c3, c4, c5⟩ := HX.out.six
  obtain ⟨d0, d1, d2, d3, d4, d5⟩ := HY.out.six
  go_wp2_with fail
  go_ret
  exact ⟨rfl, HB.out⟩
end Go.Proofs.YteegekpanadmkaaGreat

/-
  The document's own cutting: texts, and how far a name goes.
-/
namespace Go.Proofs.YteegekpanadmkaaGreat
open Go.RowKit Go.Shelf
set_option linter.unusedVariables false
set_option linter.unusedSimpArgs false
set_option maxRecDepth 100000

theorem txs_end {s : List UInt8} {p : Nat} (h : ¬ p < s.length) : ∀ n, s.length + 1 ≤ n + p → txs s n p = decide (p = s.length)
  | 0, hn => by rw [txs, decide_eq_false (by omega)]
  | n + 1, hn => by rw [txs, dif_neg h]
theorem frt_end {s : List UInt8} {p : Nat} (h : ¬ p < s.length) : ∀ n, frt s n p = none
  | 0 => rfl
  | n + 1 => by rw [frt, dif_neg h]

set_option maxHeartbeats 4000000 in
theorem rtexts_any (s : List UInt8) (hs : s.length ≤ 1000000) (w : World) : Calls Tryz.prog 99 #[.string (bs s)] w fun e w' => e = .returned (.bool (texts s)) ∧ w = w' := by
  have hsz : (bs s).size = s.length := bs_size s
  obtain ⟨X, hX⟩ : ∃ X, txs s (s.length + 1) 0 = X := ⟨_, rfl⟩
  obtain ⟨Y, hY⟩ : ∃ Y, texts s = Y := ⟨_, rfl⟩
  have HT := Lib.hid (show Y = (decide (s ≠ []) && X) by rw [← hY]; unfold texts; rw [hX])
  rw [hY]
  have HX := Lib.hid hX
  clear hY hX
  go_enter Tryz.func99, Tryz.ntmps99
  go_wp2_with fail
  go_loopg [3] (s.length + 1) (fun g v3 wr => ∃ p : Nat, v3 = .int .i64 p ∧ p ≤ s.length + 256 ∧ s.length + 1 ≤ g + p ∧ Hid (txs s g p = X) ∧ w = wr)
  case atStart => exact ⟨0, rfl, by omega, by omega, HX, rfl⟩
  case round =>
    obtain ⟨p, rfl, hp, hg, HP, rfl⟩ := hrel
    clear HX
    by_cases hlt : p < s.length
    · have hix := ix_run s p hlt
      have hst := HP.out
      obtain ⟨m, hm⟩ : ∃ m, gk = m + 1 := ⟨gk - 1, by omega⟩
      rw [hm, txs, dif_pos hlt] at hst
      have hc := s[p].toNat_lt
      obtain ⟨c, hcc⟩ : ∃ c, s[p].toNat = c := ⟨_, rfl⟩
      rw [hcc] at hix hst hc
      have HS := Lib.hid hst
      clear hst hcc
      go_wp2_with fail
      go_roundg m
      case measure => omega
      case rel => exact ⟨p + (1 + c), by go_num, by omega, by omega, HS, rfl⟩
    · have hX := txs_end hlt _ hg
      rw [HP.out] at hX
      have HE := Lib.hid hX
      have t1 : ¬ ((p : Int) < s.length) := by omega
      have e2 : ((p : Int) == (s.length : Int)) = decide (p = s.length) := by
        by_cases h : p = s.length
        · rw [decide_eq_true h, h]; simp
        · rw [decide_eq_false h]; simp; omega
      obtain ⟨z, hz⟩ : ∃ z, decide (p = s.length) = z := ⟨_, rfl⟩
      rw [hz] at HE e2
      clear HP hX hz
      have e1 : (bs s).toList.isEmpty = !decide (s ≠ []) := by rw [bs_toList]; cases s <;> simp
      obtain ⟨y, hy⟩ : ∃ y, decide (s ≠ []) = y := ⟨_, rfl⟩
      rw [hy] at HT e1
      clear hy
      cases y with
      | false =>
        have e3 : (bs s).toList.isEmpty = true := e1
        go_wp2_with fail
        go_ret
        exact ⟨by rw [HT.out, HE.out]; rfl, rfl⟩
      | true =>
        have e3 : (bs s).toList.isEmpty = false := e1
        go_wp2_with fail
        go_ret
        exact ⟨by rw [HT.out, HE.out]; rfl, rfl⟩

def frontI (s : List UInt8) : Int := match front s with | some n => (n : Int) | none => -1

def frv (s : List UInt8) (X : Option Nat) : Int := match X with | none => -1 | some p => if chk (s.take (p + 1)) = 0 then ((p + 1 : Nat) : Int) else -1
theorem frontI_frv (s : List UInt8) : frontI s = frv s (frt s (s.length + 1) 0) := by
  unfold frontI front frv
  rcases frt s (s.length + 1) 0 with _ | p
  · rfl
  · simp only
    by_cases h : chk (s.take (p + 1)) = 0
    · rw [if_pos h, if_pos h]
    · rw [if_neg h, if_neg h]

set_option maxHeartbeats 4000000 in
theorem rfront_any (s : List UInt8) (hs : s.length ≤ 1000000) (w : World) : Calls Tryz.prog 98 #[.string (bs s)] w (Tells w (.int .i64 (frontI s))) := by
  have hsz : (bs s).size = s.length := bs_size s
  obtain ⟨X, hX⟩ : ∃ X, frt s (s.length + 1) 0 = X := ⟨_, rfl⟩
  obtain ⟨Y, hY⟩ : ∃ Y, frontI s = Y := ⟨_, rfl⟩
  have HT := Lib.hid (show Y = frv s X by rw [← hY, frontI_frv, hX])
  rw [hY]
  have HX := Lib.hid hX
  have HC := Lib.hid (fun (n : List UInt8) (hn : n.length ≤ 1000000) wx => rcheck_any n hn wx)
  clear hY hX
  go_enter Tryz.func98, Tryz.ntmps98
  go_wp2_with fail
  go_loopg [3] (s.length + 1) (fun g v3 wr => ∃ p : Nat, v3 = .int .i64 p ∧ p ≤ s.length + 256 ∧ s.length + 1 ≤ g + p ∧ Hid (frt s g p = X) ∧ w = wr)
  case atStart => exact ⟨0, rfl, by omega, by omega, HX, rfl⟩
  case round =>
    obtain ⟨p, rfl, hp, hg, HP, rfl⟩ := hrel
    clear HX
    by_cases hlt : p < s.length
    · have hix := ix_run s p hlt
      have hst := HP.out
      obtain ⟨m, hm⟩ : ∃ m, gk = m + 1 := ⟨gk - 1, by omega⟩
      rw [hm, frt, dif_pos hlt] at hst
      have hc := s[p].toNat_lt
      obtain ⟨c, hcc⟩ : ∃ c, s[p].toNat = c := ⟨_, rfl⟩
      rw [hcc] at hix hst hc
      clear HP hcc
      by_cases h0 : c = 0
      · subst h0
        rw [if_pos rfl] at hst
        have HS := Lib.hid hst
        have htk := to_run s (p + 1) (by omega)
        push_cast at htk
        have HCk := Lib.hid (HC.out (s.take (p + 1)) (by rw [List.length_take]; omega) w)
        obtain ⟨k, hk⟩ : ∃ k, chk (s.take (p + 1)) = k := ⟨_, rfl⟩
        rw [hk] at HCk
        have HK := Lib.hid hk
        have ti : (p : Int) < s.length := by omega
        clear hst hk HC
        go_wp2_with fail
        refine HCk.out.mono ?_; rintro e0 w1 ⟨rfl, hb⟩
        have HB := Lib.hid hb
        clear hb
        by_cases hk0 : k = 0
        · subst hk0
          have HYv := Lib.hid (show Y = ((p + 1 : Nat) : Int) by rw [HT.out, ← HS.out]; unfold frv; simp only; rw [HK.out, if_pos rfl])
          go_wp2_with fail
          go_ret
          exact ⟨by rw [HYv.out]; push_cast; rfl, HB.out⟩
        · have HYv := Lib.hid (show Y = -1 by rw [HT.out, ← HS.out]; unfold frv; simp only; rw [HK.out, if_neg hk0])
          have tk : (k == 0) = false := by simpa using hk0
          go_wp2_with fail
          go_ret
          exact ⟨by rw [HYv.out]; rfl, HB.out⟩
      · rw [if_neg h0] at hst
        have HS := Lib.hid hst
        have tc : ((c : Int) != 0) = true := by simp; omega
        clear hst
        go_wp2_with fail
        go_roundg m
        case measure => omega
        case rel => exact ⟨p + (1 + c), by go_num, by omega, by omega, HS, rfl⟩
    · have hX := frt_end hlt gk
      rw [HP.out] at hX
      have HYv := Lib.hid (show Y = -1 by rw [HT.out, hX]; rfl)
      have t1 : ¬ ((p : Int) < s.length) := by omega
      clear HP hX HC HT
      go_wp2_with fail
      go_ret
      exact ⟨by rw [HYv.out]; rfl, Below.refl _ _⟩
end Go.Proofs.YteegekpanadmkaaGreat

/-
  The document's own cutting: the forms, and the parts.
-/
namespace Go.Proofs.YteegekpanadmkaaGreat
open Go.RowKit Go.Shelf
set_option linter.unusedVariables false
set_option linter.unusedSimpArgs false
set_option maxRecDepth 100000

def codeK : PK → Int
  | .fix n => n
  | .nam => -1
  | .txt => -2
  | .rst => -3

def FormPost (w : World) (ks : List PK) (e : Ending) (w' : World) : Prop := e = .returned (.slice (some ⟨w.heap.size, 0, none⟩) ks.length ks.length) ∧ w' = w.alloc (.cells (ks.map fun k => Value.int .i64 (codeK k)).toArray 3)

set_option maxHeartbeats 4000000 in
theorem form_any (t : Int) (w : World) : Calls Tryz.prog 94 #[.int .i64 t] w (FormPost w (kinds t)) := by
  by_cases h1 : t = 1
  · subst h1
    go_enter Tryz.func94, Tryz.ntmps94
    go_wp2
    go_ret
    exact ⟨rfl, rfl⟩
  by_cases h28 : t = 28
  · subst h28
    go_enter Tryz.func94, Tryz.ntmps94
    go_wp2
    go_ret
    exact ⟨rfl, rfl⟩
  by_cases h2 : t = 2
  · subst h2
    go_enter Tryz.func94, Tryz.ntmps94
    go_wp2
    go_ret
    exact ⟨rfl, rfl⟩
  by_cases h5 : t = 5
  · subst h5
    go_enter Tryz.func94, Tryz.ntmps94
    go_wp2
    go_ret
    exact ⟨rfl, rfl⟩
  by_cases h12 : t = 12
  · subst h12
    go_enter Tryz.func94, Tryz.ntmps94
    go_wp2
    go_ret
    exact ⟨rfl, rfl⟩
  by_cases h15 : t = 15
  · subst h15
    go_enter Tryz.func94, Tryz.ntmps94
    go_wp2
    go_ret
    exact ⟨rfl, rfl⟩
  by_cases h6 : t = 6
  · subst h6
    go_enter Tryz.func94, Tryz.ntmps94
    go_wp2
    go_ret
    exact ⟨rfl, rfl⟩
  by_cases h16 : t = 16
  · subst h16
    go_enter Tryz.func94, Tryz.ntmps94
    go_wp2
    go_ret
    exact ⟨rfl, rfl⟩
  have hk : kinds t = [.rst] := by unfold kinds; rw [if_neg h1, if_neg h28, if_neg (by omega), if_neg h15, if_neg h6, if_neg h16]
  rw [hk]
  have e1 : (t == 1) = false := by simpa using h1
  have e28 : (t == 28) = false := by simpa using h28
  have e2 : (t == 2) = false := by simpa using h2
  have e5 : (t == 5) = false := by simpa using h5
  have e12 : (t == 12) = false := by simpa using h12
  have e15 : (t == 15) = false := by simpa using h15
  have e6 : (t == 6) = false := by simpa using h6
  have e16 : (t == 16) = false := by simpa using h16
  clear hk
  go_enter Tryz.func94, Tryz.ntmps94
  go_wp2
  go_ret
  exact ⟨rfl, rfl⟩
end Go.Proofs.YteegekpanadmkaaGreat

/-
  The document's own cutting: the walk of its parts.
-/
namespace Go.Proofs.YteegekpanadmkaaGreat
open Go.RowKit Go.Shelf
set_option linter.unusedVariables false
set_option linter.unusedSimpArgs false
set_option maxRecDepth 100000

def ctsA (ks : List PK) (s : List UInt8) (acc : List (List UInt8)) : Option (List (List UInt8) × List UInt8) := (cuts ks s).map fun r => (acc ++ r.1.map (·.1), r.2)

theorem ctsA_nil (s : List UInt8) (acc : List (List UInt8)) : ctsA [] s acc = some (acc, s) := by simp [ctsA, cuts]
theorem ctsA_none {k : PK} {ks : List PK} {s : List UInt8} {acc : List (List UInt8)} (h : lenP s k = none) : ctsA (k :: ks) s acc = none := by unfold ctsA; rw [cuts, h]; rfl
theorem ctsA_some {k : PK} {ks : List PK} {s : List UInt8} {acc : List (List UInt8)} {n : Nat} (h : lenP s k = some n) : ctsA (k :: ks) s acc = ctsA ks (s.drop n) (acc ++ [s.take n]) := by
  unfold ctsA
  rw [cuts, h]
  simp only
  rcases cuts ks (s.drop n) with _ | r
  · rfl
  · simp [List.append_assoc]

def PartsP (w : World) (X : Option (List (List UInt8) × List UInt8)) (e : Ending) (w' : World) : Prop :=
  ∃ v, (match X with | none => e = .returned (.tuple #[.slice none 0 0, .bool false]) | some r => e = .returned (.tuple #[v, .bool (decide (r.2 = []))]) ∧ OwnT w' w.heap.size v r.1) ∧ Below w.heap.size w w'

set_option maxHeartbeats 8000000 in
theorem rparts_any (t : Int) (s : List UInt8) (hs : s.length ≤ 1000000) (w : World) : Calls Tryz.prog 95 #[.int .i64 t, .string (bs s)] w (PartsP w (ctsA (kinds t) s [])) := by
  have HFm := Lib.hid (fun wx => form_any t wx)
  have hks := kinds_small t
  obtain ⟨ks, hk⟩ : ∃ ks, kinds t = ks := ⟨_, rfl⟩
  rw [hk] at HFm hks ⊢
  have HSM := Lib.hid hks.2
  have hks3 := hks.1
  obtain ⟨X, hX⟩ : ∃ X, ctsA ks s [] = X := ⟨_, rfl⟩
  rw [hX]
  have HX := Lib.hid hX
  have HFr := Lib.hid (fun (n : List UInt8) (hn : n.length ≤ 1000000) wx => rfront_any n hn wx)
  have HTx := Lib.hid (fun (n : List UInt8) (hn : n.length ≤ 1000000) wx => rtexts_any n hn wx)
  clear hk hks hX
  go_enter Tryz.func95, Tryz.ntmps95
  go_wp2_with fail
  refine (HFm.out _).mono ?_; rintro e0 w1 ⟨rfl, hw1⟩
  have hb1 : Below w.heap.size w w1 := by rw [hw1]; exact (Below.refl _ _).alloc (Nat.le_refl _) _
  have HF := Lib.hid (fun (wx : World) (hb : Below w1.heap.size w1 wx) j (hj : j < ks.length) => show wx.cell? ⟨w.heap.size, j, none⟩ = some (.int .i64 (codeK ks[j])) from by
    refine cell_later hb ?_
    rw [hw1]
    rw [World.cell?]
    rw [show (w.alloc (.cells (ks.map fun k => Value.int .i64 (codeK k)).toArray 3)).heap[w.heap.size]? = some (.cells (ks.map fun k => Value.int .i64 (codeK k)).toArray 3) from heap_alloc_new w _]
    simp [hj])
  have HB1 := Lib.hid hb1
  clear hw1 hb1
  go_wp2_with fail
  go_loopg [1, 7, 8] ks.length (fun g v1 v7 v8 wr => ∃ (k : Nat) (s' : List UInt8) (acc : List (List UInt8)) (va : Option Addr) (ca : Nat), k + g = ks.length ∧ v1 = .string (bs s') ∧ v7 = .slice va k ca ∧ v8 = .int .i64 k ∧ Hid (acc.length = k) ∧ s'.length ≤ 1000000 ∧ Hid (OwnT wr w1.heap.size (.slice va k ca) acc) ∧ Hid (Below w1.heap.size w1 wr) ∧ Hid (ctsA (ks.drop k) s' acc = X))
  case atStart => exact ⟨0, s, [], none, 0, by omega, rfl, rfl, rfl, rfl, hs, OwnT.nil _ _, Below.refl _ _, HX⟩
  case round =>
    obtain ⟨k, s', acc, va, ca, hk, rfl, rfl, rfl, hak, hsl, HO2, HB2, HXk⟩ := hrel
    clear HX
    by_cases hlt : k < ks.length
    · have hst := HXk.out
      rw [List.drop_eq_getElem_cons hlt] at hst
      have hcell := HF.out _ HB2.out k hlt
      have hsm := HSM.out ks[k] (List.getElem_mem hlt)
      obtain ⟨K, hK⟩ : ∃ K, ks[k] = K := ⟨_, rfl⟩
      rw [hK] at hst hcell hsm
      have hsz : (bs s').size = s'.length := bs_size s'
      have hak3 : acc.length + 1 ≤ 1000000 := by rw [hak.out]; omega
      clear hK HXk
      cases K with
      | fix m =>
        have hm := hsm m rfl
        have hcell2 : wr.cell? ⟨w.heap.size, k, none⟩ = some (.int .i64 (m : Int)) := hcell
        have u1 : ((m : Int) == -1) = false := by first | (simp; done) | (simp; omega)
        have u2 : ((m : Int) == -2) = false := by first | (simp; done) | (simp; omega)
        have u3 : ((m : Int) == -3) = false := by first | (simp; done) | (simp; omega)
        clear hcell hsm
        by_cases hn : m ≤ s'.length
        · rw [ctsA_some (show lenP s' (.fix m) = some m from if_pos hn)] at hst
          have hst2 := Lib.hid hst
          have htk := to_run s' m hn
          have hfr := from_run s' m hn
          
          have hn2 : m ≤ 1000000 := by omega
          
          have hal : Below wr.heap.size wr (wr.alloc (.cells #[.string (bs (s'.take m))] 9)) := (Below.refl _ _).alloc (Nat.le_refl _) _
          obtain ⟨a7, c7, w7, hr7, ho7, hg7⟩ := run_appT w1.heap.size (.slice va k ca) acc (s'.take m) wr.heap.size (HO2.out.below hal) (by simp [go_sem, tv]) hak3 (Nat.le_trans HB2.out.size hal.size)
          rw [hak.out] at hr7 ho7
          have ha7 := aside_grown hg7
          have hlt7 := OwnZ.lt HO2.out
          have HR7 := Lib.hid hr7
          have HO7 := Lib.hid ho7
          have HB7 := Lib.hid (below_aside (bel_call HB2.out hal) ha7 fun x hx => ⟨Nat.lt_of_lt_of_le hx (bel_call HB2.out hal).size, fun hg => by have := (hlt7 x hg).1; omega⟩)
          have hdl : (s'.drop m).length ≤ 1000000 := by rw [List.length_drop]; omega
          have hal2 := Lib.hid (show (acc ++ [s'.take m]).length = k + 1 by rw [List.length_append, hak.out]; rfl)
          clear hal hr7 ho7 hg7 ha7 hlt7 hst
          go_wp2_with (at_builtin; refine wpList_append_run (.tmp 48) (.tmp 52) 130 130 rfl rfl rfl rfl HR7.out ?_)
          go_roundg (ks.length - (k + 1))
          case measure => omega
          case rel => exact ⟨k + 1, s'.drop m, acc ++ [s'.take m], a7, c7, by omega, rfl, rfl, by go_num, hal2, hdl, HO7, HB7, hst2⟩
        · have hE : X = none := by rw [← hst]; exact ctsA_none (if_neg hn)
          have HE := Lib.hid hE
          clear hst hE
          go_wp2_with fail
          go_ret2
          exact ⟨.slice none 0 0, by rw [HE.out]; rfl, bel_call HB1.out HB2.out⟩
      | rst =>
        have hcell2 : wr.cell? ⟨w.heap.size, k, none⟩ = some (.int .i64 (-3)) := hcell
        have hn : s'.length ≤ s'.length := Nat.le_refl _
        clear hcell hsm
        rw [ctsA_some (show lenP s' .rst = some s'.length from rfl)] at hst
        obtain ⟨z, hz⟩ : ∃ z, s'.length = z := ⟨_, rfl⟩
        have HZ := Lib.hid hz
        have hn : z ≤ s'.length := by omega
        have HSL := Lib.hid hsl
        rw [hz] at hst hsz hsl
        clear hz
        have hst2 := Lib.hid hst
        have htk := to_run s' z hn
        have hfr := from_run s' z hn
        
        have hn2 : z ≤ 1000000 := by omega
        
        have hal : Below wr.heap.size wr (wr.alloc (.cells #[.string (bs (s'.take z))] 9)) := (Below.refl _ _).alloc (Nat.le_refl _) _
        obtain ⟨a7, c7, w7, hr7, ho7, hg7⟩ := run_appT w1.heap.size (.slice va k ca) acc (s'.take z) wr.heap.size (HO2.out.below hal) (by simp [go_sem, tv]) hak3 (Nat.le_trans HB2.out.size hal.size)
        rw [hak.out] at hr7 ho7
        have ha7 := aside_grown hg7
        have hlt7 := OwnZ.lt HO2.out
        have HR7 := Lib.hid hr7
        have HO7 := Lib.hid ho7
        have HB7 := Lib.hid (below_aside (bel_call HB2.out hal) ha7 fun x hx => ⟨Nat.lt_of_lt_of_le hx (bel_call HB2.out hal).size, fun hg => by have := (hlt7 x hg).1; omega⟩)
        have hdl : (s'.drop z).length ≤ 1000000 := by have := HSL.out; rw [List.length_drop]; omega
        have hal2 := Lib.hid (show (acc ++ [s'.take z]).length = k + 1 by rw [List.length_append, hak.out]; rfl)
        clear hal hr7 ho7 hg7 ha7 hlt7 hst
        go_wp2_with (at_builtin; refine wpList_append_run (.tmp 48) (.tmp 52) 130 130 rfl rfl rfl rfl HR7.out ?_)
        go_roundg (ks.length - (k + 1))
        case measure => omega
        case rel => exact ⟨k + 1, s'.drop z, acc ++ [s'.take z], a7, c7, by omega, rfl, rfl, by go_num, hal2, hdl, HO7, HB7, hst2⟩
      | txt =>
        have hcell2 : wr.cell? ⟨w.heap.size, k, none⟩ = some (.int .i64 (-2)) := hcell
        have hn : s'.length ≤ s'.length := Nat.le_refl _
        have HT := Lib.hid (HTx.out s' hsl wr)
        clear hcell hsm
        by_cases hx : texts s' = true
        · rw [ctsA_some (show lenP s' .txt = some s'.length from if_pos hx)] at hst
          rw [hx] at HT
          clear hx
          go_wp2_with fail
          refine HT.out.mono ?_; rintro e0 w2 ⟨rfl, rfl⟩
          obtain ⟨z, hz⟩ : ∃ z, s'.length = z := ⟨_, rfl⟩
          have HZ := Lib.hid hz
          have hn : z ≤ s'.length := by omega
          have HSL := Lib.hid hsl
          rw [hz] at hst hsz hsl
          clear hz
          have hst2 := Lib.hid hst
          have htk := to_run s' z hn
          have hfr := from_run s' z hn
          
          have hn2 : z ≤ 1000000 := by omega
          
          have hal : Below wr.heap.size wr (wr.alloc (.cells #[.string (bs (s'.take z))] 9)) := (Below.refl _ _).alloc (Nat.le_refl _) _
          obtain ⟨a7, c7, w7, hr7, ho7, hg7⟩ := run_appT w1.heap.size (.slice va k ca) acc (s'.take z) wr.heap.size (HO2.out.below hal) (by simp [go_sem, tv]) hak3 (Nat.le_trans HB2.out.size hal.size)
          rw [hak.out] at hr7 ho7
          have ha7 := aside_grown hg7
          have hlt7 := OwnZ.lt HO2.out
          have HR7 := Lib.hid hr7
          have HO7 := Lib.hid ho7
          have HB7 := Lib.hid (below_aside (bel_call HB2.out hal) ha7 fun x hx => ⟨Nat.lt_of_lt_of_le hx (bel_call HB2.out hal).size, fun hg => by have := (hlt7 x hg).1; omega⟩)
          have hdl : (s'.drop z).length ≤ 1000000 := by have := HSL.out; rw [List.length_drop]; omega
          have hal2 := Lib.hid (show (acc ++ [s'.take z]).length = k + 1 by rw [List.length_append, hak.out]; rfl)
          clear hal hr7 ho7 hg7 ha7 hlt7 hst
          go_wp2_with (at_builtin; refine wpList_append_run (.tmp 48) (.tmp 52) 130 130 rfl rfl rfl rfl HR7.out ?_)
          go_roundg (ks.length - (k + 1))
          case measure => omega
          case rel => exact ⟨k + 1, s'.drop z, acc ++ [s'.take z], a7, c7, by omega, rfl, rfl, by go_num, hal2, hdl, HO7, HB7, hst2⟩
        · have hE : X = none := by rw [← hst]; exact ctsA_none (if_neg hx)
          have HE := Lib.hid hE
          rw [Bool.not_eq_true] at hx
          rw [hx] at HT
          clear hst hE hx
          go_wp2_with fail
          refine HT.out.mono ?_; rintro e0 w2 ⟨rfl, rfl⟩
          go_wp2_with fail
          go_ret2
          exact ⟨.slice none 0 0, by rw [HE.out]; rfl, bel_call HB1.out HB2.out⟩
      | nam =>
        have hcell2 : wr.cell? ⟨w.heap.size, k, none⟩ = some (.int .i64 (-1)) := hcell
        have HT := Lib.hid (HFr.out s' hsl wr)
        clear hcell hsm
        rcases hf : front s' with _ | m
        · have hE : X = none := by rw [← hst]; exact ctsA_none hf
          have HE := Lib.hid hE
          have hfi : frontI s' = -1 := by unfold frontI; rw [hf]
          rw [hfi] at HT
          clear hst hE hf hfi
          go_wp2_with fail
          refine HT.out.mono ?_; rintro e0 w2 ⟨rfl, hb⟩
          replace HB2 := Lib.hid (bel_call HB2.out hb)
          clear hb
          go_wp2_with fail
          go_ret2
          exact ⟨.slice none 0 0, by rw [HE.out]; rfl, bel_call HB1.out HB2.out⟩
        · obtain ⟨ls, q1, q2, q3, hn⟩ := front_some hf
          clear q1 q2 q3
          have hfi : frontI s' = (m : Int) := by unfold frontI; rw [hf]
          rw [hfi] at HT
          rw [ctsA_some (show lenP s' .nam = some m from hf)] at hst
          have u1 : ((m : Int) == -1) = false := by first | (simp; done) | (simp; omega)
          have u2 : ((m : Int) == -2) = false := by first | (simp; done) | (simp; omega)
          have u3 : ((m : Int) == -3) = false := by first | (simp; done) | (simp; omega)
          clear hf hfi
          go_wp2_with fail
          refine HT.out.mono ?_; rintro e0 w2 ⟨rfl, hb⟩
          replace HB2 := Lib.hid (bel_call HB2.out hb)
          replace HO2 := Lib.hid (HO2.out.below hb)
          clear hb
          have hst2 := Lib.hid hst
          have htk := to_run s' m hn
          have hfr := from_run s' m hn
          
          have hn2 : m ≤ 1000000 := by omega
          
          have hal : Below w2.heap.size w2 (w2.alloc (.cells #[.string (bs (s'.take m))] 9)) := (Below.refl _ _).alloc (Nat.le_refl _) _
          obtain ⟨a7, c7, w7, hr7, ho7, hg7⟩ := run_appT w1.heap.size (.slice va k ca) acc (s'.take m) w2.heap.size (HO2.out.below hal) (by simp [go_sem, tv]) hak3 (Nat.le_trans HB2.out.size hal.size)
          rw [hak.out] at hr7 ho7
          have ha7 := aside_grown hg7
          have hlt7 := OwnZ.lt HO2.out
          have HR7 := Lib.hid hr7
          have HO7 := Lib.hid ho7
          have HB7 := Lib.hid (below_aside (bel_call HB2.out hal) ha7 fun x hx => ⟨Nat.lt_of_lt_of_le hx (bel_call HB2.out hal).size, fun hg => by have := (hlt7 x hg).1; omega⟩)
          have hdl : (s'.drop m).length ≤ 1000000 := by rw [List.length_drop]; omega
          have hal2 := Lib.hid (show (acc ++ [s'.take m]).length = k + 1 by rw [List.length_append, hak.out]; rfl)
          clear hal hr7 ho7 hg7 ha7 hlt7 hst
          go_wp2_with (at_builtin; refine wpList_append_run (.tmp 48) (.tmp 52) 130 130 rfl rfl rfl rfl HR7.out ?_)
          go_roundg (ks.length - (k + 1))
          case measure => omega
          case rel => exact ⟨k + 1, s'.drop m, acc ++ [s'.take m], a7, c7, by omega, rfl, rfl, by go_num, hal2, hdl, HO7, HB7, hst2⟩
    · have hke : k = ks.length := by omega
      have hst := HXk.out
      rw [hke, List.drop_length, ctsA_nil] at hst
      have HE := Lib.hid hst
      have t1 : ¬ ((k : Int) < ks.length) := by omega
      have e2 : (bs s').toList.isEmpty = decide (s' = []) := by rw [bs_toList]; cases s' <;> simp
      obtain ⟨z, hz⟩ : ∃ z, decide (s' = []) = z := ⟨_, rfl⟩
      rw [hz] at e2
      have HZ := Lib.hid hz
      clear hst HXk hz
      go_wp2_with fail
      go_ret2
      refine ⟨.slice va k ca, ?_, bel_call HB1.out HB2.out⟩
      rw [← HE.out]
      exact ⟨by rw [HZ.out, hke]; rfl, OwnT.mono HO2.out HB1.out.size⟩
end Go.Proofs.YteegekpanadmkaaGreat
