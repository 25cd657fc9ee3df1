/-
  The laws that speak of floats alone: SmoothMeans, SmoothWaits, SmoothRises.
-/
import Derived.Test.YtonjjblifcgapaaWe
namespace Go.Proofs.Ytonjjblifcgapaa
open Go.RowKit
set_option linter.unusedVariables false

theorem sameB_self (x : Nat) : sameB x x = true := by unfold sameB; simp

set_option maxHeartbeats 1000000 in
theorem means_any (old mean now part : Nat) (w : World) : Calls Try.prog 3 #[.float .f64 old, .float .f64 mean, .float .f64 now, .float .f64 part] w (YesB w) := by
  go_enter Try.func3, Try.ntmps3
  go_wp2_with (first | (go_at_call 11; refine (mean_any _ _ _ _).mono ?_; rintro e w' ⟨k, rfl, rfl⟩) | (go_at_call 12; refine (rmean_any _ _ _ _).mono ?_; rintro e w' ⟨k, rfl, rfl⟩) | (go_at_call 10; (with_reducible refine (same_any _ _ (sameB_self _) _).mono ?_); rintro e w' ⟨rfl, rfl⟩) | (go_at_call 13; refine (spread_any _ _ _ _ _).mono ?_; rintro e w' ⟨r, k, hr, rfl, rfl⟩; have HR := Lib.hid hr; clear hr) | (go_at_call 14; refine (rspread_any _ _ _ _ _).mono ?_; rintro e w' ⟨s, k, hs, rfl, rfl⟩; have HS := Lib.hid hs; clear hs) | (go_at_call 10; (with_reducible refine (same_any _ _ (spread_same HR.out HS.out) _).mono ?_); rintro e w' ⟨rfl, rfl⟩) | (go_at_call 15; (with_reducible refine (awake_any _).mono ?_); rintro e w1 ⟨rfl, hb⟩; have HB := Lib.hid hb; clear hb))
  go_ret
  exact ⟨rfl, (below_drewN (Below.refl _ _) _).trans (HB.out.mono (by simp))⟩

set_option maxHeartbeats 1000000 in
theorem waits_any (mean spread : Nat) (w : World) : Calls Try.prog 5 #[.float .f64 mean, .float .f64 spread] w (YesB w) := by
  go_enter Try.func5, Try.ntmps5
  go_wp2_with (first | (go_at_call 20; refine (wait_any _ _ _).mono ?_; rintro e w' ⟨k, rfl, rfl⟩) | (go_at_call 21; refine (rwait_any _ _ _).mono ?_; rintro e w' ⟨k, rfl, rfl⟩) | (go_at_call 15; (with_reducible refine (awake_any _).mono ?_); rintro e w1 ⟨rfl, hb⟩; have HB := Lib.hid hb; clear hb))
  go_ret
  exact ⟨rfl, (below_drewN (Below.refl _ _) _).trans (HB.out.mono (by simp))⟩

set_option maxHeartbeats 2000000 in
theorem rises_any (mean spread more : Nat) (hmore : more < 18446744073709551616) (w : World) : Calls Try.prog 9 #[.float .f64 mean, .float .f64 spread, .float .f64 more] w (YesB w) := by
  obtain ⟨b1, b2⟩ := waitV_bd mean spread
  have t1 : decide (waitV mean spread < 2) = false := by simp; omega
  have t2 : decide (60 < waitV mean spread) = false := by simp; omega
  clear b1 b2
  go_enter Try.func9, Try.ntmps9
  go_wp2_with (go_at_call 15; (with_reducible refine (awake_any _).mono ?_); rintro e w1 ⟨rfl, hb⟩; have HB := Lib.hid hb; clear hb)
  refine (wait_any mean spread _).mono ?_
  rintro e w' ⟨k, rfl, rfl⟩
  obtain ⟨a, na, ha, fa⟩ := arith_step (P := Try.prog) .add (by simp) 22 mean (absF more) (w1.drewN k)
  obtain ⟨b, nb, hb, fb⟩ := arith_step (P := Try.prog) .add (by simp) 22 spread (absF more) ((w1.drewN k).drewN na)
  simp only [World.drewN_drewN] at ha hb
  clear fa fb
  cases ga : geB a mean with
  | false =>
    have hga : (FloatKind.f64.format.order a mean == some Ordering.gt || FloatKind.f64.format.order a mean == some Ordering.eq) = false := (ord_ge _ _).trans ga
    clear ga
    go_wp2_with (go_at_call 26; refine (abs_any _ hmore _).mono ?_; rintro e w' ⟨rfl, rfl⟩)
    go_ret
    exact ⟨rfl, below_drewN HB.out _⟩
  | true =>
    have hga : (FloatKind.f64.format.order a mean == some Ordering.gt || FloatKind.f64.format.order a mean == some Ordering.eq) = true := (ord_ge _ _).trans ga
    cases gb : geB b spread with
    | false =>
      have hgb : (FloatKind.f64.format.order b spread == some Ordering.gt || FloatKind.f64.format.order b spread == some Ordering.eq) = false := (ord_ge _ _).trans gb
      clear ga gb
      go_wp2_with (go_at_call 26; refine (abs_any _ hmore _).mono ?_; rintro e w' ⟨rfl, rfl⟩)
      go_ret
      exact ⟨rfl, below_drewN HB.out _⟩
    | true =>
      have hgb : (FloatKind.f64.format.order b spread == some Ordering.gt || FloatKind.f64.format.order b spread == some Ordering.eq) = true := (ord_ge _ _).trans gb
      have GA := Lib.hid ga
      have GB := Lib.hid gb
      clear ga gb
      go_wp2_with (go_at_call 26; refine (abs_any _ hmore _).mono ?_; rintro e w' ⟨rfl, rfl⟩)
      refine (wait_any a spread _).mono ?_
      rintro e w' ⟨k2, rfl, rfl⟩
      clear ha hb hga hgb
      go_wp2_with fail
      refine (wait_any mean b _).mono ?_
      rintro e w' ⟨k3, rfl, rfl⟩
      obtain ⟨p, np, hp, fp⟩ := arith_step (P := Try.prog) .mul (by simp) 22 4616189618054758400 spread (w1.drewN (k + na + nb + k2 + k3))
      obtain ⟨t, nt, ht, ft⟩ := arith_step (P := Try.prog) .add (by simp) 22 mean p ((w1.drewN (k + na + nb + k2 + k3)).drewN np)
      simp only [World.drewN_drewN] at hp ht
      cases hn : isN t with
      | true =>
        clear fp ft
        go_wp2_with (go_at_call 25; refine (isnan_any _ _).mono ?_; rintro e w' ⟨rfl, rfl⟩)
        go_ret
        exact ⟨rfl, below_drewN HB.out _⟩
      | false =>
        obtain ⟨r1, r2⟩ := rises_all GA.out GB.out fp ft hn
        clear fp ft
        have d1 : decide (waitV mean spread ≤ waitV a spread) = true := by simp; omega
        have d2 : decide (waitV mean spread ≤ waitV mean b) = true := by simp; omega
        clear r1 r2
        go_wp2_with (go_at_call 25; refine (isnan_any _ _).mono ?_; rintro e w' ⟨rfl, rfl⟩)
        go_ret
        exact ⟨rfl, below_drewN HB.out _⟩

end Go.Proofs.Ytonjjblifcgapaa
