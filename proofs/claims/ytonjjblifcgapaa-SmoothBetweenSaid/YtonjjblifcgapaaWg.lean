/-
  The law SmoothBetween.
-/
import Derived.Test.YtonjjblifcgapaaWf
namespace Go.Proofs.Ytonjjblifcgapaa
open Go.RowKit
set_option linter.unusedVariables false

/-- Is anything an edge? -/
def edgeB (old now part : Nat) : Bool := isN old || isN now || isN part || ltB 6850974717710472879 (absF old) || ltB 6850974717710472879 (absF now) || ltB part 0 || ltB 4607182418800017408 part

set_option maxHeartbeats 4000000 in
theorem between_edge (old now part : Nat) (ho : old < 18446744073709551616) (hn : now < 18446744073709551616) (h : edgeB old now part = true) (w : World) : Calls Try.prog 8 #[.float .f64 old, .float .f64 now, .float .f64 part] w (YesB w) := by
  have H := Lib.hid h
  clear h
  cases hm : isN (meanF old now part) with
  | true =>
    have hnn := mean_isN hm
    clear H
    go_enter Try.func8, Try.ntmps8
    go_wp2_with (first | (go_at_call 15; (with_reducible refine (awake_any _).mono ?_); rintro e w1 ⟨rfl, hb⟩; have HB := Lib.hid hb; clear hb) | (go_at_call 11; refine (mean_any _ _ _ _).mono ?_; rintro e w' ⟨k, rfl, rfl⟩) | (go_at_call 25; refine (isnan_any _ _).mono ?_; rintro e w' ⟨rfl, rfl⟩))
    go_ret
    exact ⟨rfl, below_drewN HB.out _⟩
  | false =>
    obtain ⟨b1, hb1⟩ : ∃ b, ltB 6850974717710472879 (absF old) = b := ⟨_, rfl⟩
    obtain ⟨b2, hb2⟩ : ∃ b, ltB 6850974717710472879 (absF now) = b := ⟨_, rfl⟩
    obtain ⟨b3, hb3⟩ : ∃ b, ltB part 0 = b := ⟨_, rfl⟩
    obtain ⟨b4, hb4⟩ : ∃ b, ltB 4607182418800017408 part = b := ⟨_, rfl⟩
    obtain ⟨n1, hn1⟩ : ∃ b, isN old = b := ⟨_, rfl⟩
    obtain ⟨n2, hn2⟩ : ∃ b, isN now = b := ⟨_, rfl⟩
    obtain ⟨n3, hn3⟩ : ∃ b, isN part = b := ⟨_, rfl⟩
    have g1 : (FloatKind.f64.format.order (absF old) 6850974717710472879 == some Ordering.gt) = b1 := by rw [← hb1]; exact ord_gt _ _
    have g2 : (FloatKind.f64.format.order (absF now) 6850974717710472879 == some Ordering.gt) = b2 := by rw [← hb2]; exact ord_gt _ _
    have g3 : (FloatKind.f64.format.order part 0 == some Ordering.lt) = b3 := by rw [← hb3]; exact ord_lt _ _
    have g4 : (FloatKind.f64.format.order part 4607182418800017408 == some Ordering.gt) = b4 := by rw [← hb4]; exact ord_gt _ _
    have H2 : Hid ((n1 || n2 || n3 || b1 || b2 || b3 || b4) = true) := Lib.hid (by rw [← hb1, ← hb2, ← hb3, ← hb4, ← hn1, ← hn2, ← hn3]; exact H.out)
    clear hb1 hb2 hb3 hb4 H
    go_enter Try.func8, Try.ntmps8
    go_wp2_with (first | (go_at_call 15; (with_reducible refine (awake_any _).mono ?_); rintro e w1 ⟨rfl, hb⟩; have HB := Lib.hid hb; clear hb) | (go_at_call 11; refine (mean_any _ _ _ _).mono ?_; rintro e w' ⟨k, rfl, rfl⟩) | (go_at_call 25; refine (isnan_any _ _).mono ?_; rintro e w' ⟨rfl, rfl⟩) | (go_at_call 26; refine (abs_any _ ho _).mono ?_; rintro e w' ⟨rfl, rfl⟩) | (go_at_call 26; refine (abs_any _ hn _).mono ?_; rintro e w' ⟨rfl, rfl⟩))
    all_goals first | (go_ret; exact ⟨rfl, below_drewN HB.out _⟩) | (exfalso; have h := H2.out; clear g1 g2 g3 g4 hn1 hn2 hn3; simp_all; done)

theorem key_zero : key 0 = 0 ∧ isN 0 = false := by decide +kernel

theorem not_lt_key {x y : Nat} (h : ltB x y = false) (hx : isN x = false) (hy : isN y = false) : key y ≤ key x := by
  by_cases g : key x < key y
  · rw [lt_key.mpr ⟨hx, hy, g⟩] at h; cases h
  · omega

theorem eq_one (part : Nat) (h : eqB part 4607182418800017408 = true) : key part = 4607182418800017408 := by
  have := (eq_key.mp h).2.2; rwa [k1.1] at this
theorem eq_nil (x : Nat) (h : eqB x 0 = true) : key x = 0 := by
  have := (eq_key.mp h).2.2; rwa [key_zero.1] at this

/-- What is known where nothing is an edge. -/
theorem plain_facts {old now part : Nat} (h : edgeB old now part = false) :
    isN old = false ∧ isN now = false ∧ isN part = false ∧ (key old).natAbs ≤ 6850974717710472879 ∧ (key now).natAbs ≤ 6850974717710472879 ∧ 0 ≤ key part ∧ key part ≤ 4607182418800017408 := by
  unfold edgeB at h
  simp only [Bool.or_eq_false_iff] at h
  obtain ⟨⟨⟨⟨⟨⟨h1, h2⟩, h3⟩, h4⟩, h5⟩, h6⟩, h7⟩ := h
  obtain ⟨o1, o2, _⟩ := abs_facts old
  obtain ⟨n1, n2, _⟩ := abs_facts now
  obtain ⟨b1, b2, _⟩ := big_facts
  have a1 := not_lt_key h4 b2 (by rw [o1, h1])
  have a2 := not_lt_key h5 b2 (by rw [n1, h2])
  have a3 := not_lt_key h6 h3 key_zero.2
  have a4 := not_lt_key h7 k1.2 h3
  rw [b1, o2] at a1
  rw [b1, n2] at a2
  rw [key_zero.1] at a3
  rw [k1.1] at a4
  exact ⟨h1, h2, h3, by omega, by omega, a3, a4⟩

/-- How the law's second test goes: never to 'false'. -/
theorem plain_ways {old now part : Nat} (h : edgeB old now part = false) :
    (eqB part 0 = true ∧ eqB (meanF old now part) old = true ∧ eqB part 4607182418800017408 = false) ∨
    (eqB part 0 = false ∧ eqB part 4607182418800017408 = true ∧ eqB old 0 = true ∧ eqB (meanF old now part) now = true) ∨
    (eqB part 0 = false ∧ eqB part 4607182418800017408 = true ∧ eqB old 0 = false) ∨
    (eqB part 0 = false ∧ eqB part 4607182418800017408 = false) := by
  obtain ⟨h1, h2, h3, h4, h5, h6, h7⟩ := plain_facts h
  cases z : eqB part 0 with
  | true =>
    refine .inl ⟨rfl, mean_zero h1 h2 h3 h4 h5 (eq_nil _ z), ?_⟩
    cases o : eqB part 4607182418800017408 with
    | false => rfl
    | true => have a := eq_nil _ z; have b := eq_one _ o; omega
  | false =>
    cases o : eqB part 4607182418800017408 with
    | false => exact .inr (.inr (.inr ⟨rfl, rfl⟩))
    | true =>
      cases e : eqB old 0 with
      | false => exact .inr (.inr (.inl ⟨rfl, rfl, rfl⟩))
      | true => exact .inr (.inl ⟨rfl, rfl, rfl, mean_one h1 h2 h3 h4 h5 (eq_one _ o) (eq_nil _ e)⟩)

theorem bne_of {x y : Nat} {b : Bool} (h : eqB x y = b) : (FloatKind.f64.format.order x y != some Ordering.eq) = !b := by
  show (!(Ieee.double.order x y == some Ordering.eq)) = !b
  rw [ord_eq, h]

set_option maxHeartbeats 4000000 in
theorem between_plain (old now part : Nat) (ho : old < 18446744073709551616) (hn : now < 18446744073709551616) (h : edgeB old now part = false) (w : World) : Calls Try.prog 8 #[.float .f64 old, .float .f64 now, .float .f64 part] w (YesB w) := by
  obtain ⟨h1, h2, h3, h4, h5, h6, h7⟩ := plain_facts h
  have hm : isN (meanF old now part) = false := by
    cases g : isN (meanF old now part) with
    | false => rfl
    | true => rw [mean_isN g] at h2; cases h2
  have hw := plain_ways h
  have hedge := h
  unfold edgeB at hedge
  simp only [Bool.or_eq_false_iff] at hedge
  obtain ⟨⟨⟨⟨⟨⟨_, _⟩, _⟩, e4⟩, e5⟩, e6⟩, e7⟩ := hedge
  have g1 : (FloatKind.f64.format.order (absF old) 6850974717710472879 == some Ordering.gt) = false := (ord_gt _ _).trans e4
  have g2 : (FloatKind.f64.format.order (absF now) 6850974717710472879 == some Ordering.gt) = false := (ord_gt _ _).trans e5
  have g3 : (FloatKind.f64.format.order part 0 == some Ordering.lt) = false := (ord_lt _ _).trans e6
  have g4 : (FloatKind.f64.format.order part 4607182418800017408 == some Ordering.gt) = false := (ord_gt _ _).trans e7
  have HM := Lib.hid (fun (low high s sl lo hi : Nat) (hln : isN low = false) (hlk : key low = min (key old) (key now)) (hhn : isN high = false) (hhk : key high = max (key old) (key now)) hs hsl hlo hhi => mean_between (s := s) (sl := sl) (lo := lo) (hi := hi) h1 h2 h3 h4 h5 h6 h7 hln hlk hhn hhk hs hsl hlo hhi)
  have H4 := Lib.hid (show (key old).natAbs < 9218868437227405312 by omega)
  have H5 := Lib.hid (show (key now).natAbs < 9218868437227405312 by omega)
  have H1 := Lib.hid h1
  have H2 := Lib.hid h2
  clear e4 e5 e6 e7 h4 h5 h6 h7 h
  rcases hw with ⟨z, e, o⟩ | ⟨z, o, e0, e⟩ | ⟨z, o, e0⟩ | ⟨z, o⟩
  · have q1 : (FloatKind.f64.format.order part 0 == some Ordering.eq) = true := (ord_eq _ _).trans z
    have q2 := bne_of e
    have q3 : (FloatKind.f64.format.order part 4607182418800017408 == some Ordering.eq) = false := (ord_eq _ _).trans o
    clear z e o
    go_enter Try.func8, Try.ntmps8
    go_wp2_with (first | (go_at_call 15; (with_reducible refine (awake_any _).mono ?_); rintro e w1 ⟨rfl, hb⟩; have HB := Lib.hid hb; clear hb) | (go_at_call 11; refine (mean_any _ _ _ _).mono ?_; rintro e w' ⟨k, rfl, rfl⟩) | (go_at_call 25; refine (isnan_any _ _).mono ?_; rintro e w' ⟨rfl, rfl⟩) | (go_at_call 26; refine (abs_any _ ho _).mono ?_; rintro e w' ⟨rfl, rfl⟩) | (go_at_call 26; refine (abs_any _ hn _).mono ?_; rintro e w' ⟨rfl, rfl⟩))
    refine (min_any old now H4.out H5.out H1.out H2.out _).mono ?_
    rintro e w' ⟨low, hln, hlk, rfl, rfl⟩
    have HL := Lib.hid hln
    have HK := Lib.hid hlk
    clear hln hlk
    go_wp2_with fail
    refine (max_any old now H4.out H5.out H1.out H2.out _).mono ?_
    rintro e w' ⟨high, hhn, hhk, rfl, rfl⟩
    obtain ⟨s, n1, aso, fs⟩ := arith_step (P := Try.prog) .add (by simp) 22 (absF old) (absF now) (w1.drewN k)
    obtain ⟨sl, n2, asl, fsl⟩ := arith_step (P := Try.prog) .mul (by simp) 22 4472406533629990549 s ((w1.drewN k).drewN n1)
    obtain ⟨lo, n3, alo, flo⟩ := arith_step (P := Try.prog) .sub (by simp) 22 low sl (((w1.drewN k).drewN n1).drewN n2)
    obtain ⟨hi, n4, ahi, fhi⟩ := arith_step (P := Try.prog) .add (by simp) 22 high sl ((((w1.drewN k).drewN n1).drewN n2).drewN n3)
    simp only [World.drewN_drewN] at aso asl alo ahi
    obtain ⟨r1, r2⟩ := HM.out low high s sl lo hi HL.out HK.out hhn hhk fs fsl flo fhi
    have t1 := (ord_ge _ _).trans r1
    have t2 := (ord_le _ _).trans r2
    have u1 : (FloatKind.f64.format.order (meanF old now part) lo == some Ordering.gt || FloatKind.f64.format.order (meanF old now part) lo == some Ordering.eq) = true := t1
    have u2 : (FloatKind.f64.format.order (meanF old now part) hi == some Ordering.lt || FloatKind.f64.format.order (meanF old now part) hi == some Ordering.eq) = true := t2
    clear fs fsl flo fhi r1 r2 t1 t2 hhn hhk
    go_wp2_with (first | (go_at_call 26; refine (abs_any _ ho _).mono ?_; rintro e w' ⟨rfl, rfl⟩) | (go_at_call 26; refine (abs_any _ hn _).mono ?_; rintro e w' ⟨rfl, rfl⟩))
    go_ret
    exact ⟨rfl, below_drewN HB.out _⟩
  · have q1 : (FloatKind.f64.format.order part 0 == some Ordering.eq) = false := (ord_eq _ _).trans z
    have q2 := bne_of e
    have q3 : (FloatKind.f64.format.order part 4607182418800017408 == some Ordering.eq) = true := (ord_eq _ _).trans o
    have q4 : (FloatKind.f64.format.order old 0 == some Ordering.eq) = true := (ord_eq _ _).trans e0
    clear z e o e0
    go_enter Try.func8, Try.ntmps8
    go_wp2_with (first | (go_at_call 15; (with_reducible refine (awake_any _).mono ?_); rintro e w1 ⟨rfl, hb⟩; have HB := Lib.hid hb; clear hb) | (go_at_call 11; refine (mean_any _ _ _ _).mono ?_; rintro e w' ⟨k, rfl, rfl⟩) | (go_at_call 25; refine (isnan_any _ _).mono ?_; rintro e w' ⟨rfl, rfl⟩) | (go_at_call 26; refine (abs_any _ ho _).mono ?_; rintro e w' ⟨rfl, rfl⟩) | (go_at_call 26; refine (abs_any _ hn _).mono ?_; rintro e w' ⟨rfl, rfl⟩))
    refine (min_any old now H4.out H5.out H1.out H2.out _).mono ?_
    rintro e w' ⟨low, hln, hlk, rfl, rfl⟩
    have HL := Lib.hid hln
    have HK := Lib.hid hlk
    clear hln hlk
    go_wp2_with fail
    refine (max_any old now H4.out H5.out H1.out H2.out _).mono ?_
    rintro e w' ⟨high, hhn, hhk, rfl, rfl⟩
    obtain ⟨s, n1, aso, fs⟩ := arith_step (P := Try.prog) .add (by simp) 22 (absF old) (absF now) (w1.drewN k)
    obtain ⟨sl, n2, asl, fsl⟩ := arith_step (P := Try.prog) .mul (by simp) 22 4472406533629990549 s ((w1.drewN k).drewN n1)
    obtain ⟨lo, n3, alo, flo⟩ := arith_step (P := Try.prog) .sub (by simp) 22 low sl (((w1.drewN k).drewN n1).drewN n2)
    obtain ⟨hi, n4, ahi, fhi⟩ := arith_step (P := Try.prog) .add (by simp) 22 high sl ((((w1.drewN k).drewN n1).drewN n2).drewN n3)
    simp only [World.drewN_drewN] at aso asl alo ahi
    obtain ⟨r1, r2⟩ := HM.out low high s sl lo hi HL.out HK.out hhn hhk fs fsl flo fhi
    have t1 := (ord_ge _ _).trans r1
    have t2 := (ord_le _ _).trans r2
    have u1 : (FloatKind.f64.format.order (meanF old now part) lo == some Ordering.gt || FloatKind.f64.format.order (meanF old now part) lo == some Ordering.eq) = true := t1
    have u2 : (FloatKind.f64.format.order (meanF old now part) hi == some Ordering.lt || FloatKind.f64.format.order (meanF old now part) hi == some Ordering.eq) = true := t2
    clear fs fsl flo fhi r1 r2 t1 t2 hhn hhk
    go_wp2_with (first | (go_at_call 26; refine (abs_any _ ho _).mono ?_; rintro e w' ⟨rfl, rfl⟩) | (go_at_call 26; refine (abs_any _ hn _).mono ?_; rintro e w' ⟨rfl, rfl⟩))
    go_ret
    exact ⟨rfl, below_drewN HB.out _⟩
  · have q1 : (FloatKind.f64.format.order part 0 == some Ordering.eq) = false := (ord_eq _ _).trans z
    have q3 : (FloatKind.f64.format.order part 4607182418800017408 == some Ordering.eq) = true := (ord_eq _ _).trans o
    have q4 : (FloatKind.f64.format.order old 0 == some Ordering.eq) = false := (ord_eq _ _).trans e0
    clear z o e0
    go_enter Try.func8, Try.ntmps8
    go_wp2_with (first | (go_at_call 15; (with_reducible refine (awake_any _).mono ?_); rintro e w1 ⟨rfl, hb⟩; have HB := Lib.hid hb; clear hb) | (go_at_call 11; refine (mean_any _ _ _ _).mono ?_; rintro e w' ⟨k, rfl, rfl⟩) | (go_at_call 25; refine (isnan_any _ _).mono ?_; rintro e w' ⟨rfl, rfl⟩) | (go_at_call 26; refine (abs_any _ ho _).mono ?_; rintro e w' ⟨rfl, rfl⟩) | (go_at_call 26; refine (abs_any _ hn _).mono ?_; rintro e w' ⟨rfl, rfl⟩))
    refine (min_any old now H4.out H5.out H1.out H2.out _).mono ?_
    rintro e w' ⟨low, hln, hlk, rfl, rfl⟩
    have HL := Lib.hid hln
    have HK := Lib.hid hlk
    clear hln hlk
    go_wp2_with fail
    refine (max_any old now H4.out H5.out H1.out H2.out _).mono ?_
    rintro e w' ⟨high, hhn, hhk, rfl, rfl⟩
    obtain ⟨s, n1, aso, fs⟩ := arith_step (P := Try.prog) .add (by simp) 22 (absF old) (absF now) (w1.drewN k)
    obtain ⟨sl, n2, asl, fsl⟩ := arith_step (P := Try.prog) .mul (by simp) 22 4472406533629990549 s ((w1.drewN k).drewN n1)
    obtain ⟨lo, n3, alo, flo⟩ := arith_step (P := Try.prog) .sub (by simp) 22 low sl (((w1.drewN k).drewN n1).drewN n2)
    obtain ⟨hi, n4, ahi, fhi⟩ := arith_step (P := Try.prog) .add (by simp) 22 high sl ((((w1.drewN k).drewN n1).drewN n2).drewN n3)
    simp only [World.drewN_drewN] at aso asl alo ahi
    obtain ⟨r1, r2⟩ := HM.out low high s sl lo hi HL.out HK.out hhn hhk fs fsl flo fhi
    have t1 := (ord_ge _ _).trans r1
    have t2 := (ord_le _ _).trans r2
    have u1 : (FloatKind.f64.format.order (meanF old now part) lo == some Ordering.gt || FloatKind.f64.format.order (meanF old now part) lo == some Ordering.eq) = true := t1
    have u2 : (FloatKind.f64.format.order (meanF old now part) hi == some Ordering.lt || FloatKind.f64.format.order (meanF old now part) hi == some Ordering.eq) = true := t2
    clear fs fsl flo fhi r1 r2 t1 t2 hhn hhk
    go_wp2_with (first | (go_at_call 26; refine (abs_any _ ho _).mono ?_; rintro e w' ⟨rfl, rfl⟩) | (go_at_call 26; refine (abs_any _ hn _).mono ?_; rintro e w' ⟨rfl, rfl⟩))
    go_ret
    exact ⟨rfl, below_drewN HB.out _⟩
  · have q1 : (FloatKind.f64.format.order part 0 == some Ordering.eq) = false := (ord_eq _ _).trans z
    have q3 : (FloatKind.f64.format.order part 4607182418800017408 == some Ordering.eq) = false := (ord_eq _ _).trans o
    clear z o
    go_enter Try.func8, Try.ntmps8
    go_wp2_with (first | (go_at_call 15; (with_reducible refine (awake_any _).mono ?_); rintro e w1 ⟨rfl, hb⟩; have HB := Lib.hid hb; clear hb) | (go_at_call 11; refine (mean_any _ _ _ _).mono ?_; rintro e w' ⟨k, rfl, rfl⟩) | (go_at_call 25; refine (isnan_any _ _).mono ?_; rintro e w' ⟨rfl, rfl⟩) | (go_at_call 26; refine (abs_any _ ho _).mono ?_; rintro e w' ⟨rfl, rfl⟩) | (go_at_call 26; refine (abs_any _ hn _).mono ?_; rintro e w' ⟨rfl, rfl⟩))
    refine (min_any old now H4.out H5.out H1.out H2.out _).mono ?_
    rintro e w' ⟨low, hln, hlk, rfl, rfl⟩
    have HL := Lib.hid hln
    have HK := Lib.hid hlk
    clear hln hlk
    go_wp2_with fail
    refine (max_any old now H4.out H5.out H1.out H2.out _).mono ?_
    rintro e w' ⟨high, hhn, hhk, rfl, rfl⟩
    obtain ⟨s, n1, aso, fs⟩ := arith_step (P := Try.prog) .add (by simp) 22 (absF old) (absF now) (w1.drewN k)
    obtain ⟨sl, n2, asl, fsl⟩ := arith_step (P := Try.prog) .mul (by simp) 22 4472406533629990549 s ((w1.drewN k).drewN n1)
    obtain ⟨lo, n3, alo, flo⟩ := arith_step (P := Try.prog) .sub (by simp) 22 low sl (((w1.drewN k).drewN n1).drewN n2)
    obtain ⟨hi, n4, ahi, fhi⟩ := arith_step (P := Try.prog) .add (by simp) 22 high sl ((((w1.drewN k).drewN n1).drewN n2).drewN n3)
    simp only [World.drewN_drewN] at aso asl alo ahi
    obtain ⟨r1, r2⟩ := HM.out low high s sl lo hi HL.out HK.out hhn hhk fs fsl flo fhi
    have t1 := (ord_ge _ _).trans r1
    have t2 := (ord_le _ _).trans r2
    have u1 : (FloatKind.f64.format.order (meanF old now part) lo == some Ordering.gt || FloatKind.f64.format.order (meanF old now part) lo == some Ordering.eq) = true := t1
    have u2 : (FloatKind.f64.format.order (meanF old now part) hi == some Ordering.lt || FloatKind.f64.format.order (meanF old now part) hi == some Ordering.eq) = true := t2
    clear fs fsl flo fhi r1 r2 t1 t2 hhn hhk
    go_wp2_with (first | (go_at_call 26; refine (abs_any _ ho _).mono ?_; rintro e w' ⟨rfl, rfl⟩) | (go_at_call 26; refine (abs_any _ hn _).mono ?_; rintro e w' ⟨rfl, rfl⟩))
    go_ret
    exact ⟨rfl, below_drewN HB.out _⟩

theorem between_any (old now part : Nat) (ho : old < 18446744073709551616) (hn : now < 18446744073709551616) (w : World) : Calls Try.prog 8 #[.float .f64 old, .float .f64 now, .float .f64 part] w (YesB w) := by
  cases h : edgeB old now part with
  | true => exact between_edge old now part ho hn h w
  | false => exact between_plain old now part ho hn h w

end Go.Proofs.Ytonjjblifcgapaa
