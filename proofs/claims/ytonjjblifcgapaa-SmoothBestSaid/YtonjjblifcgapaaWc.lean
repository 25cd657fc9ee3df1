/-
  Walks over Ceil, Wait (the program's and the reference's), Min and Max.
-/
import Derived.Test.YtonjjblifcgapaaWb
namespace Go.Proofs.Ytonjjblifcgapaa
open Go.RowKit
set_option linter.unusedVariables false

/-! ### Ceil -/

theorem decode_read (x : Nat) : FloatKind.f64.decode x = Ieee.double.read x := rfl

theorem x40_num (x : Nat) (h : isN x = false) (w : World) : (callFunc 40 #[.float .f64 x]).run Try.prog w = .ok (.value (.float .f64 (ceilW x))) w := by
  rw [run_callFunc_extern Try.func40 (by kernel_rfl) (by kernel_rfl) (by kernel_rfl) (e := Extern.MathFloor.toIntegral "math.archCeil" .up) (by kernel_rfl)]
  have told : ∀ d, FloatKind.f64.decode x = d → Fine d → (Extern.MathFloor.toIntegral "math.archCeil" .up #[.float .f64 x]).run Try.prog w = .ok (.float .f64 (Ieee.double.write (d.integral .up))) w := by
    intro d e hd
    conv => lhs; arg 2; whnf
    rw [e]
    cases d with
    | nan s f => exact hd.elim
    | number s m p => rfl
    | infinity s => rfl
  rw [told _ rfl (read_fine h).1]
  rfl

theorem quiet_word (s : Bool) (t : Nat) : isN (Ieee.double.write (.nan s (Ieee.double.quiet t))) = true := by
  show isN (Ieee.double.word s (Ieee.double.infRung + (t ||| 2 ^ 51) % Ieee.double.binade)) = true
  have h1 : 2251799813685248 ≤ (t ||| 2 ^ 51) % 4503599627370496 := by
    have e : (t ||| 2 ^ 51) % 2 ^ 52 = t % 2 ^ 52 ||| 2 ^ 51 % 2 ^ 52 := Nat.or_mod_two_pow
    have e2 : (4503599627370496 : Nat) = 2 ^ 52 := by decide
    rw [e2, e]
    exact Nat.le_trans (by decide) (Nat.right_le_or (n := t % 2 ^ 52) (m := 2 ^ 51 % 2 ^ 52))
  have h2 : (t ||| 2 ^ 51) % 4503599627370496 < 4503599627370496 := Nat.mod_lt _ (by decide)
  rw [d_bin, d_inf]
  generalize (t ||| 2 ^ 51) % 4503599627370496 = a at *
  unfold Ieee.Format.word isN
  rw [d_sw]
  simp only [decide_eq_true_eq]
  cases s
  · simp only [Bool.false_eq_true, if_false]; omega
  · simp only [if_true]; omega

theorem x40_nan (x : Nat) (h : isN x = true) (w : World) : ∃ r n, (callFunc 40 #[.float .f64 x]).run Try.prog w = .ok (.value (.float .f64 r)) (w.drewN n) ∧ isN r = true := by
  rw [run_callFunc_extern Try.func40 (by kernel_rfl) (by kernel_rfl) (by kernel_rfl) (e := Extern.MathFloor.toIntegral "math.archCeil" .up) (by kernel_rfl)]
  obtain ⟨s, t, e⟩ := read_nan h
  have e' : FloatKind.f64.decode x = .nan s t := e
  have told : ∃ r n, (Extern.MathFloor.toIntegral "math.archCeil" .up #[.float .f64 x]).run Try.prog w = .ok (.float .f64 r) (w.drewN n) ∧ isN r = true := by
    by_cases hq : FloatKind.f64.format.quiet t = t
    · refine ⟨x, 0, ?_, h⟩
      conv => lhs; arg 2; whnf
      rw [e']
      dsimp only
      rw [if_pos hq]; rfl
    · refine ⟨?r, 1, ?_, ?_⟩
      rotate_left
      · conv => lhs; arg 2; whnf
        rw [e']
        dsimp only
        rw [if_neg hq]; rfl
      · split
        · exact h
        · exact quiet_word s t
  obtain ⟨r, n, hr, hn⟩ := told
  exact ⟨r, n, by rw [hr]; rfl, hn⟩

set_option maxHeartbeats 400000 in
theorem ceil_any (x : Nat) (h : isN x = false) (w : World) : Calls Try.prog 31 #[.float .f64 x] w fun e w' => e = .returned (.float .f64 (ceilW x)) ∧ w = w' := by
  have X := x40_num x h
  go_enter Try.func31, Try.ntmps31
  go_wp2
  go_ret
  exact ⟨rfl, rfl⟩

def SomeNaN (w : World) (e : Ending) (w' : World) : Prop := ∃ r n, isN r = true ∧ e = .returned (.float .f64 r) ∧ w' = w.drewN n

set_option maxHeartbeats 400000 in
theorem ceil_nan (x : Nat) (h : isN x = true) (w : World) : Calls Try.prog 31 #[.float .f64 x] w (SomeNaN w) := by
  obtain ⟨r, n, hr, hn⟩ := x40_nan x h w
  have HN := Lib.hid hn
  clear hn
  go_enter Try.func31, Try.ntmps31
  go_wp2
  go_ret
  exact ⟨_, _, HN.out, rfl, rfl⟩

/-! ### min and max of floats, as Wait calls them -/

theorem min_num {P : Program} {x y : Nat} (hx : isN x = false) (hy : isN y = false) :
    ∃ u, (∀ ts t w, (Builtin.min_ ts t #[.float .f64 x, .float .f64 y]).run P w = .ok (.float .f64 u) w) ∧ isN u = false ∧ key u = min (key x) (key y) := by
  have ho := order_words hx hy
  rw [cmp_int] at ho
  by_cases h1 : key x < key y
  · rw [if_pos h1] at ho
    exact ⟨x, fun ts t w => by simp [Builtin.min_, Builtin.min2, fmt_order, ho], hx, by omega⟩
  · rw [if_neg h1] at ho
    by_cases h2 : key x = key y
    · rw [if_pos h2] at ho
      refine ⟨if (FloatKind.f64.decode x).neg then x else y, fun ts t w => by simp [Builtin.min_, Builtin.min2, fmt_order, ho], ?_, ?_⟩
      · split <;> assumption
      · split <;> omega
    · rw [if_neg h2] at ho
      exact ⟨y, fun ts t w => by simp [Builtin.min_, Builtin.min2, fmt_order, ho], hy, by omega⟩

theorem max_num {P : Program} {x y : Nat} (hx : isN x = false) (hy : isN y = false) :
    ∃ u, (∀ ts t w, (Builtin.max_ ts t #[.float .f64 x, .float .f64 y]).run P w = .ok (.float .f64 u) w) ∧ isN u = false ∧ key u = max (key x) (key y) := by
  have ho := order_words hx hy
  rw [cmp_int] at ho
  by_cases h1 : key x < key y
  · rw [if_pos h1] at ho
    exact ⟨y, fun ts t w => by simp [Builtin.max_, Builtin.max2, fmt_order, ho], hy, by omega⟩
  · rw [if_neg h1] at ho
    by_cases h2 : key x = key y
    · rw [if_pos h2] at ho
      refine ⟨if (FloatKind.f64.decode x).neg then y else x, fun ts t w => by simp [Builtin.max_, Builtin.max2, fmt_order, ho], ?_, ?_⟩
      · split <;> assumption
      · split <;> omega
    · rw [if_neg h2] at ho
      exact ⟨x, fun ts t w => by simp [Builtin.max_, Builtin.max2, fmt_order, ho], hx, by omega⟩

theorem min_nan {P : Program} {x y : Nat} (h : (isN x || isN y) = true) (w : World) :
    ∃ u, (∀ ts t, (Builtin.min_ ts t #[.float .f64 x, .float .f64 y]).run P w = .ok (.float .f64 u) (w.drewN 1)) ∧ isN u = true := by
  refine ⟨_, fun ts t => ?_, nan_least false x y (w.tape w.drawn (.nanMinMax .f64 false x y))⟩
  simp [Builtin.min_, Builtin.min2, fmt_order, order_nan h, choose, Sem.run, Question.forced]
  rfl

theorem max_nan {P : Program} {x y : Nat} (h : (isN x || isN y) = true) (w : World) :
    ∃ u, (∀ ts t, (Builtin.max_ ts t #[.float .f64 x, .float .f64 y]).run P w = .ok (.float .f64 u) (w.drewN 1)) ∧ isN u = true := by
  refine ⟨_, fun ts t => ?_, nan_least true x y (w.tape w.drawn (.nanMinMax .f64 true x y))⟩
  simp [Builtin.max_, Builtin.max2, fmt_order, order_nan h, choose, Sem.run, Question.forced]
  rfl

/-! ### Wait -/

def TellsI (x : Int) (w : World) (e : Ending) (w' : World) : Prop := ∃ n, e = .returned (.int .i64 x) ∧ w' = w.drewN n
theorem tellsI_mk {a x : Int} {w : World} {n : Nat} (h : a = x) : TellsI x w (.returned (.int .i64 a)) (w.drewN n) := ⟨n, by rw [h], rfl⟩

theorem toInt_val {v : Nat} {c : Int} (hf : (key v).natAbs < 9218868437227405312) (hv : V (key v) = c * (sc : Int)) (h0 : 0 ≤ c) (h1 : c ≤ 100) : floatToIntVal .f64 v .i64 = some c := by
  have := toInt_facts hf hv
  unfold floatToIntVal
  rw [decode_read, this]
  have h2 : IntKind.i64.min ≤ c ∧ c ≤ IntKind.i64.max := ⟨Int.le_trans (by decide) h0, Int.le_trans h1 (by decide)⟩
  dsimp only
  rw [if_pos h2]

theorem cut_val {x u v : Nat} (hx : isN x = false) (hu : key u = min (key (ceilW x)) 4633641066610819072) (hv : key v = max 4611686018427387904 (key u)) :
    floatToIntVal .f64 v .i64 = some (waitI (key x)) := by
  obtain ⟨_, _, a, b, c⟩ := ceil_word hx
  have hw := waitI_bd (key x)
  have h : (key v).natAbs < 9218868437227405312 ∧ V (key v) = waitI (key x) * (sc : Int) := by
    unfold waitI
    generalize cl (V (key x)) = q at *
    by_cases h1 : 60 ≤ q
    · have := a h1
      have e : key v = 4633641066610819072 := by omega
      have e2 : max 2 (min 60 q) = 60 := by omega
      rw [e, e2]
      exact ⟨by decide, V60⟩
    · by_cases h2 : q ≤ 2
      · have := b h2
        have e : key v = 4611686018427387904 := by omega
        have e2 : max 2 (min 60 q) = 2 := by omega
        rw [e, e2]
        exact ⟨by decide, V2⟩
      · obtain ⟨e1, e2⟩ := c (by omega) (by omega)
        have hsc := sc_pos
        have g1 : 4611686018427387904 < key (ceilW x) := V_lt_iff.mp (by rw [V2, e1]; exact Int.mul_lt_mul_of_pos_right (by omega) (by omega))
        have g2 : key (ceilW x) < 4633641066610819072 := V_lt_iff.mp (by rw [V60, e1]; exact Int.mul_lt_mul_of_pos_right (by omega) (by omega))
        have e : key v = key (ceilW x) := by omega
        have e3 : max 2 (min 60 q) = q := by omega
        rw [e, e3]
        exact ⟨e2, e1⟩
  exact toInt_val h.1 h.2 (by omega) (by omega)

/-- 'max(2, min(r, 60))' of a NaN is one. -/
theorem nan_steps {P : Program} (r : Nat) (hr : isN r = true) (w : World) :
    ∃ u v, (∀ ts t, (Builtin.min_ ts t #[.float .f64 r, .float .f64 4633641066610819072]).run P w = .ok (.float .f64 u) (w.drewN 1)) ∧
      (∀ ts t, (Builtin.max_ ts t #[.float .f64 4611686018427387904, .float .f64 u]).run P (w.drewN 1) = .ok (.float .f64 v) ((w.drewN 1).drewN 1)) ∧ isN v = true := by
  obtain ⟨u, hu, un⟩ := min_nan (P := P) (x := r) (y := 4633641066610819072) (by simp [hr]) w
  obtain ⟨v, hv, vn⟩ := max_nan (P := P) (x := 4611686018427387904) (y := u) (by simp [un]) (w.drewN 1)
  exact ⟨u, v, hu, hv, vn⟩

set_option maxHeartbeats 1000000 in
theorem wait_any (mean spread : Nat) (w : World) : Calls Try.prog 20 #[.float .f64 mean, .float .f64 spread] w (TellsI (waitV mean spread) w) := by
  obtain ⟨p, n1, hp, fp⟩ := arith_step (P := Try.prog) .mul (by simp) 22 4616189618054758400 spread w
  obtain ⟨x, n2, hx, fx⟩ := arith_step (P := Try.prog) .add (by simp) 22 mean p (w.drewN n1)
  simp only [World.drewN_drewN] at hx
  obtain ⟨s1, s2⟩ := wait_steps fp fx
  clear fp fx
  cases hn : isN x with
  | true =>
    have HF := Lib.hid (s1 hn).symm
    have HN := Lib.hid hn
    clear s1 s2 hn
    go_enter Try.func20, Try.ntmps20
    go_wp2_with (first | (go_at_call 31; refine (ceil_nan _ HN.out _).mono ?_; rintro e w' ⟨r, k, hr, rfl, rfl⟩; obtain ⟨u, v, hu, hv, un⟩ := nan_steps (P := Try.prog) r hr (w.drewN (n1 + n2 + k)); simp only [World.drewN_drewN] at hu hv; clear hr) | (go_at_call 30; refine (sisnan_any _ _).mono ?_; rintro e w' ⟨rfl, rfl⟩))
    go_ret
    exact tellsI_mk HF.out
  | false =>
    have HF := Lib.hid (s2 hn).symm
    obtain ⟨c1, c2, _⟩ := ceil_word hn
    obtain ⟨u, hu, un, uk⟩ := min_num (P := Try.prog) c1 k60.2
    obtain ⟨v, hv, vn, vk⟩ := max_num (P := Try.prog) k2.2 un
    rw [k60.1] at uk
    rw [k2.1] at vk
    have hc := fun w => run_convert_float_int (P := Try.prog) w 22 3 .f64 .i64 v _ (by kernel_rfl) (by kernel_rfl) (cut_val hn uk vk)
    have HN := Lib.hid hn
    clear s1 s2 hn c1 c2 un uk vk
    go_enter Try.func20, Try.ntmps20
    go_wp2_with (first | (go_at_call 31; refine (ceil_any _ HN.out _).mono ?_; rintro e w' ⟨rfl, rfl⟩) | (go_at_call 30; refine (sisnan_any _ _).mono ?_; rintro e w' ⟨rfl, rfl⟩))
    go_ret
    exact tellsI_mk HF.out

/-- How the reference parts: by the word that Ceil gives. -/
theorem ref_parts {x : Nat} (hx : isN x = false) :
    (geB (ceilW x) 4633641066610819072 = true ∧ waitI (key x) = 60) ∨
    (geB (ceilW x) 4633641066610819072 = false ∧ leB (ceilW x) 4611686018427387904 = true ∧ waitI (key x) = 2) ∨
    (geB (ceilW x) 4633641066610819072 = false ∧ leB (ceilW x) 4611686018427387904 = false ∧ floatToIntVal .f64 (ceilW x) .i64 = some (waitI (key x))) := by
  obtain ⟨n, _, a, b, c⟩ := ceil_word hx
  have hg : geB (ceilW x) 4633641066610819072 = true ↔ 4633641066610819072 ≤ key (ceilW x) := by
    rw [ge_key, k60.1]; exact ⟨fun h => h.2.2, fun h => ⟨n, k60.2, h⟩⟩
  have hl : leB (ceilW x) 4611686018427387904 = true ↔ key (ceilW x) ≤ 4611686018427387904 := by
    rw [le_key, k2.1]; exact ⟨fun h => h.2.2, fun h => ⟨n, k2.2, h⟩⟩
  have hsc := sc_pos
  unfold waitI
  generalize cl (V (key x)) = q at *
  by_cases h1 : 60 ≤ q
  · exact .inl ⟨hg.mpr (a h1), by omega⟩
  · by_cases h2 : q ≤ 2
    · have := b h2
      exact .inr (.inl ⟨by rw [Bool.eq_false_iff, Ne, hg]; omega, hl.mpr this, by omega⟩)
    · obtain ⟨e1, e2⟩ := c (by omega) (by omega)
      have g1 : 4611686018427387904 < key (ceilW x) := V_lt_iff.mp (by rw [V2, e1]; exact Int.mul_lt_mul_of_pos_right (by omega) (by omega))
      have g2 : key (ceilW x) < 4633641066610819072 := V_lt_iff.mp (by rw [V60, e1]; exact Int.mul_lt_mul_of_pos_right (by omega) (by omega))
      have e3 : max 2 (min 60 q) = q := by omega
      rw [e3]
      exact .inr (.inr ⟨by rw [Bool.eq_false_iff, Ne, hg]; omega, by rw [Bool.eq_false_iff, Ne, hl]; omega, toInt_val e2 e1 (by omega) (by omega)⟩)

set_option maxHeartbeats 1000000 in
theorem rwait_any (mean spread : Nat) (w : World) : Calls Try.prog 21 #[.float .f64 mean, .float .f64 spread] w (TellsI (waitV mean spread) w) := by
  obtain ⟨p, n1, hp, fp⟩ := arith_step (P := Try.prog) .mul (by simp) 22 4616189618054758400 spread w
  obtain ⟨x, n2, hx, fx⟩ := arith_step (P := Try.prog) .add (by simp) 22 mean p (w.drewN n1)
  simp only [World.drewN_drewN] at hx
  obtain ⟨s1, s2⟩ := wait_steps fp fx
  clear fp fx
  cases hn : isN x with
  | true =>
    have HF := Lib.hid (s1 hn).symm
    have HN := Lib.hid hn
    clear s1 s2 hn
    go_enter Try.func21, Try.ntmps21
    go_wp2_with (first | (go_at_call 31; refine (ceil_nan _ HN.out _).mono ?_; rintro e w' ⟨r, k, hr, rfl, rfl⟩) | (go_at_call 25; refine (isnan_any _ _).mono ?_; rintro e w' ⟨rfl, rfl⟩))
    go_ret
    exact tellsI_mk HF.out
  | false =>
    have hc := (ceil_word hn).1
    have hpt := ref_parts hn
    have HN := Lib.hid hn
    rcases hpt with ⟨h1, h2⟩ | ⟨h1, h2, h3⟩ | ⟨h1, h2, h3⟩
    · have HF := Lib.hid ((s2 hn).trans h2).symm
      have hg : (FloatKind.f64.format.order (ceilW x) 4633641066610819072 == some Ordering.gt || FloatKind.f64.format.order (ceilW x) 4633641066610819072 == some Ordering.eq) = true := (ord_ge _ _).trans h1
      clear s1 s2 hn h1 h2
      go_enter Try.func21, Try.ntmps21
      go_wp2_with (first | (go_at_call 31; refine (ceil_any _ HN.out _).mono ?_; rintro e w' ⟨rfl, rfl⟩) | (go_at_call 25; refine (isnan_any _ _).mono ?_; rintro e w' ⟨rfl, rfl⟩))
      go_ret
      exact tellsI_mk HF.out
    · have HF := Lib.hid ((s2 hn).trans h3).symm
      have hg : (FloatKind.f64.format.order (ceilW x) 4633641066610819072 == some Ordering.gt || FloatKind.f64.format.order (ceilW x) 4633641066610819072 == some Ordering.eq) = false := (ord_ge _ _).trans h1
      have hl : (FloatKind.f64.format.order (ceilW x) 4611686018427387904 == some Ordering.lt || FloatKind.f64.format.order (ceilW x) 4611686018427387904 == some Ordering.eq) = true := (ord_le _ _).trans h2
      clear s1 s2 hn h1 h2 h3
      go_enter Try.func21, Try.ntmps21
      go_wp2_with (first | (go_at_call 31; refine (ceil_any _ HN.out _).mono ?_; rintro e w' ⟨rfl, rfl⟩) | (go_at_call 25; refine (isnan_any _ _).mono ?_; rintro e w' ⟨rfl, rfl⟩))
      go_ret
      exact tellsI_mk HF.out
    · have HF := Lib.hid (s2 hn).symm
      have hg : (FloatKind.f64.format.order (ceilW x) 4633641066610819072 == some Ordering.gt || FloatKind.f64.format.order (ceilW x) 4633641066610819072 == some Ordering.eq) = false := (ord_ge _ _).trans h1
      have hl : (FloatKind.f64.format.order (ceilW x) 4611686018427387904 == some Ordering.lt || FloatKind.f64.format.order (ceilW x) 4611686018427387904 == some Ordering.eq) = false := (ord_le _ _).trans h2
      have hcv := fun w => run_convert_float_int (P := Try.prog) w 22 3 .f64 .i64 (ceilW x) _ (by kernel_rfl) (by kernel_rfl) h3
      clear s1 s2 hn h1 h2 h3
      go_enter Try.func21, Try.ntmps21
      go_wp2_with (first | (go_at_call 31; refine (ceil_any _ HN.out _).mono ?_; rintro e w' ⟨rfl, rfl⟩) | (go_at_call 25; refine (isnan_any _ _).mono ?_; rintro e w' ⟨rfl, rfl⟩))
      go_ret
      exact tellsI_mk HF.out

/-! ### Min and Max, of finite words -/

theorem pick_fin {name : String} {neg : Bool} {win : Ordering} {x y : Nat} (hx : (key x).natAbs < 9218868437227405312) (hy : (key y).natAbs < 9218868437227405312) (hxn : isN x = false) (hyn : isN y = false) (hw : win = .lt ∨ win = .gt) {P : Program} :
    ∃ r, (∀ w, (Extern.MathDim.pick name neg win #[.float .f64 x, .float .f64 y]).run P w = .ok (.float .f64 r) w) ∧ (r = x ∨ r = y) ∧ (win = .lt → key r = min (key x) (key y)) ∧ (win = .gt → key r = max (key x) (key y)) := by
  obtain ⟨s, m, i, ex, vx⟩ := read_fin hx
  obtain ⟨t, n, j, ey, vy⟩ := read_fin hy
  have e0 : V 0 = 0 := by unfold V; simp [rval_zero]
  have ho : Ieee.double.order x y = _ := order_words hxn hyn
  unfold Ieee.Format.order at ho
  obtain ⟨c1, h1⟩ : ∃ c, ((Ieee.double.read x).isZero && (Ieee.double.read y).isZero) = c := ⟨_, rfl⟩
  obtain ⟨c2, h2⟩ : ∃ c, ((Ieee.double.read x).neg == neg) = c := ⟨_, rfl⟩
  obtain ⟨c3, h3⟩ : ∃ c, ((Ieee.double.read x).order (Ieee.double.read y) == some win) = c := ⟨_, rfl⟩
  have i1 : ((Ieee.double.read x == .infinity neg) || (Ieee.double.read y == .infinity neg)) = false := by rw [ex, ey]; rfl
  have i2 : ((Ieee.double.read x).isNaN || (Ieee.double.read y).isNaN) = false := by rw [ex, ey]; rfl
  have told : ∀ w, (Extern.MathDim.pick name neg win #[.float .f64 x, .float .f64 y]).run P w = .ok (.float .f64 (bif c1 then bif c2 then x else y else bif c3 then x else y)) w := by
    intro w
    conv => lhs; arg 2; whnf
    simp only [decode_read, h1, h2, h3, i1, i2]
    cases c1 <;> cases c2 <;> cases c3 <;> rfl
  -- two noughts, whatever their signs
  have hz : c1 = true → key x = 0 ∧ key y = 0 := by
    rintro rfl
    have hz' : m = 0 ∧ n = 0 := by
      rw [ex, ey] at h1
      cases m <;> cases n <;> simp [Ieee.Datum.isZero] at h1 ⊢
    obtain ⟨rfl, rfl⟩ := hz'
    exact ⟨V_inj (by rw [vx, e0]; unfold sg; simp), V_inj (by rw [vy, e0]; unfold sg; simp)⟩
  refine ⟨_, told, ?_, ?_, ?_⟩
  · cases c1 <;> cases c2 <;> cases c3 <;> simp
  · rintro rfl
    cases c1 with
    | true => obtain ⟨kx, ky⟩ := hz rfl; cases c2 <;> simp only [cond_true, cond_false] <;> omega
    | false =>
      rw [ho, cmp_int] at h3
      by_cases g1 : key x < key y
      · rw [if_pos g1] at h3; subst h3; simp only [cond_false]; show key x = _; omega
      · by_cases g2 : key x = key y
        · cases c3 <;> simp only [cond_true, cond_false] <;> omega
        · rw [if_neg g1, if_neg g2] at h3; subst h3; simp only [cond_false]; show key y = _; omega
  · rintro rfl
    cases c1 with
    | true => obtain ⟨kx, ky⟩ := hz rfl; cases c2 <;> simp only [cond_true, cond_false] <;> omega
    | false =>
      rw [ho, cmp_int] at h3
      by_cases g1 : key x < key y
      · rw [if_pos g1] at h3; subst h3; simp only [cond_false]; show key y = _; omega
      · by_cases g2 : key x = key y
        · cases c3 <;> simp only [cond_true, cond_false] <;> omega
        · rw [if_neg g1, if_neg g2] at h3; subst h3; simp only [cond_false]; show key x = _; omega

/-- One of two words is told. -/
def TellsMin (x y : Nat) (w : World) (e : Ending) (w' : World) : Prop := ∃ r, isN r = false ∧ key r = min (key x) (key y) ∧ e = .returned (.float .f64 r) ∧ w = w'
def TellsMax (x y : Nat) (w : World) (e : Ending) (w' : World) : Prop := ∃ r, isN r = false ∧ key r = max (key x) (key y) ∧ e = .returned (.float .f64 r) ∧ w = w'

set_option maxHeartbeats 400000 in
theorem min_any (x y : Nat) (hx : (key x).natAbs < 9218868437227405312) (hy : (key y).natAbs < 9218868437227405312) (hxn : isN x = false) (hyn : isN y = false) (w : World) :
    Calls Try.prog 27 #[.float .f64 x, .float .f64 y] w (TellsMin x y w) := by
  obtain ⟨r, hr, hxy, hk, _⟩ := pick_fin (name := "math.archMin") (neg := true) (win := .lt) (P := Try.prog) hx hy hxn hyn (.inl rfl)
  have X : ∀ w, (callFunc 36 #[.float .f64 x, .float .f64 y]).run Try.prog w = .ok (.value (.float .f64 r)) w := fun w => by
    rw [run_callFunc_extern Try.func36 (by kernel_rfl) (by kernel_rfl) (by kernel_rfl) (e := Extern.MathDim.pick "math.archMin" true .lt) (by kernel_rfl), hr w]; rfl
  have hrn : isN r = false := by rcases hxy with rfl | rfl <;> assumption
  have HR := Lib.hid hrn
  have HK := Lib.hid (hk rfl)
  clear hr hk hxy hrn hx hy hxn hyn
  go_enter Try.func27, Try.ntmps27
  go_wp2
  go_ret
  exact ⟨r, HR.out, HK.out, rfl, rfl⟩

set_option maxHeartbeats 400000 in
theorem max_any (x y : Nat) (hx : (key x).natAbs < 9218868437227405312) (hy : (key y).natAbs < 9218868437227405312) (hxn : isN x = false) (hyn : isN y = false) (w : World) :
    Calls Try.prog 28 #[.float .f64 x, .float .f64 y] w (TellsMax x y w) := by
  obtain ⟨r, hr, hxy, _, hk⟩ := pick_fin (name := "math.archMax") (neg := false) (win := .gt) (P := Try.prog) hx hy hxn hyn (.inr rfl)
  have X : ∀ w, (callFunc 38 #[.float .f64 x, .float .f64 y]).run Try.prog w = .ok (.value (.float .f64 r)) w := fun w => by
    rw [run_callFunc_extern Try.func38 (by kernel_rfl) (by kernel_rfl) (by kernel_rfl) (e := Extern.MathDim.pick "math.archMax" false .gt) (by kernel_rfl), hr w]; rfl
  have hrn : isN r = false := by rcases hxy with rfl | rfl <;> assumption
  have HR := Lib.hid hrn
  have HK := Lib.hid (hk rfl)
  clear hr hk hxy hrn hx hy hxn hyn
  go_enter Try.func28, Try.ntmps28
  go_wp2
  go_ret
  exact ⟨r, HR.out, HK.out, rfl, rfl⟩

end Go.Proofs.Ytonjjblifcgapaa
