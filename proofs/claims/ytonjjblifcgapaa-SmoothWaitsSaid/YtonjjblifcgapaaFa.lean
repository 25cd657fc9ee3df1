import Derived.Laws.FloatArith
namespace Go.Proofs.Ytonjjblifcgapaa
set_option linter.unusedVariables false

/-! ### Rungs and their values, in units of 2^-1074 -/

def rval (r : Nat) : Nat := if r < 4503599627370496 then r else (4503599627370496 + r % 4503599627370496) * 2 ^ (r / 4503599627370496 - 1)

theorem rval_small {r : Nat} (h : r < 4503599627370496) : rval r = r := by unfold rval; rw [if_pos h]

theorem rval_big {r q t : Nat} (ht : t < 4503599627370496) (hr : r = (q + 1) * 4503599627370496 + t) : rval r = (4503599627370496 + t) * 2 ^ q := by
  unfold rval
  rw [if_neg (by omega)]
  have h1 : r % 4503599627370496 = t := by omega
  have h2 : r / 4503599627370496 - 1 = q := by omega
  rw [h1, h2]

theorem rung_big {r : Nat} (h : 4503599627370496 ≤ r) : ∃ q t, t < 4503599627370496 ∧ r = (q + 1) * 4503599627370496 + t :=
  ⟨r / 4503599627370496 - 1, r % 4503599627370496, by omega, by omega⟩

/-- The next rung's value is at most a 2^52th part more, or one more. -/
theorem rval_step (r : Nat) : ∃ g, 0 < g ∧ rval (r + 1) = rval r + g ∧ (g = 1 ∨ 4503599627370496 * g ≤ rval r) := by
  by_cases h : r < 4503599627370496
  · refine ⟨1, by omega, ?_, .inl rfl⟩
    rw [rval_small h]
    by_cases h' : r + 1 < 4503599627370496
    · rw [rval_small h']
    · rw [rval_big (q := 0) (t := 0) (by omega) (by omega)]; omega
  · obtain ⟨q, t, ht, hr⟩ := rung_big (Nat.le_of_not_lt h)
    have hp : 0 < 2 ^ q := Nat.two_pow_pos _
    rw [rval_big ht hr]
    refine ⟨2 ^ q, hp, ?_, .inr ?_⟩
    · by_cases h' : t + 1 < 4503599627370496
      · rw [rval_big (q := q) (t := t + 1) h' (by omega), ← Nat.add_assoc, Nat.add_mul _ 1, Nat.one_mul]
      · rw [rval_big (q := q + 1) (t := 0) (by omega) (by omega), Nat.pow_succ]
        generalize 2 ^ q = g
        have : t = 4503599627370495 := by omega
        subst this
        omega
    · exact Nat.mul_le_mul_right _ (by omega)

theorem rval_lt_succ (r : Nat) : rval r < rval (r + 1) := by
  obtain ⟨g, h0, h1, _⟩ := rval_step r
  omega

theorem rval_lt {r s : Nat} (h : r < s) : rval r < rval s := by
  induction s with
  | zero => omega
  | succ n ih =>
    have := rval_lt_succ n
    by_cases e : r = n
    · subst e; exact this
    · have := ih (by omega); omega

theorem rval_le {r s : Nat} (h : r ≤ s) : rval r ≤ rval s := by
  by_cases e : r = s
  · subst e; exact Nat.le_refl _
  · exact Nat.le_of_lt (rval_lt (by omega))

theorem rval_lt_iff {r s : Nat} : rval r < rval s ↔ r < s := by
  refine ⟨fun h => ?_, rval_lt⟩
  refine Nat.lt_of_not_le fun g => ?_
  have := rval_le g
  omega

theorem rval_zero : rval 0 = 0 := rval_small (by omega)

theorem rval_ge (r : Nat) : r ≤ rval r := by
  induction r with
  | zero => omega
  | succ n ih => have := rval_lt_succ n; omega

/-! ### Rounding to the nearest rung: of whole multiples of 2^-2148 -/

/-- 'N / G' to the nearest, the even one between two. -/
def he (N G : Nat) : Nat := N / G + (decide (G < 2 * (N % G)) || (G == 2 * (N % G) && (N / G) % 2 == 1)).toNat

theorem he_scale (N G c : Nat) (hc : 0 < c) : he (N * c) (G * c) = he N G := by
  unfold he
  rw [Nat.mul_div_mul_right N G hc, Nat.mul_mod_mul_right]
  have e1 : 2 * (N % G * c) = 2 * (N % G) * c := by rw [Nat.mul_assoc]
  have e2 : decide (G * c < 2 * (N % G * c)) = decide (G < 2 * (N % G)) := by
    rw [e1]; exact decide_eq_decide.mpr ⟨fun h => Nat.lt_of_mul_lt_mul_right h, fun h => Nat.mul_lt_mul_of_pos_right h hc⟩
  have e3 : (G * c == 2 * (N % G * c)) = (G == 2 * (N % G)) := by
    rw [e1, Bool.eq_iff_iff]; simp only [beq_iff_eq]
    exact ⟨fun h => Nat.eq_of_mul_eq_mul_right hc h, fun h => congrArg (· * c) h⟩
  rw [e2, e3]

theorem toNat_le (b : Bool) : b.toNat ≤ 1 := by cases b <;> decide

theorem he_mono {N M G : Nat} (h : N ≤ M) : he N G ≤ he M G := by
  unfold he
  have hq : N / G ≤ M / G := Nat.div_le_div_right h
  by_cases e : N / G = M / G
  · rw [← e]
    have hr : N % G ≤ M % G := by
      have h1 := Nat.div_add_mod N G
      have h2 := Nat.div_add_mod M G
      rw [← e] at h2
      omega
    refine Nat.add_le_add_left ?_ _
    by_cases a : G < 2 * (N % G)
    · have : G < 2 * (M % G) := by omega
      simp [a, this]
    · by_cases b : G = 2 * (N % G)
      · by_cases c : G < 2 * (M % G)
        · have := toNat_le (decide (G < 2 * (N % G)) || (G == 2 * (N % G) && (N / G) % 2 == 1))
          simp only [c, decide_true, Bool.true_or, Bool.toNat_true]
          exact this
        · have : 2 * (M % G) = G := by omega
          have e2 : N % G = M % G := by omega
          rw [e2]; exact Nat.le_refl _
      · have : (G == 2 * (N % G)) = false := by simp; omega
        simp [a, this]
  · have := toNat_le (decide (G < 2 * (N % G)) || (G == 2 * (N % G) && (N / G) % 2 == 1))
    omega

theorem he_mul (c G : Nat) (hG : 0 < G) : he (c * G) G = c := by
  unfold he
  rw [Nat.mul_div_cancel _ hG, Nat.mul_mod_left]
  have e1 : decide (G < 2 * 0) = false := by simp
  have e2 : (G == 2 * 0) = false := by simp; omega
  rw [e1, e2]; simp

theorem he_one (N : Nat) : he N 1 = N := by have := he_mul N 1 (by omega); rwa [Nat.mul_one] at this

/-- The rung nearest to 'N * 2^-2148'. -/
def rnd (N : Nat) : Nat :=
  if N = 0 then 0 else
  min ((max (N.log2 - 52) 1074 - 1074) * 4503599627370496 + he N (2 ^ max (N.log2 - 52) 1074)) 9218868437227405312

theorem rnd_zero : rnd 0 = 0 := rfl

theorem rnd_le (N : Nat) : rnd N ≤ 9218868437227405312 := by
  unfold rnd
  split
  · omega
  · exact Nat.min_le_right _ _

theorem log2_le {N M : Nat} (h : N ≤ M) (h0 : N ≠ 0) : N.log2 ≤ M.log2 :=
  (Nat.le_log2 (by omega)).mpr (Nat.le_trans (Nat.log2_self_le h0) h)

theorem p53 (d : Nat) : 2 ^ (53 + d) = 9007199254740992 * 2 ^ d := by rw [Nat.pow_add]
theorem p52 (d : Nat) : 2 ^ (52 + d) = 4503599627370496 * 2 ^ d := by rw [Nat.pow_add]

theorem min_le_left {x y : Nat} (h : x ≤ y) (a b : Nat) : min (a + x) b ≤ min (a + y) b := by omega
theorem min_le_far {x y d d' : Nat} (h : x ≤ 9007199254740992) (h' : 4503599627370496 ≤ y) (hd : d < d') (h0 : 1074 ≤ d) :
    min ((d - 1074) * 4503599627370496 + x) 9218868437227405312 ≤ min ((d' - 1074) * 4503599627370496 + y) 9218868437227405312 := by omega

theorem rnd_mono {N M : Nat} (h : N ≤ M) : rnd N ≤ rnd M := by
  unfold rnd
  by_cases h0 : N = 0
  · rw [if_pos h0]; omega
  · rw [if_neg h0, if_neg (by omega : ¬ M = 0)]
    have hl := log2_le h h0
    generalize hd : max (N.log2 - 52) 1074 = d
    generalize hd' : max (M.log2 - 52) 1074 = d'
    have hdd : d ≤ d' := by omega
    have hlow : he N (2 ^ d) ≤ 9007199254740992 := by
      have h1 : N ≤ 9007199254740992 * 2 ^ d := by
        rw [← p53]
        have h2 := Nat.lt_log2_self (n := N)
        exact Nat.le_of_lt (Nat.lt_of_lt_of_le h2 (Nat.pow_le_pow_right (by omega) (by omega)))
      have := he_mono (G := 2 ^ d) h1
      rwa [he_mul _ _ (Nat.two_pow_pos _)] at this
    by_cases e : d = d'
    · subst e
      have := he_mono (G := 2 ^ d) h
      exact min_le_left this _ _
    · have hhigh : 4503599627370496 ≤ he M (2 ^ d') := by
        have h1 : 4503599627370496 * 2 ^ d' ≤ M := by
          rw [← p52]
          have h2 := Nat.log2_self_le (n := M) (by omega)
          exact Nat.le_trans (Nat.pow_le_pow_right (by omega) (by omega)) h2
        have := he_mono (G := 2 ^ d') h1
        rwa [he_mul _ _ (Nat.two_pow_pos _)] at this
      exact min_le_far hlow hhigh (by omega) (by omega)

theorem log2_scaled {r k j : Nat} (h1 : 2 ^ j ≤ r) (h2 : r < 2 ^ (j + 1)) : (r * 2 ^ k).log2 = j + k := by
  have hp : 0 < 2 ^ k := Nat.two_pow_pos _
  have h0 : 0 < 2 ^ j := Nat.two_pow_pos _
  refine (Nat.log2_eq_iff (by have := Nat.mul_pos (by omega : 0 < r) hp; omega)).mpr ⟨?_, ?_⟩
  · rw [Nat.pow_add]; exact Nat.mul_le_mul_right _ h1
  · have : j + k + 1 = (j + 1) + k := by omega
    rw [this, Nat.pow_add]; exact Nat.mul_lt_mul_of_pos_right h2 hp

theorem log2_mul_pow {m k : Nat} (h : m ≠ 0) : (m * 2 ^ k).log2 = m.log2 + k :=
  log2_scaled (Nat.log2_self_le h) Nat.lt_log2_self

theorem exp_small {l : Nat} (h : l < 52) : max (l + 1074 - 52) 1074 = 1074 := by omega
theorem exp_big (q : Nat) : max (52 + q + 1074 - 52) 1074 = q + 1074 := by omega
theorem fit_small {r : Nat} (h : r ≤ 9218868437227405312) : min ((1074 - 1074) * 4503599627370496 + r) 9218868437227405312 = r := by omega
theorem fit_big {r q t : Nat} (hr : r = (q + 1) * 4503599627370496 + t) (h : r ≤ 9218868437227405312) : min ((q + 1074 - 1074) * 4503599627370496 + (4503599627370496 + t)) 9218868437227405312 = r := by omega

theorem rnd_pos {N : Nat} (h : N ≠ 0) : rnd N = min ((max (N.log2 - 52) 1074 - 1074) * 4503599627370496 + he N (2 ^ max (N.log2 - 52) 1074)) 9218868437227405312 := by
  unfold rnd; rw [if_neg h]

/-- A rung's own value is rounded to it. (The unit's exponent is a name, so that nothing of its size is worked out.) -/
theorem rnd_rval_at {k r : Nat} (hk : k = 1074) (h : r ≤ 9218868437227405312) : rnd (rval r * 2 ^ k) = r := by
  by_cases h0 : r = 0
  · subst h0; rw [rval_zero, Nat.zero_mul, rnd_zero]
  · have hp := Nat.two_pow_pos k
    have hv : rval r ≠ 0 := by have := rval_ge r; exact Nat.ne_of_gt (by omega)
    have hN : rval r * 2 ^ k ≠ 0 := Nat.ne_of_gt (Nat.mul_pos (Nat.pos_of_ne_zero hv) hp)
    rw [rnd_pos hN, log2_mul_pow hv]
    by_cases hs : r < 4503599627370496
    · rw [rval_small hs]
      have : r.log2 < 52 := (Nat.log2_lt h0).mpr hs
      rw [hk, exp_small this, ← hk, he_mul _ _ hp, hk]
      exact fit_small h
    · obtain ⟨q, t, ht, hr⟩ := rung_big (Nat.le_of_not_lt hs)
      rw [rval_big ht hr]
      have e : ((4503599627370496 + t) * 2 ^ q).log2 = 52 + q := log2_scaled (j := 52) (Nat.le_add_right _ _) (by clear hN hv hp; omega)
      rw [e]
      have e2 : max (52 + q + k - 52) 1074 = q + k := by rw [hk]; exact exp_big q
      rw [e2, Nat.mul_assoc, ← Nat.pow_add, he_mul _ _ (Nat.two_pow_pos _), hk]
      exact fit_big hr h

/-- What one unit, 2^-1074, is in the finer unit 2^-2148. -/
def ux : Nat := 1074
def sc : Nat := 2 ^ ux
theorem sc_pos : 0 < sc := Nat.two_pow_pos ux

theorem rnd_rval {r : Nat} (h : r ≤ 9218868437227405312) : rnd (rval r * sc) = r := rnd_rval_at (k := ux) rfl h

theorem rnd_ge {N r : Nat} (hr : r ≤ 9218868437227405312) (h : rval r * sc ≤ N) : r ≤ rnd N := by
  have := rnd_mono h
  rwa [rnd_rval hr] at this

theorem rnd_le_of {N r : Nat} (hr : r ≤ 9218868437227405312) (h : N ≤ rval r * sc) : rnd N ≤ r := by
  have := rnd_mono h
  rwa [rnd_rval hr] at this

end Go.Proofs.Ytonjjblifcgapaa
