import Derived.Test.YtonjjblifcgapaaFc
namespace Go.Proofs.Ytonjjblifcgapaa
set_option linter.unusedVariables false
open Ieee

/-! ### The order of words -/

theorem cmp_int (a b : Int) : compare a b = if a < b then .lt else if a = b then .eq else .gt := rfl

theorem cmp_mul (a b : Int) (c : Nat) (hc : 0 < c) : compare (a * (c : Int)) (b * (c : Int)) = compare a b := by
  rw [cmp_int, cmp_int]
  have hc' : (0 : Int) < c := by omega
  have h1 : a * (c : Int) < b * (c : Int) ↔ a < b := Int.mul_lt_mul_right hc'
  have h2 : a * (c : Int) = b * (c : Int) ↔ a = b := ⟨fun h => Int.eq_of_mul_eq_mul_right (by omega) h, fun h => by rw [h]⟩
  simp only [h1, h2]

theorem cmp_lt {a b : Int} (h : a < b) : compare a b = .lt := by rw [cmp_int, if_pos h]
theorem cmp_gt {a b : Int} (h : b < a) : compare a b = .gt := by rw [cmp_int, if_neg (by omega), if_neg (by omega)]
theorem cmp_eq {a b : Int} (h : a = b) : compare a b = .eq := by rw [cmp_int, if_neg (by omega), if_pos h]

theorem order_facts {a b : Datum} (ha : Fine a) (hb : Fine b) : a.order b = some (compare (DV a) (DV b)) := by
  have ht := top_pos
  have e1 : sg false (2 * top) = 2 * (top : Int) := by unfold sg; simp
  have e2 : sg true (2 * top) = -(2 * (top : Int)) := by unfold sg; simp
  cases a with
  | nan s f => exact ha.elim
  | infinity s =>
    cases b with
    | nan t f => exact hb.elim
    | infinity t =>
      show some (compare t.toNat s.toNat) = some (compare (sg s (2 * top)) (sg t (2 * top)))
      cases s <;> cases t <;> simp only [e1, e2]
      · rw [cmp_eq rfl]; rfl
      · rw [cmp_gt (by omega)]; rfl
      · rw [cmp_lt (by omega)]; rfl
      · rw [cmp_eq rfl]; rfl
    | number t n j =>
      show some (if s then Ordering.lt else .gt) = some (compare (sg s (2 * top)) (DV (.number t n j)))
      have := DV_lt hb rfl
      cases s
      · rw [e1, cmp_gt (by omega)]; rfl
      · rw [e2, cmp_lt (by omega)]; rfl
  | number s m i =>
    cases b with
    | nan t f => exact hb.elim
    | infinity t =>
      show some (if t then Ordering.gt else .lt) = some (compare (DV (.number s m i)) (sg t (2 * top)))
      have := DV_lt ha rfl
      cases t
      · rw [e1, cmp_lt (by omega)]; rfl
      · rw [e2, cmp_gt (by omega)]; rfl
    | number t n j =>
      have hi := ha.1
      have hj := hb.1
      show some (compare (signed s m (i - min i j).toNat) (signed t n (j - min i j).toNat)) = some (compare (sg s (m * 2 ^ (i + 2148).toNat)) (sg t (n * 2 ^ (j + 2148).toNat)))
      rw [signed_sg, signed_sg, place_split (b := min i j) (by omega) (by omega) m, place_split (b := min i j) (by omega) (by omega) n, sg_mul s (m * _), sg_mul t (n * _), cmp_mul _ _ _ (Nat.two_pow_pos _)]

theorem cmp_KW {k l : Int} (hk : k.natAbs ≤ 9218868437227405312) (hl : l.natAbs ≤ 9218868437227405312) : compare (KW k) (KW l) = compare k l := by
  by_cases h1 : k < l
  · rw [cmp_lt h1, cmp_lt (KW_lt h1 hk hl)]
  · by_cases h2 : l < k
    · rw [cmp_gt h2, cmp_gt (KW_lt h2 hl hk)]
    · have : k = l := by omega
      subst this; rw [cmp_eq rfl, cmp_eq rfl]

theorem order_words {x y : Nat} (hx : isN x = false) (hy : isN y = false) : double.order x y = some (compare (key x) (key y)) := by
  obtain ⟨fx, vx⟩ := read_fine hx
  obtain ⟨fy, vy⟩ := read_fine hy
  unfold Format.order
  rw [order_facts fx fy, vx, vy, cmp_KW (key_abs hx) (key_abs hy)]

theorem order_nan {x y : Nat} (h : (isN x || isN y) = true) : double.order x y = none := by
  unfold Format.order
  rcases Bool.or_eq_true _ _ ▸ h with g | g
  · obtain ⟨s, f, e⟩ := read_nan g
    rw [e]; cases double.read y <;> rfl
  · obtain ⟨s, f, e⟩ := read_nan g
    rw [e]; cases double.read x <;> rfl

/-- '<', '==' on words. -/
def ltB (x y : Nat) : Bool := !isN x && !isN y && decide (key x < key y)
def eqB (x y : Nat) : Bool := !isN x && !isN y && decide (key x = key y)

theorem lt_key {x y : Nat} : ltB x y = true ↔ isN x = false ∧ isN y = false ∧ key x < key y := by
  unfold ltB; simp [and_assoc]
theorem eq_key {x y : Nat} : eqB x y = true ↔ isN x = false ∧ isN y = false ∧ key x = key y := by
  unfold eqB; simp [and_assoc]

theorem ord_lt (x y : Nat) : (double.order x y == some .lt) = ltB x y := by
  by_cases h : (isN x || isN y) = true
  · rw [order_nan h]
    have : ltB x y = false := by
      rcases Bool.or_eq_true _ _ ▸ h with g | g <;> simp [ltB, g]
    rw [this]; rfl
  · have h' : isN x = false ∧ isN y = false := by simpa using h
    rw [order_words h'.1 h'.2]
    unfold ltB
    rw [h'.1, h'.2, Bool.eq_iff_iff, cmp_int]
    by_cases a : key x < key y
    · simp [a]
    · by_cases b : key x = key y <;> simp [a, b]

theorem ord_eq (x y : Nat) : (double.order x y == some .eq) = eqB x y := by
  by_cases h : (isN x || isN y) = true
  · rw [order_nan h]
    have : eqB x y = false := by
      rcases Bool.or_eq_true _ _ ▸ h with g | g <;> simp [eqB, g]
    rw [this]; rfl
  · have h' : isN x = false ∧ isN y = false := by simpa using h
    rw [order_words h'.1 h'.2]
    unfold eqB
    rw [h'.1, h'.2, Bool.eq_iff_iff, cmp_int]
    by_cases a : key x < key y
    · simp [a]; omega
    · by_cases b : key x = key y <;> simp [a, b]

theorem ord_gt (x y : Nat) : (double.order x y == some .gt) = ltB y x := by
  by_cases h : (isN x || isN y) = true
  · rw [order_nan h]
    have : ltB y x = false := by
      rcases Bool.or_eq_true _ _ ▸ h with g | g <;> simp [ltB, g]
    rw [this]; rfl
  · have h' : isN x = false ∧ isN y = false := by simpa using h
    rw [order_words h'.1 h'.2]
    unfold ltB
    rw [h'.1, h'.2, Bool.eq_iff_iff, cmp_int]
    by_cases a : key x < key y
    · simp [a]; omega
    · by_cases b : key x = key y
      · simp [b]
      · simp [a, b]; omega

theorem ord_self (x : Nat) : (double.order x x != some .eq) = isN x := by
  show (!(double.order x x == some .eq)) = isN x
  rw [ord_eq]; unfold eqB; simp

/-! ### Rounded up to a whole number -/

/-- One, in units of 2^-1074. -/
theorem sc_split (a b : Nat) (h : a + b = ux) : sc = 2 ^ a * 2 ^ b := by unfold sc; rw [← h, Nat.pow_add]

/-- The least whole number that is not below 'v * 2^-1074'. -/
def cl (v : Int) : Int := -((-v) / (sc : Int))

theorem cl_mono {a b : Int} (h : a ≤ b) : cl a ≤ cl b := by
  unfold cl
  have hs : (0 : Int) < sc := by have := sc_pos; omega
  have := Int.ediv_le_ediv hs (show -b ≤ -a by omega)
  omega

theorem cap_div (n drop : Nat) (h : n ≠ 0) : n / 2 ^ min drop (n.log2 + 2) = n / 2 ^ drop ∧ (n % 2 ^ min drop (n.log2 + 2) = 0 ↔ n % 2 ^ drop = 0) := by
  by_cases hd : drop ≤ n.log2 + 2
  · rw [Nat.min_eq_left hd]; exact ⟨rfl, Iff.rfl⟩
  · rw [Nat.min_eq_right (by omega)]
    have hlt := Nat.lt_log2_self (n := n)
    have h1 : 2 ^ (n.log2 + 1) ≤ 2 ^ (n.log2 + 2) := Nat.pow_le_pow_right (by decide) (by omega)
    have h2 : 2 ^ (n.log2 + 1) ≤ 2 ^ drop := Nat.pow_le_pow_right (by decide) (by omega)
    rw [Nat.div_eq_of_lt (by omega), Nat.div_eq_of_lt (by omega), Nat.mod_eq_of_lt (by omega), Nat.mod_eq_of_lt (by omega)]
    exact ⟨rfl, Iff.rfl⟩

theorem ceil_pos (n g : Nat) (hg : 0 < g) : -((-(n : Int)) / (g : Int)) = ((n / g + (decide (n % g ≠ 0)).toNat : Nat) : Int) := by
  have h1 := Nat.div_add_mod n g
  have h2 := Nat.mod_lt n hg
  generalize n / g = q at *
  generalize n % g = r at *
  subst h1
  by_cases h : r = 0
  · subst h
    simp only [Nat.add_zero, ne_eq, not_true_eq_false, decide_false, Bool.toNat_false]
    have : (-((g * q : Nat) : Int)) = (g : Int) * (-(q : Int)) := by push_cast; rw [Int.mul_neg]
    rw [this, Int.mul_ediv_cancel_left _ (by omega)]; omega
  · have e : (decide (r ≠ 0)).toNat = 1 := by simp [h]
    rw [e]
    have : (-((g * q + r : Nat) : Int)) = ((g : Int) - r) + (g : Int) * (-(q : Int) - 1) := by
      push_cast
      rw [Int.mul_sub, Int.mul_neg]; omega
    rw [this, Int.add_mul_ediv_left _ _ (by omega), Int.ediv_eq_zero_of_lt (by omega) (by omega)]
    omega

theorem cut_up (s : Bool) (n drop : Nat) : sg s (Toward.up.cut s n drop) = -((-sg s n) / ((2 ^ drop : Nat) : Int)) := by
  by_cases h : n = 0
  · subst h
    have : Toward.up.cut s 0 drop = 0 := by unfold Toward.cut; simp
    rw [this]; unfold sg; simp
  · unfold Toward.cut
    obtain ⟨e1, e2⟩ := cap_div n drop h
    simp only [Nat.shiftLeft_eq, Nat.one_mul]
    cases s
    · unfold sg
      simp only [Bool.false_eq_true, if_false, Bool.not_false, Bool.true_and]
      rw [ceil_pos n _ (Nat.two_pow_pos _), e1]
      have e3 : (n % 2 ^ min drop (n.log2 + 2) != 0) = decide (n % 2 ^ drop ≠ 0) := by
        rw [Bool.eq_iff_iff]; simp [e2]
      rw [e3]
    · unfold sg
      simp only [if_true, Bool.not_true, Bool.false_and, Bool.toNat_false, Nat.add_zero, Int.neg_neg]
      rw [e1]; rfl


/-- What Ceil gives for a finite word: the word nearest to the whole number, which is then told exactly. -/
def one : Nat := sc * sc

theorem one_pow {k : Nat} (hk : k = 2148) : 2 ^ k = one := by
  unfold one sc; rw [← Nat.pow_add]; congr 1

theorem ceil_facts {x : Nat} (hx : (key x).natAbs < 9218868437227405312) :
    isN (double.write ((double.read x).integral .up)) = false ∧ key (double.write ((double.read x).integral .up)) = RS (cl (V (key x)) * (one : Int)) ∧ double.write ((double.read x).integral .up) < 18446744073709551616 := by
  obtain ⟨s, m, q, e, hv⟩ := read_fin hx
  rw [e]
  have hd : Okay ((Datum.number s m (-1074 + (q : Int))).integral .up) := by show -2148 ≤ (0 : Int); omega
  obtain ⟨w1, w2, w3⟩ := write_facts hd
  refine ⟨w1, ?_, w3⟩
  rw [w2]
  show RS (sg s (Toward.up.cut s (m <<< (-1074 + (q : Int)).toNat) (-(-1074 + (q : Int))).toNat * 2 ^ (0 + 2148 : Int).toNat)) = _
  rw [one_pow (k := ((0 : Int) + 2148).toNat) rfl, sg_mul, cut_up]
  congr 2
  rw [hv, Nat.shiftLeft_eq]
  unfold cl
  by_cases h : 1074 ≤ q
  · have e1 : (-1074 + (q : Int)).toNat = q - 1074 := by omega
    have e2 : (-(-1074 + (q : Int))).toNat = 0 := by omega
    rw [e1, e2, Nat.pow_zero]
    have e3 : m * 2 ^ q = m * 2 ^ (q - 1074) * sc := by
      unfold sc; rw [Nat.mul_assoc, ← Nat.pow_add]; congr 2; unfold ux; omega
    rw [e3, sg_mul s _ sc, ← Int.neg_mul, Int.mul_ediv_cancel _ (by have := sc_pos; omega)]
    simp
  · have e1 : (-1074 + (q : Int)).toNat = 0 := by omega
    have e2 : (-(-1074 + (q : Int))).toNat = 1074 - q := by omega
    rw [e1, e2, Nat.pow_zero, Nat.mul_one, sc_split q (1074 - q) (by unfold ux; omega), sg_mul s m, ← Int.neg_mul]
    have hp := Nat.two_pow_pos q
    have e4 : ((2 ^ q * 2 ^ (1074 - q) : Nat) : Int) = ((2 ^ (1074 - q) : Nat) : Int) * ((2 ^ q : Nat) : Int) := by rw [Nat.mul_comm]; push_cast; rfl
    rw [e4, Int.mul_ediv_mul_of_pos_left _ _ (by omega)]

/-- The whole number that a word is, told as an integer. -/
theorem toInt_facts {x : Nat} {c : Int} (hx : (key x).natAbs < 9218868437227405312) (hv : V (key x) = c * (sc : Int)) : (double.read x).toInt .zero = some c := by
  obtain ⟨s, m, q, e, hm⟩ := read_fin hx
  rw [e]
  show some (signed s (Toward.zero.cut s (m <<< (-1074 + (q : Int)).toNat) (-(-1074 + (q : Int))).toNat) 0) = some c
  refine congrArg some ?_
  rw [signed_sg, Nat.pow_zero, Nat.mul_one, Nat.shiftLeft_eq]
  rw [hm] at hv
  have hs := sc_pos
  have hcut : ∀ n drop, Toward.zero.cut s n drop = n / 2 ^ drop := by
    intro n drop
    unfold Toward.cut
    simp only [Nat.shiftLeft_eq, Nat.one_mul, Bool.toNat_false, Nat.add_zero]
    by_cases h : n = 0
    · subst h; simp
    · exact (cap_div n drop h).1
  rw [hcut]
  by_cases h : 1074 ≤ q
  · have e1 : (-1074 + (q : Int)).toNat = q - 1074 := by omega
    have e2 : (-(-1074 + (q : Int))).toNat = 0 := by omega
    rw [e1, e2, Nat.pow_zero, Nat.div_one]
    have e3 : m * 2 ^ q = m * 2 ^ (q - 1074) * sc := by
      unfold sc; rw [Nat.mul_assoc, ← Nat.pow_add]; congr 2; unfold ux; omega
    rw [e3, sg_mul s _ sc] at hv
    exact Int.eq_of_mul_eq_mul_right (by omega) hv
  · have e1 : (-1074 + (q : Int)).toNat = 0 := by omega
    have e2 : (-(-1074 + (q : Int))).toNat = 1074 - q := by omega
    rw [e1, e2, Nat.pow_zero, Nat.mul_one]
    rw [sc_split q (1074 - q) (by unfold ux; omega), sg_mul s m] at hv
    have hp := Nat.two_pow_pos q
    have hp2 := Nat.two_pow_pos (1074 - q)
    have e4 : ((2 ^ q * 2 ^ (1074 - q) : Nat) : Int) = ((2 ^ (1074 - q) : Nat) : Int) * ((2 ^ q : Nat) : Int) := by rw [Nat.mul_comm]; push_cast; rfl
    rw [e4, ← Int.mul_assoc] at hv
    have hv' := Int.eq_of_mul_eq_mul_right (by omega) hv
    generalize 2 ^ (1074 - q) = g at *
    -- 'm' with its sign is 'c * g'
    have hc : sg s (m / g) = c := by
      unfold sg at hv' ⊢
      cases s
      · simp only [Bool.false_eq_true, if_false] at hv' ⊢
        have : ((m / g : Nat) : Int) = (m : Int) / (g : Int) := by push_cast; rfl
        rw [this, hv', Int.mul_ediv_cancel _ (by omega)]
      · simp only [if_true] at hv' ⊢
        have : ((m / g : Nat) : Int) = (m : Int) / (g : Int) := by push_cast; rfl
        have h2 : (m : Int) = (-c) * (g : Int) := by rw [Int.neg_mul]; omega
        rw [this, h2, Int.mul_ediv_cancel _ (by omega)]; omega
    exact hc

end Go.Proofs.Ytonjjblifcgapaa
