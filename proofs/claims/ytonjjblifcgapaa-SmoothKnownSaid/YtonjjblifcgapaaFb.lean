import Derived.Test.YtonjjblifcgapaaFa
namespace Go.Proofs.Ytonjjblifcgapaa
set_option linter.unusedVariables false
open Ieee

/-! ### Words, their keys, and what they stand for in units of 2^-2148 -/

theorem d_sw : double.signWeight = 9223372036854775808 := by decide
theorem d_bin : double.binade = 4503599627370496 := by decide
theorem d_inf : double.infRung = 9218868437227405312 := by decide
theorem d_lp : double.leastPlace = -1074 := by decide

/-- Is the word a NaN? -/
def isN (b : Nat) : Bool := decide (9218868437227405312 < b % 9223372036854775808)
/-- The word's rung, with its sign: words stand to each other as these do. -/
def key (b : Nat) : Int := if b / 9223372036854775808 % 2 = 1 then -((b % 9223372036854775808 : Nat) : Int) else ((b % 9223372036854775808 : Nat) : Int)

def sg (s : Bool) (n : Nat) : Int := if s then -(n : Int) else n

/-- Twice what the rung of infinity would stand for. -/
def top : Nat := rval 9218868437227405312 * sc
def av (r : Nat) : Nat := if r = 9218868437227405312 then 2 * top else rval r * sc
def KW (k : Int) : Int := if k < 0 then -(av k.natAbs : Int) else av k.natAbs
def RS (n : Int) : Int := if n < 0 then -(rnd n.natAbs : Int) else rnd n.natAbs

def DV : Datum → Int
  | .number s m p => sg s (m * 2 ^ (p + 2148).toNat)
  | .infinity s => sg s (2 * top)
  | .nan _ _ => 0

theorem top_pos : 0 < top := Nat.mul_pos (Nat.lt_of_lt_of_le (by decide : 0 < 9218868437227405312) (rval_ge _)) sc_pos

theorem av_lt {r s : Nat} (h : r < s) (hs : s ≤ 9218868437227405312) : av r < av s := by
  unfold av
  have hr : ¬ r = 9218868437227405312 := by omega
  rw [if_neg hr]
  by_cases e : s = 9218868437227405312
  · rw [if_pos e]
    have h1 : rval r * sc < top := Nat.mul_lt_mul_of_pos_right (rval_lt (by omega)) sc_pos
    exact Nat.lt_of_lt_of_le h1 (Nat.le_mul_of_pos_left _ (by decide))
  · rw [if_neg e]
    exact Nat.mul_lt_mul_of_pos_right (rval_lt h) sc_pos

theorem av_zero : av 0 = 0 := by unfold av; rw [if_neg (by decide), rval_zero, Nat.zero_mul]

theorem av_pos {r : Nat} (h : 0 < r) (hs : r ≤ 9218868437227405312) : 0 < av r := by
  have := av_lt h hs
  rwa [av_zero] at this

theorem int_neg_lt {a b : Nat} (h : a < b) : -(b : Int) < -(a : Int) := by omega

theorem KW_lt {k l : Int} (h : k < l) (hk : k.natAbs ≤ 9218868437227405312) (hl : l.natAbs ≤ 9218868437227405312) : KW k < KW l := by
  unfold KW
  by_cases h1 : k < 0
  · rw [if_pos h1]
    by_cases h2 : l < 0
    · rw [if_pos h2]
      exact int_neg_lt (av_lt (by omega) hk)
    · rw [if_neg h2]
      have := av_pos (r := k.natAbs) (by omega) hk
      generalize av k.natAbs = x at *
      generalize av l.natAbs = y at *
      omega
  · rw [if_neg h1, if_neg (by omega)]
    have := av_lt (r := k.natAbs) (s := l.natAbs) (by omega) hl
    generalize av k.natAbs = x at *
    generalize av l.natAbs = y at *
    omega

theorem KW_le {k l : Int} (h : k ≤ l) (hk : k.natAbs ≤ 9218868437227405312) (hl : l.natAbs ≤ 9218868437227405312) : KW k ≤ KW l := by
  by_cases e : k = l
  · subst e; exact Int.le_refl _
  · exact Int.le_of_lt (KW_lt (by omega) hk hl)

theorem KW_lt_iff {k l : Int} (hk : k.natAbs ≤ 9218868437227405312) (hl : l.natAbs ≤ 9218868437227405312) : KW k < KW l ↔ k < l := by
  refine ⟨fun h => Int.lt_of_not_ge fun g => ?_, fun h => KW_lt h hk hl⟩
  have := KW_le g hl hk
  exact absurd h (Int.not_lt.mpr this)

theorem KW_inj {k l : Int} (hk : k.natAbs ≤ 9218868437227405312) (hl : l.natAbs ≤ 9218868437227405312) (h : KW k = KW l) : k = l := by
  have h1 := fun g => KW_lt (k := k) (l := l) g hk hl
  have h2 := fun g => KW_lt (k := l) (l := k) g hl hk
  rw [h] at h1 h2
  have a : ¬ k < l := fun g => Int.lt_irrefl _ (h1 g)
  have b : ¬ l < k := fun g => Int.lt_irrefl _ (h2 g)
  omega

theorem RS_mono {a b : Int} (h : a ≤ b) : RS a ≤ RS b := by
  unfold RS
  by_cases h1 : a < 0
  · rw [if_pos h1]
    by_cases h2 : b < 0
    · rw [if_pos h2]
      have := rnd_mono (N := b.natAbs) (M := a.natAbs) (by omega)
      generalize rnd b.natAbs = x at *
      generalize rnd a.natAbs = y at *
      omega
    · rw [if_neg h2]
      generalize rnd b.natAbs = x at *
      generalize rnd a.natAbs = y at *
      omega
  · rw [if_neg h1, if_neg (by omega)]
    have := rnd_mono (N := a.natAbs) (M := b.natAbs) (by omega)
    generalize rnd b.natAbs = x at *
    generalize rnd a.natAbs = y at *
    omega

theorem rnd_top {N : Nat} (h : top ≤ N) : rnd N = 9218868437227405312 :=
  Nat.le_antisymm (rnd_le N) (rnd_ge (Nat.le_refl _) h)

theorem rnd_av {r : Nat} (h : r ≤ 9218868437227405312) : rnd (av r) = r := by
  unfold av
  by_cases e : r = 9218868437227405312
  · rw [if_pos e, e]; exact rnd_top (Nat.le_mul_of_pos_left _ (by decide))
  · rw [if_neg e]; exact rnd_rval h

theorem RS_sg (s : Bool) (N : Nat) : RS (sg s N) = sg s (rnd N) := by
  unfold RS sg
  cases s
  · simp only [Bool.false_eq_true, if_false]
    rw [if_neg (by omega)]; simp
  · simp only [if_true]
    by_cases h : N = 0
    · subst h; simp [rnd_zero]
    · rw [if_pos (by omega)]; simp

theorem KW_sg {s : Bool} {r : Nat} : KW (sg s r) = sg s (av r) := by
  unfold KW sg
  cases s
  · simp only [Bool.false_eq_true, if_false]
    rw [if_neg (by omega)]; simp
  · simp only [if_true]
    by_cases h : r = 0
    · subst h; simp [av_zero]
    · rw [if_pos (by omega)]; simp

theorem key_sg (b : Nat) : key b = sg (b / 9223372036854775808 % 2 == 1) (b % 9223372036854775808) := by
  unfold key sg
  by_cases h : b / 9223372036854775808 % 2 = 1 <;> simp [h]

theorem sg_natAbs (s : Bool) (n : Nat) : (sg s n).natAbs = n := by unfold sg; cases s <;> simp

theorem RS_KW {k : Int} (h : k.natAbs ≤ 9218868437227405312) : RS (KW k) = k := by
  obtain ⟨s, n, rfl⟩ : ∃ s n, k = sg s n := ⟨decide (k < 0), k.natAbs, by unfold sg; by_cases g : k < 0 <;> simp [g] <;> omega⟩
  rw [sg_natAbs] at h
  rw [KW_sg, RS_sg, rnd_av h]

theorem notN {b : Nat} (h : isN b = false) : b % 9223372036854775808 ≤ 9218868437227405312 := by
  unfold isN at h; simpa using h

theorem key_abs {b : Nat} (h : isN b = false) : (key b).natAbs ≤ 9218868437227405312 := by
  rw [key_sg, sg_natAbs]; exact notN h

/-! ### Reading and writing words -/

/-- A datum that reading or reckoning gives: no place is below the finer unit's. -/
def Fine : Datum → Prop
  | .number _ m p => -2148 ≤ p ∧ (m * 2 ^ (p + 2148).toNat) < top
  | .infinity _ => True
  | .nan _ _ => False

theorem toNat_place (q : Nat) : (-1074 + (q : Int) + 2148).toNat = q + ux := by unfold ux; omega

theorem read_at (b : Nat) : double.read b =
    if b % 9223372036854775808 < 4503599627370496 then .number (b / 9223372036854775808 % 2 == 1) (b % 9223372036854775808) (-1074)
    else if b % 9223372036854775808 < 9218868437227405312 then .number (b / 9223372036854775808 % 2 == 1) (4503599627370496 + b % 9223372036854775808 % 4503599627370496) (-1074 + (b % 9223372036854775808 / 4503599627370496 - 1 : Nat))
    else if b % 9223372036854775808 = 9218868437227405312 then .infinity (b / 9223372036854775808 % 2 == 1)
    else .nan (b / 9223372036854775808 % 2 == 1) (b % 9223372036854775808 - 9218868437227405312) := by
  unfold Format.read
  rw [d_sw, d_bin, d_inf, d_lp]

theorem mul_sc (m q : Nat) : m * 2 ^ (q + ux) = m * 2 ^ q * sc := by
  rw [Nat.pow_add, Nat.mul_assoc]; rfl

theorem read_num {b : Nat} (h : b % 9223372036854775808 < 9218868437227405312) :
    ∃ m, ∃ q : Nat, double.read b = .number (b / 9223372036854775808 % 2 == 1) m (-1074 + (q : Int)) ∧ m * 2 ^ q = rval (b % 9223372036854775808) := by
  rw [read_at]
  generalize b % 9223372036854775808 = r at *
  by_cases h1 : r < 4503599627370496
  · exact ⟨r, 0, by rw [if_pos h1]; rfl, by rw [rval_small h1]; simp⟩
  · refine ⟨_, _, by rw [if_neg h1, if_pos h], ?_⟩
    unfold rval; rw [if_neg h1]

theorem read_fine {b : Nat} (h : isN b = false) : Fine (double.read b) ∧ DV (double.read b) = KW (key b) := by
  have hr := notN h
  rw [key_sg, KW_sg]
  by_cases h1 : b % 9223372036854775808 < 9218868437227405312
  · obtain ⟨m, q, e, hv⟩ := read_num h1
    rw [e]
    have e2 : m * 2 ^ (-1074 + (q : Int) + 2148).toNat = rval (b % 9223372036854775808) * sc := by rw [toNat_place, mul_sc, hv]
    refine ⟨⟨by omega, ?_⟩, ?_⟩
    · rw [e2]; exact Nat.mul_lt_mul_of_pos_right (rval_lt h1) sc_pos
    · show sg _ (m * 2 ^ (-1074 + (q : Int) + 2148).toNat) = _
      rw [e2]; unfold av; rw [if_neg (by omega)]
  · have h2 : b % 9223372036854775808 = 9218868437227405312 := by omega
    rw [read_at, if_neg (by omega), if_neg h1, if_pos h2, h2]
    refine ⟨trivial, ?_⟩
    unfold av; rw [if_pos rfl]; rfl

theorem read_nan {b : Nat} (h : isN b = true) : ∃ s f, double.read b = .nan s f := by
  have hr : 9218868437227405312 < b % 9223372036854775808 := by unfold isN at h; simpa using h
  refine ⟨_, _, ((read_at b).trans (if_neg (by omega))).trans ((if_neg (by omega)).trans (if_neg (by omega)))⟩

theorem word_facts {s : Bool} {r : Nat} (h : r ≤ 9218868437227405312) : isN (double.word s r) = false ∧ key (double.word s r) = sg s r ∧ double.word s r < 18446744073709551616 := by
  unfold Format.word
  rw [d_sw]
  cases s
  · simp only [Bool.false_eq_true, if_false]
    have e : r % 9223372036854775808 = r := Nat.mod_eq_of_lt (by omega)
    refine ⟨by unfold isN; rw [e]; simp; omega, ?_, by omega⟩
    unfold key sg; rw [e, if_neg (by omega)]; simp
  · simp only [if_true]
    have e : (9223372036854775808 + r) % 9223372036854775808 = r := by omega
    refine ⟨by unfold isN; rw [e]; simp; omega, ?_, by omega⟩
    unfold key sg; rw [e, if_pos (by omega)]; simp

theorem he_cap (m drop : Nat) (h : m ≠ 0) : he m (2 ^ min drop (m.log2 + 2)) = he m (2 ^ drop) := by
  by_cases hd : drop ≤ m.log2 + 2
  · rw [Nat.min_eq_left hd]
  · have hlt := Nat.lt_log2_self (n := m)
    have big : ∀ j, m.log2 + 2 ≤ j → he m (2 ^ j) = 0 := by
      intro j hj
      have h1 : 2 ^ (m.log2 + 2) ≤ 2 ^ j := Nat.pow_le_pow_right (by decide) hj
      have h2 : 2 ^ (m.log2 + 2) = 2 * 2 ^ (m.log2 + 1) := by rw [Nat.pow_succ, Nat.mul_comm]
      generalize 2 ^ (m.log2 + 1) = a at *
      generalize 2 ^ (m.log2 + 2) = c at *
      generalize 2 ^ j = g at *
      unfold he
      have e1 : m / g = 0 := Nat.div_eq_of_lt (by omega)
      have e2 : m % g = m := Nat.mod_eq_of_lt (by omega)
      rw [e1, e2]
      have e3 : decide (g < 2 * m) = false := by simp; omega
      have e4 : (g == 2 * m) = false := by simp; omega
      rw [e3, e4]; rfl
    rw [Nat.min_eq_right (by omega), big _ (Nat.le_refl _), big _ (by omega)]

theorem cut_even (s : Bool) (n drop : Nat) (h : n ≠ 0) : Toward.even.cut s n drop = he n (2 ^ drop) := by
  rw [← he_cap n drop h]
  unfold Toward.cut he
  simp only [Nat.shiftLeft_eq, Nat.one_mul]

theorem nearest_at (s : Bool) (m : Nat) (p : Int) (hp : -2148 ≤ p) : double.nearest s m p = double.word s (rnd (m * 2 ^ (p + 2148).toNat)) := by
  unfold Format.nearest
  by_cases h0 : m = 0
  · rw [if_pos h0, h0, Nat.zero_mul, rnd_zero]
  · rw [if_neg h0]
    have hp2 := Nat.two_pow_pos (p + 2148).toNat
    have hN : m * 2 ^ (p + 2148).toNat ≠ 0 := Nat.ne_of_gt (Nat.mul_pos (Nat.pos_of_ne_zero h0) hp2)
    rw [rnd_pos hN, log2_mul_pow h0, d_bin, d_inf, d_lp]
    dsimp only
    refine congrArg (double.word s) ?_
    obtain ⟨k, hk⟩ : ∃ k : Nat, p = (k : Int) - 2148 := ⟨(p + 2148).toNat, by omega⟩
    have ek : (p + 2148).toNat = k := by omega
    rw [ek]
    have hfb : (double.fractionBits : Int) = 52 := rfl
    rw [hfb]
    obtain ⟨d, hd⟩ : ∃ d, max (m.log2 + k - 52) 1074 = d := ⟨_, rfl⟩
    have hlast : max (p + m.log2 - 52) (-1074) = (d : Int) - 2148 := by omega
    rw [hd, hlast]
    have e1 : ((d : Int) - 2148 - -1074).toNat = d - 1074 := by omega
    rw [e1]
    refine congrArg (fun t => min ((d - 1074) * 4503599627370496 + t) 9218868437227405312) ?_
    by_cases hle : d ≤ k
    · have e2 : (p - ((d : Int) - 2148)).toNat = k - d := by omega
      have e3 : ((d : Int) - 2148 - p).toNat = 0 := by omega
      have hp3 := Nat.two_pow_pos (k - d)
      rw [e2, e3, Nat.shiftLeft_eq, cut_even _ _ _ (Nat.ne_of_gt (Nat.mul_pos (Nat.pos_of_ne_zero h0) hp3)), Nat.pow_zero, he_one]
      have e4 : m * 2 ^ k = m * 2 ^ (k - d) * 2 ^ d := by rw [Nat.mul_assoc, ← Nat.pow_add]; congr 2; omega
      rw [e4, he_mul _ _ (Nat.two_pow_pos _)]
    · have e2 : (p - ((d : Int) - 2148)).toNat = 0 := by omega
      have e3 : ((d : Int) - 2148 - p).toNat = d - k := by omega
      rw [e2, e3, Nat.shiftLeft_eq, Nat.pow_zero, Nat.mul_one, cut_even _ _ _ h0]
      have e4 : 2 ^ d = 2 ^ (d - k) * 2 ^ k := by rw [← Nat.pow_add]; congr 1; omega
      rw [e4, he_scale _ _ _ (Nat.two_pow_pos _)]

/-- A number, or an infinity, with no place below the finer unit's. -/
def Okay : Datum → Prop
  | .number _ _ p => -2148 ≤ p
  | .infinity _ => True
  | .nan _ _ => False

theorem Fine.okay {d : Datum} (h : Fine d) : Okay d := by
  cases d with
  | number s m p => exact h.1
  | infinity s => trivial
  | nan s f => exact h.elim

/-- What is written stands where what was reckoned is rounded to. -/
theorem write_facts {d : Datum} (h : Okay d) : isN (double.write d) = false ∧ key (double.write d) = RS (DV d) ∧ double.write d < 18446744073709551616 := by
  cases d with
  | number s m p =>
    show isN (double.nearest s m p) = false ∧ key (double.nearest s m p) = RS (sg s _) ∧ double.nearest s m p < _
    rw [nearest_at s m p h, RS_sg]
    exact word_facts (rnd_le _)
  | infinity s =>
    show isN (double.word s double.infRung) = false ∧ key (double.word s double.infRung) = RS (sg s _) ∧ double.word s double.infRung < _
    rw [d_inf, RS_sg, rnd_top (Nat.le_mul_of_pos_left _ (by decide))]
    exact word_facts (Nat.le_refl _)
  | nan s f => exact h.elim

end Go.Proofs.Ytonjjblifcgapaa
