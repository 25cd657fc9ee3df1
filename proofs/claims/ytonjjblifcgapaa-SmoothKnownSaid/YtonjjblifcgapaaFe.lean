import Derived.Test.YtonjjblifcgapaaFd
namespace Go.Proofs.Ytonjjblifcgapaa
set_option linter.unusedVariables false
open Ieee

/-! ### What an operation of the machine gives: the word that it has, or any NaN -/

def FR (o : Option Nat) (r : Nat) : Prop := r < 18446744073709551616 ∧ match o with
  | some b => r = b
  | none => isN r = true

theorem FR_some {o : Option Nat} {r b : Nat} (h : FR o r) (e : o = some b) : r = b := by subst e; exact h.2
theorem FR_none {o : Option Nat} {r : Nat} (h : FR o r) (e : o = none) : isN r = true := by subst e; exact h.2

theorem some_of_notN {o : Option Nat} {r : Nat} (h : FR o r) (hn : isN r = false) : o = some r := by
  cases o with
  | none => have := h.2; simp [hn] at this
  | some b => rw [h.2]

/-! ### Mean -/

def meanF (old now part : Nat) : Nat :=
  if isN old then now else if isN now then old else
  match double.sub now old with
  | none => now
  | some d => match double.mul part d with
    | none => now
    | some p => match double.add old p with
      | none => now
      | some m => m

theorem mean_old {old now part : Nat} (h : isN old = true) : meanF old now part = now := by unfold meanF; rw [if_pos h]
theorem mean_now {old now part : Nat} (h : isN old = false) (h2 : isN now = true) : meanF old now part = old := by
  unfold meanF; rw [if_neg (by simp [h]), if_pos h2]

theorem mean_steps {old now part d p m : Nat} (ho : isN old = false) (hn : isN now = false) (hd : FR (double.sub now old) d) (hp : FR (double.mul part d) p) (hm : FR (double.add old p) m) :
    (isN m = true → meanF old now part = now) ∧ (isN m = false → meanF old now part = m) := by
  have unf : meanF old now part = match double.sub now old with
      | none => now
      | some d => match double.mul part d with
        | none => now
        | some p => match double.add old p with
          | none => now
          | some m => m := by
    unfold meanF; rw [if_neg (by simp [ho]), if_neg (by simp [hn])]
  have h2 : isN d = true → isN p = true := fun h => FR_none hp (mul_nan (by simp [h]))
  have h3 : isN p = true → isN m = true := fun h => FR_none hm (add_nan (by simp [h]))
  refine ⟨fun h => ?_, fun h => ?_⟩
  · rw [unf]
    cases e1 : double.sub now old with
    | none => rfl
    | some d' =>
      have := FR_some hd e1; subst this
      dsimp only
      cases e2 : double.mul part d with
      | none => rfl
      | some p' =>
        have := FR_some hp e2; subst this
        dsimp only
        cases e3 : double.add old p with
        | none => rfl
        | some m' =>
          have := FR_some hm e3; subst this
          by_cases hop : (isN old || isN p) = true
          · rw [add_nan hop] at e3; cases e3
          · have hpn : isN p = false := by simp at hop; exact hop.2
            rcases add_facts ho hpn with ⟨g, _⟩ | ⟨r, g, gn, _⟩
            · rw [g] at e3; cases e3
            · rw [g] at e3
              have : r = m := by simpa using e3
              subst this; rw [gn] at h; cases h
  · have hpn : isN p = false := by
      cases hh : isN p with
      | false => rfl
      | true => rw [h3 hh] at h; cases h
    have hdn : isN d = false := by
      cases hh : isN d with
      | false => rfl
      | true => rw [h2 hh] at hpn; cases hpn
    rw [unf, some_of_notN hd hdn]
    dsimp only
    rw [some_of_notN hp hpn]
    dsimp only
    rw [some_of_notN hm h]

/-! ### Before and Best: by ranks, a NaN's above all -/

def rk (b : Nat) : Int := if isN b then 9223372036854775808 else key b
def befB (a b : Nat) : Bool := decide (rk a < rk b)

theorem key_lt_top {b : Nat} (h : isN b = false) : key b < 9223372036854775808 := by
  have := key_abs h; omega

theorem bef_eq (a b : Nat) : (ltB a b || (isN b && !isN a)) = befB a b := by
  unfold befB rk
  by_cases ha : isN a = true
  · rw [if_pos ha]
    have h1 : ltB a b = false := by simp [ltB, ha]
    rw [h1, ha]
    by_cases hb : isN b = true
    · rw [if_pos hb, hb]; simp
    · have hb' : isN b = false := by simpa using hb
      have := key_lt_top hb'
      rw [if_neg hb, hb']; simp; omega
  · have ha' : isN a = false := by simpa using ha
    have hka := key_lt_top ha'
    rw [if_neg ha, ha']
    by_cases hb : isN b = true
    · rw [if_pos hb, hb]; simp; exact hka
    · have hb' : isN b = false := by simpa using hb
      rw [if_neg hb, hb']; simp [ltB, ha', hb']

/-- The place of the first that none is before, among the first 'k' of 'l'. -/
def bst (l : List Nat) : Nat → Nat
  | 0 => 0
  | k + 1 => if rk (l.getD k 0) < rk (l.getD (bst l k) 0) then k else bst l k

def bestI (l : List Nat) : Int := if l.length = 0 then -1 else bst l l.length

theorem bst_facts (l : List Nat) (k : Nat) (h : 0 < k) : bst l k < k ∧ (∀ i, i < k → rk (l.getD (bst l k) 0) ≤ rk (l.getD i 0)) ∧ ∀ i, i < bst l k → rk (l.getD (bst l k) 0) < rk (l.getD i 0) := by
  induction k with
  | zero => omega
  | succ n ih =>
    by_cases h0 : n = 0
    · subst h0
      have e : bst l 1 = 0 := by unfold bst; rw [show bst l 0 = 0 from rfl]; simp
      rw [e]
      exact ⟨by omega, fun i hi => by have : i = 0 := by omega
                                      subst this; exact Int.le_refl _, fun i hi => by omega⟩
    · obtain ⟨a, b, c⟩ := ih (by omega)
      show (if rk (l.getD n 0) < rk (l.getD (bst l n) 0) then n else bst l n) < n + 1 ∧ (∀ i, i < n + 1 → rk (l.getD (if rk (l.getD n 0) < rk (l.getD (bst l n) 0) then n else bst l n) 0) ≤ rk (l.getD i 0)) ∧ ∀ i, i < (if rk (l.getD n 0) < rk (l.getD (bst l n) 0) then n else bst l n) → rk (l.getD (if rk (l.getD n 0) < rk (l.getD (bst l n) 0) then n else bst l n) 0) < rk (l.getD i 0)
      by_cases g : rk (l.getD n 0) < rk (l.getD (bst l n) 0)
      · simp only [if_pos g]
        refine ⟨by omega, fun i hi => ?_, fun i hi => ?_⟩
        · by_cases e : i = n
          · subst e; exact Int.le_refl _
          · have := b i (by omega); omega
        · have := b i hi; omega
      · simp only [if_neg g]
        refine ⟨by omega, fun i hi => ?_, c⟩
        by_cases e : i = n
        · subst e; omega
        · exact b i (by omega)

/-- It is the only place such. -/
theorem bst_only (l : List Nat) (n : Nat) (hn : n < l.length) (h1 : ∀ i, i < l.length → rk (l.getD n 0) ≤ rk (l.getD i 0)) (h2 : ∀ j, j < n → ∃ i, i < l.length ∧ rk (l.getD i 0) < rk (l.getD j 0)) : bestI l = n := by
  unfold bestI
  rw [if_neg (by omega)]
  obtain ⟨a, b, c⟩ := bst_facts l l.length (by omega)
  have e : bst l l.length = n := by
    by_cases g : bst l l.length < n
    · obtain ⟨i, hi, hlt⟩ := h2 _ g
      have := b i hi; omega
    · by_cases g' : n < bst l l.length
      · have := c n g'; have := h1 _ a; omega
      · omega
  rw [e]

/-! ### Wait -/

theorem rval_inj {r s : Nat} (h : rval r = rval s) : r = s := by
  by_cases a : r < s
  · have := rval_lt a; omega
  · by_cases b : s < r
    · have := rval_lt b; omega
    · omega

theorem V_le {k l : Int} (h : k ≤ l) : V k ≤ V l := by
  unfold V
  by_cases h1 : k < 0
  · rw [if_pos h1]
    by_cases h2 : l < 0
    · rw [if_pos h2]
      have := rval_le (r := l.natAbs) (s := k.natAbs) (by omega)
      generalize rval l.natAbs = a at *; generalize rval k.natAbs = b at *; omega
    · rw [if_neg h2]
      generalize rval l.natAbs = a at *; generalize rval k.natAbs = b at *; omega
  · rw [if_neg h1, if_neg (by omega)]
    have := rval_le (r := k.natAbs) (s := l.natAbs) (by omega)
    generalize rval l.natAbs = a at *; generalize rval k.natAbs = b at *; omega

theorem V_lt {k l : Int} (h : k < l) : V k < V l := by
  have h0 := V_le (show k ≤ l by omega)
  refine Int.lt_iff_le_and_ne.mpr ⟨h0, fun e => ?_⟩
  unfold V at e
  by_cases h1 : k < 0
  · rw [if_pos h1] at e
    by_cases h2 : l < 0
    · rw [if_pos h2] at e
      have : k.natAbs = l.natAbs := rval_inj (by generalize rval l.natAbs = a at *; generalize rval k.natAbs = b at *; omega)
      omega
    · rw [if_neg h2] at e
      have h3 := rval_lt (r := 0) (s := k.natAbs) (by omega)
      generalize rval l.natAbs = a at *; generalize rval k.natAbs = b at *; omega
  · rw [if_neg h1, if_neg (by omega)] at e
    have : k.natAbs = l.natAbs := rval_inj (by generalize rval l.natAbs = a at *; generalize rval k.natAbs = b at *; omega)
    omega

theorem V_lt_iff {k l : Int} : V k < V l ↔ k < l := by
  refine ⟨fun h => Int.lt_of_not_ge fun g => ?_, V_lt⟩
  have := V_le g; omega

theorem V_inj {k l : Int} (h : V k = V l) : k = l := by
  by_cases a : k < l
  · have := V_lt a; omega
  · by_cases b : l < k
    · have := V_lt b; omega
    · omega

theorem V_neg (k : Int) : V (-k) = -V k := by
  unfold V
  by_cases h : k < 0
  · rw [if_neg (by omega), if_pos h, Int.natAbs_neg]; omega
  · by_cases e : k = 0
    · subst e; simp [rval_zero]
    · rw [if_pos (by omega), if_neg h, Int.natAbs_neg]

theorem KW_fin {k : Int} (h : k.natAbs < 9218868437227405312) : KW k = V k * (sc : Int) := by
  have e : av k.natAbs = rval k.natAbs * sc := by unfold av; rw [if_neg (by omega)]
  unfold KW V
  rw [e]
  by_cases g : k < 0
  · rw [if_pos g, if_pos g, Int.neg_mul]; push_cast; rfl
  · rw [if_neg g, if_neg g]; push_cast; rfl

theorem RS_V {k : Int} (h : k.natAbs < 9218868437227405312) : RS (V k * (sc : Int)) = k := by
  rw [← KW_fin h, RS_KW (by omega)]

/-- The whole numbers below 2^53 are words. -/
theorem whole_rung {n : Nat} (h0 : 0 < n) (h : n < 9007199254740992) : ∃ r, r < 9218868437227405312 ∧ rval r = n * sc := by
  have hl : n.log2 < 53 := (Nat.log2_lt (by omega)).mpr (by omega)
  have h1 := Nat.log2_self_le (n := n) (by omega)
  have h2 := Nat.lt_log2_self (n := n)
  generalize n.log2 = j at *
  have e1 : 2 ^ j * 2 ^ (52 - j) = 4503599627370496 := by rw [← Nat.pow_add]; have : j + (52 - j) = 52 := by omega
                                                          rw [this]
  have h3 : 4503599627370496 ≤ n * 2 ^ (52 - j) := by rw [← e1]; exact Nat.mul_le_mul_right _ h1
  have h4 : n * 2 ^ (52 - j) < 9007199254740992 := by
    have : 2 ^ (j + 1) * 2 ^ (52 - j) = 9007199254740992 := by rw [Nat.pow_succ, Nat.mul_right_comm, e1]
    rw [← this]; exact Nat.mul_lt_mul_of_pos_right h2 (Nat.two_pow_pos _)
  refine ⟨(1022 + j + 1) * 4503599627370496 + (n * 2 ^ (52 - j) - 4503599627370496), ?_, ?_⟩
  · generalize n * 2 ^ (52 - j) = x at *; omega
  · rw [rval_big (q := 1022 + j) (t := n * 2 ^ (52 - j) - 4503599627370496) (by generalize n * 2 ^ (52 - j) = x at *; omega) rfl]
    have e2 : 4503599627370496 + (n * 2 ^ (52 - j) - 4503599627370496) = n * 2 ^ (52 - j) := by generalize n * 2 ^ (52 - j) = x at *; omega
    rw [e2, Nat.mul_assoc, ← Nat.pow_add]
    have e3 : 52 - j + (1022 + j) = ux := by unfold ux; omega
    rw [e3]; rfl

theorem whole_key {c : Int} (h0 : 0 < c) (h : c < 9007199254740992) : ∃ k : Int, 0 ≤ k ∧ k < 9218868437227405312 ∧ V k = c * (sc : Int) := by
  obtain ⟨n, rfl⟩ := Int.eq_ofNat_of_zero_le (show 0 ≤ c by omega)
  obtain ⟨r, hr, hv⟩ := whole_rung (n := n) (by omega) (by omega)
  refine ⟨(r : Int), by omega, by omega, ?_⟩
  unfold V
  rw [if_neg (by omega)]
  have : ((r : Int)).natAbs = r := by omega
  rw [this, hv]; push_cast; rfl

theorem V60 : V 4633641066610819072 = 60 * (sc : Int) := by decide +kernel
theorem V2 : V 4611686018427387904 = 2 * (sc : Int) := by decide +kernel
theorem V4 : V 4616189618054758400 = 4 * (sc : Int) := by decide +kernel
theorem V1 : V 4607182418800017408 = (sc : Int) := by decide +kernel
theorem k60 : key 4633641066610819072 = 4633641066610819072 ∧ isN 4633641066610819072 = false := by decide +kernel
theorem k2 : key 4611686018427387904 = 4611686018427387904 ∧ isN 4611686018427387904 = false := by decide +kernel
theorem k4 : key 4616189618054758400 = 4616189618054758400 ∧ isN 4616189618054758400 = false := by decide +kernel
theorem k1 : key 4607182418800017408 = 4607182418800017408 ∧ isN 4607182418800017408 = false := by decide +kernel

/-- How long one waits, by the key of mean and four times spread. -/
def waitI (k : Int) : Int := max 2 (min 60 (cl (V k)))

theorem waitI_mono {k l : Int} (h : k ≤ l) : waitI k ≤ waitI l := by
  have := cl_mono (V_le h)
  unfold waitI
  generalize cl (V k) = a at *; generalize cl (V l) = b at *; omega

theorem waitI_bd (k : Int) : 2 ≤ waitI k ∧ waitI k ≤ 60 := by
  unfold waitI
  generalize cl (V k) = a; omega

/-- The word that Ceil gives. -/
def ceilW (x : Nat) : Nat := double.write ((double.read x).integral .up)

theorem cl_ge {v c : Int} (h : (c - 1) * (sc : Int) < v) : c ≤ cl v := by
  unfold cl
  have hs : (0 : Int) < sc := by have := sc_pos; omega
  have : (-v) / (sc : Int) < 1 - c := by
    refine Int.ediv_lt_of_lt_mul hs ?_
    have : (1 - c) * (sc : Int) = -((c - 1) * (sc : Int)) := by rw [← Int.neg_mul]; congr 1; omega
    rw [this]; omega
  omega

theorem cl_le {v c : Int} (h : v ≤ c * (sc : Int)) : cl v ≤ c := by
  unfold cl
  have hs : (0 : Int) < sc := by have := sc_pos; omega
  have : -c ≤ (-v) / (sc : Int) := by
    refine (Int.le_ediv_iff_mul_le hs).mpr ?_
    rw [Int.neg_mul]; omega
  omega

/-- Where Ceil's word stands. -/
theorem ceil_word {x : Nat} (hx : isN x = false) :
    isN (ceilW x) = false ∧ ceilW x < 18446744073709551616 ∧
    (60 ≤ cl (V (key x)) → 4633641066610819072 ≤ key (ceilW x)) ∧
    (cl (V (key x)) ≤ 2 → key (ceilW x) ≤ 4611686018427387904) ∧
    (2 ≤ cl (V (key x)) → cl (V (key x)) ≤ 60 → V (key (ceilW x)) = cl (V (key x)) * (sc : Int) ∧ (key (ceilW x)).natAbs < 9218868437227405312) := by
  have hs : (0 : Int) < sc := by have := sc_pos; omega
  have e60 : RS (60 * (one : Int)) = 4633641066610819072 := by
    have := RS_V (k := 4633641066610819072) (by decide)
    rw [V60, Int.mul_assoc] at this
    have e : (one : Int) = (sc : Int) * (sc : Int) := by unfold one; push_cast; rfl
    rw [e]; exact this
  have e2 : RS (2 * (one : Int)) = 4611686018427387904 := by
    have := RS_V (k := 4611686018427387904) (by decide)
    rw [V2, Int.mul_assoc] at this
    have e : (one : Int) = (sc : Int) * (sc : Int) := by unfold one; push_cast; rfl
    rw [e]; exact this
  have h1 : (0 : Int) ≤ one := by omega
  by_cases hf : (key x).natAbs < 9218868437227405312
  · obtain ⟨w1, w2, w3⟩ := ceil_facts hf
    refine ⟨w1, w3, fun h => ?_, fun h => ?_, fun ha hb => ?_⟩
    · show _ ≤ key (double.write _)
      rw [w2, ← e60]; exact RS_mono (Int.mul_le_mul_of_nonneg_right h h1)
    · show key (double.write _) ≤ _
      rw [w2, ← e2]; exact RS_mono (Int.mul_le_mul_of_nonneg_right h h1)
    · show V (key (double.write _)) = _ ∧ (key (double.write _)).natAbs < _
      rw [w2]
      generalize cl (V (key x)) = c at *
      obtain ⟨k, k0, k1, kv⟩ := whole_key (c := c) (by omega) (by omega)
      have e : (one : Int) = (sc : Int) * (sc : Int) := by unfold one; push_cast; rfl
      have : RS (c * (one : Int)) = k := by
        rw [e, ← Int.mul_assoc, ← kv]; exact RS_V (by omega)
      rw [this]; exact ⟨kv, by omega⟩
  · have hk := key_abs hx
    have hi : (key x).natAbs = 9218868437227405312 := by omega
    have hr : ∃ s, double.read x = .infinity s ∧ key x = sg s 9218868437227405312 := by
      rw [key_mod] at hi
      refine ⟨_, ((read_at x).trans (if_neg (by omega))).trans ((if_neg (by omega)).trans (if_pos hi)), by rw [key_sg, hi]⟩
    obtain ⟨s, hr, hks⟩ := hr
    have hw : ceilW x = double.word s 9218868437227405312 := by unfold ceilW; rw [hr]; rfl
    obtain ⟨w1, w2, w3⟩ := word_facts (s := s) (Nat.le_refl 9218868437227405312)
    rw [hw, w2]
    refine ⟨w1, w3, fun h => ?_, fun h => ?_, fun ha hb => ?_⟩
    · cases s
      · unfold sg; simp
      · exfalso
        have : cl (V (key x)) ≤ 0 := cl_le (by
          have := V_le (k := key x) (l := 0) (by rw [hks]; unfold sg; simp)
          have e0 : V 0 = 0 := by unfold V; simp [rval_zero]
          omega)
        omega
    · cases s
      · exfalso
        have : 60 ≤ cl (V (key x)) := by
          have h60 := V_lt (k := 4633641066610819072) (l := key x) (by rw [hks]; unfold sg; simp)
          rw [V60] at h60
          exact cl_ge (by omega)
        omega
      · unfold sg; simp
    · exfalso
      cases s
      · have h60 := V_lt (k := 4633641066610819073) (l := key x) (by rw [hks]; unfold sg; simp)
        have h61 := V_lt (k := 4633641066610819072) (l := 4633641066610819073) (by omega)
        have hb' : 61 ≤ cl (V (key x)) := cl_ge (by
          have := V_lt (k := 4633641066610819072) (l := key x) (by rw [hks]; unfold sg; simp)
          rw [V60] at this; omega)
        omega
      · have : cl (V (key x)) ≤ 0 := cl_le (by
          have := V_le (k := key x) (l := 0) (by rw [hks]; unfold sg; simp)
          have e0 : V 0 = 0 := by unfold V; simp [rval_zero]
          omega)
        omega

/-- What is told of mean and spread. -/
def waitV (mean spread : Nat) : Int :=
  match double.mul 4616189618054758400 spread with
  | none => 60
  | some p => match double.add mean p with
    | none => 60
    | some t => waitI (key t)

theorem wait_steps {mean spread p t : Nat} (hp : FR (double.mul 4616189618054758400 spread) p) (ht : FR (double.add mean p) t) :
    (isN t = true → waitV mean spread = 60) ∧ (isN t = false → waitV mean spread = waitI (key t)) := by
  have h3 : isN p = true → isN t = true := fun h => FR_none ht (add_nan (by simp [h]))
  refine ⟨fun h => ?_, fun h => ?_⟩
  · unfold waitV
    cases e2 : double.mul 4616189618054758400 spread with
    | none => rfl
    | some p' =>
      have := FR_some hp e2; subst this
      dsimp only
      cases e3 : double.add mean p with
      | none => rfl
      | some t' =>
        have := FR_some ht e3; subst this
        by_cases hop : (isN mean || isN p) = true
        · rw [add_nan hop] at e3; cases e3
        · have ⟨hmn, hpn⟩ : isN mean = false ∧ isN p = false := by simpa using hop
          rcases add_facts hmn hpn with ⟨g, _⟩ | ⟨r, g, gn, _⟩
          · rw [g] at e3; cases e3
          · rw [g] at e3
            have : r = t := by simpa using e3
            subst this; rw [gn] at h; cases h
  · have hpn : isN p = false := by
      cases hh : isN p with
      | false => rfl
      | true => rw [h3 hh] at h; cases h
    unfold waitV
    rw [some_of_notN hp hpn]
    dsimp only
    rw [some_of_notN ht h]

end Go.Proofs.Ytonjjblifcgapaa
