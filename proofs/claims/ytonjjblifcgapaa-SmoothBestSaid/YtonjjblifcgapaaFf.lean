import Derived.Test.YtonjjblifcgapaaFe
namespace Go.Proofs.Ytonjjblifcgapaa
set_option linter.unusedVariables false
open Ieee

/-! ### One never waits less for more -/

theorem RS_abs (n : Int) : (RS n).natAbs ≤ 9218868437227405312 := by
  unfold RS
  by_cases h : n < 0
  · rw [if_pos h]; have := rnd_le n.natAbs; generalize rnd n.natAbs = x at *; omega
  · rw [if_neg h]; have := rnd_le n.natAbs; generalize rnd n.natAbs = x at *; omega

def M4 (k : Int) : Int := if k = 9218868437227405312 then k else if k = -9218868437227405312 then k else RS (V 4616189618054758400 * V k)

theorem M4_mono {k l : Int} (h : k ≤ l) (hk : k.natAbs ≤ 9218868437227405312) (hl : l.natAbs ≤ 9218868437227405312) : M4 k ≤ M4 l := by
  have hs : (0 : Int) ≤ V 4616189618054758400 := by rw [V4]; have := sc_pos; omega
  have h1 := RS_abs (V 4616189618054758400 * V k)
  have h2 := RS_abs (V 4616189618054758400 * V l)
  have h3 := RS_mono (Int.mul_le_mul_of_nonneg_left (V_le h) hs)
  unfold M4
  generalize RS (V 4616189618054758400 * V k) = x at *
  generalize RS (V 4616189618054758400 * V l) = y at *
  repeat' split
  all_goals omega

theorem inf_read {x : Nat} (hi : (key x).natAbs = 9218868437227405312) : ∃ s, double.read x = .infinity s ∧ key x = sg s 9218868437227405312 := by
  rw [key_mod] at hi
  exact ⟨_, ((read_at x).trans (if_neg (by omega))).trans ((if_neg (by omega)).trans (if_pos hi)), by rw [key_sg, hi]⟩

theorem read4 : ∃ m q, double.read 4616189618054758400 = .number false (m + 1) q := ⟨4503599627370495, -1074 + 1024, by decide +kernel⟩

theorem mul4_facts {y : Nat} (hy : isN y = false) : ∃ r, double.mul 4616189618054758400 y = some r ∧ isN r = false ∧ key r = M4 (key y) := by
  by_cases hf : (key y).natAbs < 9218868437227405312
  · obtain ⟨r, h, hn, _, hk⟩ := mul_facts (x := 4616189618054758400) (y := y) (by rw [k4.1]; decide) hf
    refine ⟨r, h, hn, ?_⟩
    rw [hk, k4.1]; unfold M4
    rw [if_neg (by omega), if_neg (by omega)]
  · have hk := key_abs hy
    obtain ⟨s, hr, hks⟩ := inf_read (x := y) (by omega)
    obtain ⟨m, q, e4⟩ := read4
    obtain ⟨w1, w2, w3⟩ := word_facts (s := s) (Nat.le_refl 9218868437227405312)
    have hw : double.mul 4616189618054758400 y = some (double.word s 9218868437227405312) := by
      unfold Format.mul
      rw [hr, e4]
      show (if m + 1 = 0 then none else some (Datum.infinity (s ^^ false))).map double.write = _
      rw [if_neg (by omega)]
      cases s <;> rfl
    refine ⟨_, hw, w1, ?_⟩
    rw [w2, hks]
    unfold M4 sg
    cases s <;> simp

theorem waitV_bd (mean spread : Nat) : 2 ≤ waitV mean spread ∧ waitV mean spread ≤ 60 := by
  unfold waitV
  split
  · omega
  · split
    · omega
    · exact waitI_bd _

theorem add_le {x x' p p' r : Nat} (hx : isN x = false) (hx' : isN x' = false) (hp : isN p = false) (hp' : isN p' = false) (h : key x ≤ key x') (hpp : key p ≤ key p') (e : double.add x p = some r) :
    double.add x' p' = none ∨ ∃ r', double.add x' p' = some r' ∧ key r ≤ key r' := by
  rcases add_facts hx hp with ⟨g, _⟩ | ⟨r1, g, _, _, hk⟩
  · rw [g] at e; cases e
  · rw [g] at e
    have : r1 = r := by simpa using e
    subst this
    rcases add_facts hx' hp' with ⟨g', _⟩ | ⟨r2, g', _, _, hk'⟩
    · exact .inl g'
    · refine .inr ⟨r2, g', ?_⟩
      rw [hk, hk']
      refine RS_mono (Int.add_le_add ?_ ?_)
      · exact KW_le h (key_abs hx) (key_abs hx')
      · exact KW_le hpp (key_abs hp) (key_abs hp')

theorem rises_mean {mean a spread p t : Nat} (hm : isN mean = false) (ha : isN a = false) (h : key mean ≤ key a) (ep : double.mul 4616189618054758400 spread = some p) (et : double.add mean p = some t) (hp : isN p = false) : waitV mean spread ≤ waitV a spread := by
  have e1 : waitV mean spread = waitI (key t) := by unfold waitV; rw [ep]; dsimp only; rw [et]
  rw [e1]
  have hb := (waitI_bd (key t)).2
  rcases add_le hm ha hp hp h (Int.le_refl _) et with g | ⟨r', g, hk⟩
  · have : waitV a spread = 60 := by unfold waitV; rw [ep]; dsimp only; rw [g]
    rw [this]; exact hb
  · have : waitV a spread = waitI (key r') := by unfold waitV; rw [ep]; dsimp only; rw [g]
    rw [this]; exact waitI_mono hk

theorem rises_spread {mean spread b p t : Nat} (hm : isN mean = false) (hs : isN spread = false) (hb : isN b = false) (h : key spread ≤ key b) (ep : double.mul 4616189618054758400 spread = some p) (et : double.add mean p = some t) : waitV mean spread ≤ waitV mean b := by
  have e1 : waitV mean spread = waitI (key t) := by unfold waitV; rw [ep]; dsimp only; rw [et]
  rw [e1]
  have hbd := (waitI_bd (key t)).2
  obtain ⟨p1, g1, n1, k1⟩ := mul4_facts hs
  obtain ⟨p2, g2, n2, k2⟩ := mul4_facts hb
  rw [g1] at ep
  have : p1 = p := by simpa using ep
  subst this
  have hkk : key p1 ≤ key p2 := by rw [k1, k2]; exact M4_mono h (key_abs hs) (key_abs hb)
  rcases add_le hm hm n1 n2 (Int.le_refl _) hkk et with g | ⟨r', g, hk⟩
  · have : waitV mean b = 60 := by unfold waitV; rw [g2]; dsimp only; rw [g]
    rw [this]; exact hbd
  · have : waitV mean b = waitI (key r') := by unfold waitV; rw [g2]; dsimp only; rw [g]
    rw [this]; exact waitI_mono hk

/-- 'x >= y' on words. -/
def geB (x y : Nat) : Bool := ltB y x || eqB x y
theorem ord_ge (x y : Nat) : (double.order x y == some .gt || double.order x y == some .eq) = geB x y := by
  rw [ord_gt, ord_eq]; rfl
def leB (x y : Nat) : Bool := ltB x y || eqB x y
theorem ord_le (x y : Nat) : (double.order x y == some .lt || double.order x y == some .eq) = leB x y := by
  rw [ord_lt, ord_eq]; rfl
theorem ge_key {x y : Nat} : geB x y = true ↔ isN x = false ∧ isN y = false ∧ key y ≤ key x := by
  unfold geB
  rw [Bool.or_eq_true, lt_key, eq_key]
  constructor
  · rintro (⟨a, b, c⟩ | ⟨a, b, c⟩)
    · exact ⟨b, a, by omega⟩
    · exact ⟨a, b, by omega⟩
  · rintro ⟨a, b, c⟩
    by_cases e : key x = key y
    · exact .inr ⟨a, b, e⟩
    · exact .inl ⟨b, a, by omega⟩
theorem le_key {x y : Nat} : leB x y = true ↔ isN x = false ∧ isN y = false ∧ key x ≤ key y := by
  unfold leB
  rw [Bool.or_eq_true, lt_key, eq_key]
  constructor
  · rintro (⟨a, b, c⟩ | ⟨a, b, c⟩)
    · exact ⟨a, b, by omega⟩
    · exact ⟨a, b, by omega⟩
  · rintro ⟨a, b, c⟩
    by_cases e : key x = key y
    · exact .inr ⟨a, b, e⟩
    · exact .inl ⟨a, b, by omega⟩

/-- SmoothRises, behind its walk. -/
theorem rises_all {mean spread a b p t : Nat} (ha : geB a mean = true) (hb : geB b spread = true) (hp : FR (double.mul 4616189618054758400 spread) p) (ht : FR (double.add mean p) t) (hn : isN t = false) :
    waitV mean spread ≤ waitV a spread ∧ waitV mean spread ≤ waitV mean b := by
  obtain ⟨a1, a2, a3⟩ := ge_key.mp ha
  obtain ⟨b1, b2, b3⟩ := ge_key.mp hb
  have hpn : isN p = false := by
    cases hh : isN p with
    | false => rfl
    | true => have := FR_none ht (add_nan (by simp [hh])); rw [hn] at this; cases this
  have e1 := some_of_notN hp hpn
  have e2 := some_of_notN ht hn
  exact ⟨rises_mean a2 a1 a3 e1 e2 hpn, rises_spread a2 b2 b1 b3 e1 e2⟩

end Go.Proofs.Ytonjjblifcgapaa
