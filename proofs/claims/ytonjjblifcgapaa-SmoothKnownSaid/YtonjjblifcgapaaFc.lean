import Derived.Test.YtonjjblifcgapaaFb
namespace Go.Proofs.Ytonjjblifcgapaa
set_option linter.unusedVariables false
open Ieee

/-! ### The operations on words -/

theorem sg_mul (s : Bool) (a c : Nat) : sg s (a * c) = sg s a * (c : Int) := by
  unfold sg; cases s <;> simp [Int.neg_mul]

theorem signed_sg (s : Bool) (m k : Nat) : signed s m k = sg s (m * 2 ^ k) := by
  unfold signed sg; rw [Nat.shiftLeft_eq]

theorem sg_not (s : Bool) (n : Nat) : sg (!s) n = -sg s n := by unfold sg; cases s <;> simp

theorem sg_int (t : Int) (b : Bool) : sg (if t = 0 then b else decide (t < 0)) t.natAbs = t := by
  by_cases h : t = 0
  · subst h; unfold sg; simp
  · rw [if_neg h]; unfold sg
    by_cases g : t < 0
    · simp [g]; omega
    · simp [g]; omega

theorem place_split {i b : Int} (hb : -2148 ≤ b) (h : b ≤ i) (m : Nat) : m * 2 ^ (i + 2148).toNat = m * 2 ^ (i - b).toNat * 2 ^ (b + 2148).toNat := by
  rw [Nat.mul_assoc, ← Nat.pow_add]
  have : (i + 2148).toNat = (i - b).toNat + (b + 2148).toNat := by omega
  rw [this]

theorem DV_lt {d : Datum} (h : Fine d) (hi : d.isInfinity = false) : (DV d).natAbs < top := by
  cases d with
  | number s m p => show (sg s _).natAbs < top; rw [sg_natAbs]; exact h.2
  | infinity s => cases hi
  | nan s f => exact h.elim

theorem RS_pos_top {n : Int} (h : (top : Int) ≤ n) : RS n = 9218868437227405312 := by
  have ht := top_pos
  unfold RS
  rw [if_neg (by omega), rnd_top (by omega)]; rfl

theorem RS_neg_top {n : Int} (h : n ≤ -(top : Int)) : RS n = -9218868437227405312 := by
  have ht := top_pos
  unfold RS
  rw [if_pos (by omega), rnd_top (by omega)]; rfl

theorem RS_inf_add {s : Bool} {v : Int} (h : v.natAbs < top) : RS (sg s (2 * top) + v) = RS (sg s (2 * top)) := by
  have ht := top_pos
  cases s
  · have e : sg false (2 * top) = 2 * (top : Int) := by unfold sg; simp
    rw [e, RS_pos_top (by omega), RS_pos_top (by omega)]
  · have e : sg true (2 * top) = -(2 * (top : Int)) := by unfold sg; simp
    rw [e, RS_neg_top (by omega), RS_neg_top (by omega)]

/-- The sum of two data: an infinity less itself is none; else what is written is the exact sum, rounded. -/
theorem sum_facts {a b : Datum} (ha : Fine a) (hb : Fine b) :
    (a.sum b = none ∧ ∃ s, a = .infinity s ∧ b = .infinity (!s)) ∨ ∃ d, a.sum b = some d ∧ Okay d ∧ RS (DV d) = RS (DV a + DV b) := by
  cases a with
  | nan s f => exact ha.elim
  | infinity s =>
    cases b with
    | nan t f => exact hb.elim
    | infinity t =>
      by_cases e : s = t
      · subst e
        refine .inr ⟨.infinity s, by simp [Datum.sum], trivial, ?_⟩
        show RS (sg s (2 * top)) = RS (sg s (2 * top) + sg s (2 * top))
        have ht := top_pos
        cases s
        · have e1 : sg false (2 * top) = 2 * (top : Int) := by unfold sg; simp
          rw [e1, RS_pos_top (by omega), RS_pos_top (by omega)]
        · have e1 : sg true (2 * top) = -(2 * (top : Int)) := by unfold sg; simp
          rw [e1, RS_neg_top (by omega), RS_neg_top (by omega)]
      · refine .inl ⟨by simp [Datum.sum, e], s, rfl, ?_⟩
        cases s <;> cases t <;> simp_all
    | number t n j =>
      refine .inr ⟨.infinity s, rfl, trivial, ?_⟩
      exact (RS_inf_add (DV_lt hb rfl)).symm
  | number s m i =>
    cases b with
    | nan t f => exact hb.elim
    | infinity t =>
      refine .inr ⟨.infinity t, rfl, trivial, ?_⟩
      rw [Int.add_comm]
      exact (RS_inf_add (DV_lt ha rfl)).symm
    | number t n j =>
      have hi := ha.1
      have hj := hb.1
      refine .inr ⟨_, rfl, (by show -2148 ≤ min i j; omega), congrArg RS ?_⟩
      show sg _ ((signed s m (i - min i j).toNat + signed t n (j - min i j).toNat).natAbs * 2 ^ (min i j + 2148).toNat) = sg s (m * 2 ^ (i + 2148).toNat) + sg t (n * 2 ^ (j + 2148).toNat)
      rw [sg_mul, sg_int, signed_sg, signed_sg, place_split (b := min i j) (by omega) (by omega) m, place_split (b := min i j) (by omega) (by omega) n, sg_mul s (m * _), sg_mul t (n * _), Int.add_mul]

theorem fine_opp {d : Datum} (h : Fine d) : Fine d.opposite ∧ DV d.opposite = -DV d := by
  cases d with
  | number s m p => exact ⟨h, sg_not s _⟩
  | infinity s => exact ⟨trivial, sg_not s _⟩
  | nan s f => exact h.elim

theorem read_inf {b : Nat} {s : Bool} (h : double.read b = .infinity s) : key b = sg s 9218868437227405312 := by
  by_cases hn : isN b = true
  · obtain ⟨s', f, e⟩ := read_nan hn
    rw [e] at h; cases h
  · have hf := (read_fine (by simpa using hn)).2
    rw [h] at hf
    have h1 : RS (KW (key b)) = sg s 9218868437227405312 := by
      rw [← hf]; show RS (sg s (2 * top)) = _
      rw [RS_sg, rnd_top (Nat.le_mul_of_pos_left _ (by decide))]
    rwa [RS_KW (key_abs (by simpa using hn))] at h1

/-- What an operation gives: the bits 'r', as 'k' says; or nothing, where 'bad' says. -/
theorem add_facts {x y : Nat} (hx : isN x = false) (hy : isN y = false) :
    (double.add x y = none ∧ (key x).natAbs = 9218868437227405312 ∧ key y = -key x) ∨
    ∃ r, double.add x y = some r ∧ isN r = false ∧ r < 18446744073709551616 ∧ key r = RS (KW (key x) + KW (key y)) := by
  obtain ⟨fx, vx⟩ := read_fine hx
  obtain ⟨fy, vy⟩ := read_fine hy
  unfold Format.add
  rcases sum_facts fx fy with ⟨h, s, e1, e2⟩ | ⟨d, h, hd, hv⟩
  · refine .inl ⟨by rw [h]; rfl, ?_, ?_⟩
    · rw [read_inf e1, sg_natAbs]
    · rw [read_inf e1, read_inf e2, sg_not]
  · obtain ⟨w1, w2, w3⟩ := write_facts hd
    exact .inr ⟨_, by rw [h]; rfl, w1, w3, by rw [w2, hv, vx, vy]⟩

theorem sub_facts {x y : Nat} (hx : isN x = false) (hy : isN y = false) :
    (double.sub x y = none ∧ (key x).natAbs = 9218868437227405312 ∧ key y = key x) ∨
    ∃ r, double.sub x y = some r ∧ isN r = false ∧ r < 18446744073709551616 ∧ key r = RS (KW (key x) - KW (key y)) := by
  obtain ⟨fx, vx⟩ := read_fine hx
  obtain ⟨fy, vy⟩ := read_fine hy
  obtain ⟨fo, vo⟩ := fine_opp fy
  unfold Format.sub
  rcases sum_facts fx fo with ⟨h, s, e1, e2⟩ | ⟨d, h, hd, hv⟩
  · refine .inl ⟨by rw [h]; rfl, ?_, ?_⟩
    · rw [read_inf e1, sg_natAbs]
    · have e3 : double.read y = .infinity s := by
        revert e2
        cases double.read y with
        | number t m p => intro g; cases g
        | infinity t => intro g; simp [Datum.opposite] at g; rw [g]
        | nan t f => intro g; cases g
      rw [read_inf e1, read_inf e3]
  · obtain ⟨w1, w2, w3⟩ := write_facts hd
    exact .inr ⟨_, by rw [h]; rfl, w1, w3, by rw [w2, hv, vx, vo, vy, Int.sub_eq_add_neg]⟩

theorem nan_sum_left {a b : Datum} (h : a.isNaN = true) : a.sum b = none := by
  cases a <;> first | (cases h; done) | (cases b <;> rfl)
theorem nan_sum_right {a b : Datum} (h : b.isNaN = true) : a.sum b = none := by
  cases b <;> first | (cases h; done) | (cases a <;> rfl)
theorem read_isNaN (b : Nat) : (double.read b).isNaN = isN b := by
  by_cases h : isN b = true
  · obtain ⟨s, f, e⟩ := read_nan h; rw [e, h]; rfl
  · have h' : isN b = false := by simpa using h
    have := (read_fine h').1
    rw [h']
    revert this
    cases double.read b with
    | nan s f => intro g; exact g.elim
    | _ => intro _; rfl

theorem add_nan {x y : Nat} (h : (isN x || isN y) = true) : double.add x y = none := by
  unfold Format.add
  rcases Bool.or_eq_true _ _ ▸ h with g | g
  · rw [nan_sum_left (by rw [read_isNaN]; exact g)]; rfl
  · rw [nan_sum_right (by rw [read_isNaN]; exact g)]; rfl

theorem opp_isNaN (d : Datum) : d.opposite.isNaN = d.isNaN := by cases d <;> rfl

theorem sub_nan {x y : Nat} (h : (isN x || isN y) = true) : double.sub x y = none := by
  unfold Format.sub
  rcases Bool.or_eq_true _ _ ▸ h with g | g
  · rw [nan_sum_left (by rw [read_isNaN]; exact g)]; rfl
  · rw [nan_sum_right (by rw [opp_isNaN, read_isNaN]; exact g)]; rfl

theorem nan_product {a b : Datum} (h : (a.isNaN || b.isNaN) = true) : a.product b = none := by
  cases a <;> cases b <;> first | rfl | (cases h; done)

theorem mul_nan {x y : Nat} (h : (isN x || isN y) = true) : double.mul x y = none := by
  unfold Format.mul
  rw [nan_product (by rw [read_isNaN, read_isNaN]; exact h)]; rfl

/-- What a finite word stands for, in units of 2^-1074. -/
def V (k : Int) : Int := if k < 0 then -(rval k.natAbs : Int) else rval k.natAbs

theorem V_sg (s : Bool) (r : Nat) : V (sg s r) = sg s (rval r) := by
  unfold V sg
  cases s
  · simp only [Bool.false_eq_true, if_false]
    rw [if_neg (by omega)]; simp
  · simp only [if_true]
    by_cases h : r = 0
    · subst h; simp [rval_zero]
    · rw [if_pos (by omega)]; simp

theorem key_mod (b : Nat) : (key b).natAbs = b % 9223372036854775808 := by rw [key_sg, sg_natAbs]

theorem read_fin {b : Nat} (h : (key b).natAbs < 9218868437227405312) :
    ∃ s m, ∃ q : Nat, double.read b = .number s m (-1074 + (q : Int)) ∧ V (key b) = sg s (m * 2 ^ q) := by
  rw [key_mod] at h
  obtain ⟨m, q, e, hv⟩ := read_num h
  exact ⟨_, m, q, e, by rw [key_sg, V_sg, hv]⟩

theorem sg_mul_sg (s t : Bool) (a b : Nat) : sg (s ^^ t) (a * b) = sg s a * sg t b := by
  unfold sg; cases s <;> cases t <;> simp [Int.neg_mul, Int.mul_neg]

theorem two_places (i j : Nat) : (-1074 + (i : Int) + (-1074 + (j : Int)) + 2148).toNat = i + j := by omega

theorem mul_facts {x y : Nat} (hx : (key x).natAbs < 9218868437227405312) (hy : (key y).natAbs < 9218868437227405312) :
    ∃ r, double.mul x y = some r ∧ isN r = false ∧ r < 18446744073709551616 ∧ key r = RS (V (key x) * V (key y)) := by
  obtain ⟨s, m, i, ex, vx⟩ := read_fin hx
  obtain ⟨t, n, j, ey, vy⟩ := read_fin hy
  have hd : Okay (.number (s ^^ t) (m * n) (-1074 + (i : Int) + (-1074 + (j : Int)))) := by show -2148 ≤ _; omega
  obtain ⟨w1, w2, w3⟩ := write_facts hd
  refine ⟨_, by unfold Format.mul; rw [ex, ey]; rfl, w1, w3, ?_⟩
  rw [w2, vx, vy]
  show RS (sg (s ^^ t) (m * n * 2 ^ _)) = _
  rw [two_places, ← sg_mul_sg]
  congr 2
  rw [Nat.pow_add]
  ac_rfl

end Go.Proofs.Ytonjjblifcgapaa
