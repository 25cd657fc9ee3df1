/-
  The walk over bits.Div64 (the library's own text), for a divisor of at most 2^53: it returns the quotient.
-/
import Derived.Test.YtjlhklijibpbeaaWa
import Derived.Test.YtjlhklijibpbeaaShelf
import Derived.Lib.Hide
import Derived.Deep.CutBlock
import Derived.Deep.DeepCutAuto
namespace Go.Proofs.Ytjlhklijibpbeaa
open Go.RowKit

/-! ### The long division by digits to the base 2^32: no Go in sight -/

/-- An estimate of the quotient of U * 2^32 + u by Y = Y1 * 2^32 + Y0: not too small, and its rest r by Y1 alone. -/
def Est (U Y1 Y0 u q r : Int) : Prop :=
  q * Y1 + r = U ∧ 0 ≤ r ∧ r < 4294967296 ∧ q ≤ 4294967297 ∧ (U * 4294967296 + u) / (Y1 * 4294967296 + Y0) ≤ q

structure Digits (U Y1 Y0 u : Int) : Prop where
  u0 : 0 ≤ U
  u1 : U < Y1 * 4294967296 + Y0
  a0 : 2147483648 ≤ Y1
  a1 : Y1 ≤ 4294967295
  b0 : 0 ≤ Y0
  b1 : Y0 ≤ 4294967295
  v0 : 0 ≤ u
  v1 : u ≤ 4294967295

theorem quo_le_of_lt {N D q : Int} (hD : 0 < D) (h : N < (q + 1) * D) : N / D ≤ q := by
  have := (Int.ediv_lt_iff_lt_mul hD).mpr h
  omega
theorem le_quo_of_le {N D q : Int} (hD : 0 < D) (h : q * D ≤ N) : q ≤ N / D := (Int.le_ediv_iff_mul_le hD).mpr h

theorem Digits.nonneg {U Y1 Y0 u : Int} (D : Digits U Y1 Y0 u) : 0 ≤ (U * 4294967296 + u) / (Y1 * 4294967296 + Y0) :=
  Int.ediv_nonneg (by have := D.u0; have := D.v0; omega) (by have := D.a0; have := D.b0; omega)
theorem Digits.small {U Y1 Y0 u : Int} (D : Digits U Y1 Y0 u) : (U * 4294967296 + u) / (Y1 * 4294967296 + Y0) ≤ 4294967295 := by
  obtain ⟨u0, u1, a0, a1, b0, b1, v0, v1⟩ := D
  exact quo_le_of_lt (by omega) (by omega)

theorem est_start {U Y1 Y0 u : Int} (D : Digits U Y1 Y0 u) : Est U Y1 Y0 u (U / Y1) (U - U / Y1 * Y1) := by
  obtain ⟨u0, u1, a0, a1, b0, b1, v0, v1⟩ := D
  have e := Int.mul_ediv_add_emod U Y1
  have m0 := Int.emod_nonneg U (b := Y1) (by omega)
  have m1 := Int.emod_lt_of_pos U (b := Y1) (by omega)
  have ec : U / Y1 * Y1 = Y1 * (U / Y1) := Int.mul_comm _ _
  have eq : U / Y1 ≤ 4294967297 := quo_le_of_lt (by omega) (by omega)
  have q0 : 0 ≤ U / Y1 := Int.ediv_nonneg u0 (by omega)
  refine ⟨by omega, by omega, by omega, eq, quo_le_of_lt (by omega) ?_⟩
  have e2 : (U / Y1 + 1) * (Y1 * 4294967296 + Y0) = (U / Y1 * Y1 + Y1) * 4294967296 + (U / Y1 + 1) * Y0 := by grind
  have e3 : 0 ≤ (U / Y1 + 1) * Y0 := Int.mul_nonneg (by omega) b0
  rw [e2]
  generalize (U / Y1 + 1) * Y0 = z at *
  generalize U / Y1 * Y1 = p at *
  omega

theorem est_less {U Y1 Y0 u q r : Int} (D : Digits U Y1 Y0 u) (h : Est U Y1 Y0 u q r) (t : 4294967296 ≤ q ∨ 4294967296 * r + u < q * Y0) :
    (U * 4294967296 + u) / (Y1 * 4294967296 + Y0) ≤ q - 1 := by
  obtain ⟨h1, h2, h3, h4, h5⟩ := h
  rcases t with t | t
  · have := D.small; omega
  · obtain ⟨u0, u1, a0, a1, b0, b1, v0, v1⟩ := D
    refine quo_le_of_lt (by omega) ?_
    have e2 : (q - 1 + 1) * (Y1 * 4294967296 + Y0) = q * Y1 * 4294967296 + q * Y0 := by grind
    rw [e2]
    generalize q * Y0 = z at *
    generalize q * Y1 = p at *
    omega

theorem est_go {U Y1 Y0 u q r : Int} (D : Digits U Y1 Y0 u) (h : Est U Y1 Y0 u q r) (t : 4294967296 ≤ q ∨ 4294967296 * r + u < q * Y0) (g : r + Y1 < 4294967296) :
    Est U Y1 Y0 u (q - 1) (r + Y1) := by
  have hl := est_less D h t
  obtain ⟨h1, h2, h3, h4, h5⟩ := h
  have := D.a0
  exact ⟨by rw [← h1]; grind, by omega, g, by omega, hl⟩

theorem est_break {U Y1 Y0 u q r : Int} (D : Digits U Y1 Y0 u) (h : Est U Y1 Y0 u q r) (t : 4294967296 ≤ q ∨ 4294967296 * r + u < q * Y0) (g : 4294967296 ≤ r + Y1) :
    q - 1 = (U * 4294967296 + u) / (Y1 * 4294967296 + Y0) := by
  have hl := est_less D h t
  have hn := D.nonneg
  obtain ⟨h1, h2, h3, h4, h5⟩ := h
  obtain ⟨u0, u1, a0, a1, b0, b1, v0, v1⟩ := D
  refine Int.le_antisymm (le_quo_of_le (by omega) ?_) hl
  have e2 : (q - 1) * (Y1 * 4294967296 + Y0) = (q * Y1 - Y1) * 4294967296 + (q - 1) * Y0 := by grind
  have e3 : (q - 1) * Y0 ≤ 4294967296 * 4294967295 := Int.mul_le_mul (by omega) b1 b0 (by omega)
  rw [e2]
  generalize (q - 1) * Y0 = z at *
  generalize q * Y1 = p at *
  omega

theorem est_stop {U Y1 Y0 u q r : Int} (D : Digits U Y1 Y0 u) (h : Est U Y1 Y0 u q r) (t : q * Y0 ≤ 4294967296 * r + u) :
    q = (U * 4294967296 + u) / (Y1 * 4294967296 + Y0) := by
  obtain ⟨h1, h2, h3, h4, h5⟩ := h
  obtain ⟨u0, u1, a0, a1, b0, b1, v0, v1⟩ := D
  refine Int.le_antisymm (le_quo_of_le (by omega) ?_) h5
  have e2 : q * (Y1 * 4294967296 + Y0) = q * Y1 * 4294967296 + q * Y0 := by grind
  rw [e2]
  generalize q * Y0 = z at *
  generalize q * Y1 = p at *
  omega

theorem est_q {U Y1 Y0 u q r : Int} (D : Digits U Y1 Y0 u) (h : Est U Y1 Y0 u q r) : 0 ≤ q ∧ q ≤ 4294967297 ∧ 0 ≤ r ∧ r ≤ 4294967295 := by
  have hn := D.nonneg
  obtain ⟨h1, h2, h3, h4, h5⟩ := h
  omega

theorem prod_bd {q z : Int} (h0 : 0 ≤ q) (h1 : q ≤ 4294967295) (g0 : 0 ≤ z) (g1 : z ≤ 4294967295) : 0 ≤ q * z ∧ q * z ≤ 18446744065119617025 :=
  ⟨Int.mul_nonneg h0 g0, by have := Int.mul_le_mul h1 g1 g0 (by omega : (0 : Int) ≤ 4294967295); omega⟩

/-- The rest as the words reckon it. -/
theorem rest_wrap {U Y1 Y0 u : Int} (D : Digits U Y1 Y0 u) :
    IntKind.u64.wrap (IntKind.u64.wrap (IntKind.u64.wrap (U * 4294967296) + u) - IntKind.u64.wrap ((U * 4294967296 + u) / (Y1 * 4294967296 + Y0) * (Y1 * 4294967296 + Y0))) = (U * 4294967296 + u) % (Y1 * 4294967296 + Y0) := by
  obtain ⟨u0, u1, a0, a1, b0, b1, v0, v1⟩ := D
  have e := Int.mul_ediv_add_emod (U * 4294967296 + u) (Y1 * 4294967296 + Y0)
  have m0 := Int.emod_nonneg (U * 4294967296 + u) (b := Y1 * 4294967296 + Y0) (by omega)
  have m1 := Int.emod_lt_of_pos (U * 4294967296 + u) (b := Y1 * 4294967296 + Y0) (by omega)
  rw [Int.mul_comm] at e
  simp only [IntKind.wrap_u64]
  generalize (U * 4294967296 + u) / (Y1 * 4294967296 + Y0) * (Y1 * 4294967296 + Y0) = p at *
  generalize (U * 4294967296 + u) % (Y1 * 4294967296 + Y0) = m at *
  omega

/-- Two digits make the whole quotient. -/
theorem two_digits (A Y u v : Int) (hY : 0 < Y) :
    (A * 4294967296 + u) / Y * 4294967296 + ((A * 4294967296 + u) % Y * 4294967296 + v) / Y = (A * 18446744073709551616 + u * 4294967296 + v) / Y := by
  have e := Int.mul_ediv_add_emod (A * 4294967296 + u) Y
  have : A * 18446744073709551616 + u * 4294967296 + v = ((A * 4294967296 + u) % Y * 4294967296 + v) + Y * ((A * 4294967296 + u) / Y * 4294967296) := by
    generalize (A * 4294967296 + u) / Y = q at *
    generalize (A * 4294967296 + u) % Y = r at *
    have e' : Y * (q * 4294967296) = Y * q * 4294967296 := by grind
    rw [e']
    generalize Y * q = p at *
    omega
  rw [this, Int.add_mul_ediv_left _ _ (by omega)]
  omega

end Go.Proofs.Ytjlhklijibpbeaa
