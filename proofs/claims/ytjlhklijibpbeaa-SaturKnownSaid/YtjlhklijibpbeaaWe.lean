/-
  bits.Div64, for a divisor of at most 2^53 and a quotient that fits: it returns the quotient.
-/
import Derived.Test.YtjlhklijibpbeaaWd
import Derived.Lib.ItoaNum
import Derived.Laws.Bits64b
namespace Go.Proofs.Ytjlhklijibpbeaa
open Go.RowKit
set_option linter.unusedVariables false

/-! ### The call, for every quotient that fits -/

theorem pow_split (s : Nat) (h : s ≤ 64) : (2 : Int) ^ (64 - s) * 2 ^ s = 18446744073709551616 := by
  rw [← Int.pow_add, show 64 - s + s = 64 by omega]; decide

theorem lz_bounds (y : Int) (s : Nat) (h0 : 1 ≤ y) (h1 : y ≤ 9007199254740992) (hs : s + Lib.bitLen y.toNat = 64) :
    1 ≤ s ∧ s ≤ 63 ∧ 9223372036854775808 ≤ y * 2 ^ s ∧ y * 2 ^ s < 18446744073709551616 := by
  obtain ⟨n, rfl⟩ := Int.eq_ofNat_of_zero_le (by omega : 0 ≤ y)
  have hn : n ≠ 0 := by omega
  rw [Int.toNat_natCast] at hs
  have hl : Lib.bitLen n ≤ 54 := Lib.bitLen_le n 54 (by omega) (by omega)
  obtain ⟨b1, b2, b3⟩ := Lib.bitLenAux_bounds 64 n (by omega) hn
  have b2' : 2 ^ (Lib.bitLen n - 1) ≤ n := b2
  have b3' : n < 2 ^ Lib.bitLen n := b3
  have b1' : 1 ≤ Lib.bitLen n := b1
  have m1 := Nat.mul_le_mul_right (2 ^ s) b2'
  have m2 := (Nat.mul_lt_mul_right (Nat.two_pow_pos s)).mpr b3'
  rw [← Nat.pow_add, show Lib.bitLen n - 1 + s = 63 by omega] at m1
  rw [← Nat.pow_add, show Lib.bitLen n + s = 64 by omega] at m2
  have e : ((n : Int)) * 2 ^ s = ((n * 2 ^ s : Nat) : Int) := by simp
  rw [e]
  exact ⟨by omega, by omega, by omega, by omega⟩

theorem and_lo (z : Int) (h0 : 0 ≤ z) (h1 : z ≤ 18446744073709551615) : bits BinOp.and IntKind.u64 z 4294967295 = z % 4294967296 := by
  obtain ⟨n, rfl⟩ := Int.eq_ofNat_of_zero_le h0
  have h := bits_and_u64_nat n 4294967295 (by omega) (by omega)
  have e : n &&& 4294967295 = n % 4294967296 := Nat.and_two_pow_sub_one_eq_mod n 32
  rw [e] at h
  exact h.trans (by omega)

/-- 'hi<<s | lo>>(64-s)': the upper word of the product by 2^s. -/
theorem or_hi (hi lo : Int) (s : Nat) (a0 : 0 ≤ hi) (a1 : hi * 2 ^ s < 18446744073709551616) (b0 : 0 ≤ lo) (b1 : lo ≤ 18446744073709551615) (s1 : s ≤ 63) :
    bits BinOp.or IntKind.u64 (IntKind.u64.wrap (hi * 2 ^ s)) (lo / 2 ^ (64 - s)) = hi * 2 ^ s + lo / 2 ^ (64 - s) ∧
    lo / 2 ^ (64 - s) * 18446744073709551616 + lo * 2 ^ s % 18446744073709551616 = lo * 2 ^ s ∧ 0 ≤ lo / 2 ^ (64 - s) ∧ lo / 2 ^ (64 - s) < 2 ^ s := by
  obtain ⟨n, rfl⟩ := Int.eq_ofNat_of_zero_le a0
  obtain ⟨m, rfl⟩ := Int.eq_ofNat_of_zero_le b0
  have hp : (2 : Nat) ^ (64 - s) * 2 ^ s = 18446744073709551616 := by rw [← Nat.pow_add, show 64 - s + s = 64 by omega]
  have e1 : ((n : Int)) * 2 ^ s = ((n * 2 ^ s : Nat) : Int) := by simp
  have e2 : ((m : Int)) * 2 ^ s = ((m * 2 ^ s : Nat) : Int) := by simp
  have e3 : ((m : Int)) / 2 ^ (64 - s) = ((m / 2 ^ (64 - s) : Nat) : Int) := by simp
  have e4 : (2 : Int) ^ s = ((2 ^ s : Nat) : Int) := by simp
  have hq : m / 2 ^ (64 - s) < 2 ^ s := (Nat.div_lt_iff_lt_mul (Nat.two_pow_pos _)).mpr (by rw [Nat.mul_comm, hp]; omega)
  have ha : n * 2 ^ s < 18446744073709551616 := by rw [e1] at a1; omega
  have hw : IntKind.u64.wrap ((n * 2 ^ s : Nat) : Int) = ((n * 2 ^ s : Nat) : Int) := by rw [IntKind.wrap_u64]; omega
  have hb : m / 2 ^ (64 - s) < 18446744073709551616 := by have := Nat.div_le_self m (2 ^ (64 - s)); omega
  have ho := bits_or_u64_nat (n * 2 ^ s) (m / 2 ^ (64 - s)) ha hb
  have hor : n * 2 ^ s ||| m / 2 ^ (64 - s) = n * 2 ^ s + m / 2 ^ (64 - s) := by
    rw [Nat.mul_comm, Nat.two_pow_add_eq_or_of_lt hq]
  have hm : m / 2 ^ (64 - s) * 18446744073709551616 + m * 2 ^ s % 18446744073709551616 = m * 2 ^ s := by
    have d : m * 2 ^ s / 18446744073709551616 = m / 2 ^ (64 - s) := by
      rw [← hp, Nat.mul_div_mul_right _ _ (Nat.two_pow_pos s)]
    have := Nat.div_add_mod (m * 2 ^ s) 18446744073709551616
    rw [d] at this
    omega
  refine ⟨?_, ?_, ?_, ?_⟩
  · rw [e1, e3, hw]
    rw [hor] at ho
    exact ho.trans (by omega)
  · rw [e2, e3]; omega
  · rw [e3]; omega
  · rw [e3, e4]; omega

theorem quot_shift (N y : Int) (s : Nat) (_h : 0 < y) : N * 2 ^ s / (y * 2 ^ s) = N / y :=
  Int.mul_ediv_mul_of_pos_left _ _ (Int.pow_pos (by omega))

theorem div_any (hi lo y : Int) (w : World) (a0 : 1 ≤ hi) (a1 : hi < y) (a2 : y ≤ 9007199254740992) (b0 : 0 ≤ lo) (b1 : lo ≤ 18446744073709551615) :
    Calls Try.prog 28 #[.int .u64 hi, .int .u64 lo, .int .u64 y] w (Quo ((hi * 18446744073709551616 + lo) / y) w) := by
  obtain ⟨s, hs⟩ : ∃ s, s + Lib.bitLen y.toNat = 64 := ⟨64 - Lib.bitLen y.toNat, by have := Lib.bitLen_le y.toNat 54 (by omega) (by omega); omega⟩
  obtain ⟨s1, s2, y0, y1⟩ := lz_bounds y s (by omega) a2 hs
  have hpos : 0 < (2 : Int) ^ s := Int.pow_pos (by omega)
  have hhi : (hi + 1) * 2 ^ s ≤ y * 2 ^ s := Int.mul_le_mul_of_nonneg_right (by omega) (by omega)
  have hhi' : (hi + 1) * 2 ^ s = hi * 2 ^ s + 2 ^ s := by grind
  obtain ⟨o1, o2, o3, o4⟩ := or_hi hi lo s (by omega) (by omega) b0 b1 s2
  have hh0 : 0 ≤ hi * 2 ^ s := Int.mul_nonneg (by omega) (by omega)
  have hn : (hi * 18446744073709551616 + lo) * 2 ^ s = hi * 2 ^ s * 18446744073709551616 + lo * 2 ^ s := by grind
  have hq := quot_shift (hi * 18446744073709551616 + lo) y s (by omega)
  rw [hn] at hq
  have w1 : IntKind.u64.wrap (y * 2 ^ s) = y * 2 ^ s := by rw [IntKind.wrap_u64]; omega
  have w2 : IntKind.u64.wrap (lo * 2 ^ s) = lo * 2 ^ s % 18446744073709551616 := IntKind.wrap_u64 _
  have l1 := and_lo (y * 2 ^ s) (by omega) (by omega)
  have l2 := and_lo (lo * 2 ^ s % 18446744073709551616) (by omega) (by omega)
  have D : Digits (hi * 2 ^ s + lo / 2 ^ (64 - s)) (y * 2 ^ s / 4294967296) (y * 2 ^ s % 4294967296) (lo * 2 ^ s % 18446744073709551616 / 4294967296) :=
    ⟨by omega, by omega, by omega, by omega, by omega, by omega, by omega, by omega⟩
  have he := est_start D
  have hb := est_q D he
  have hp0 : 0 ≤ (hi * 2 ^ s + lo / 2 ^ (64 - s)) / (y * 2 ^ s / 4294967296) * (y * 2 ^ s / 4294967296) := Int.mul_nonneg hb.1 (by omega)
  have hc := div_core hi lo y s w a0 a1 a2 b0 b1 s1 s2 (Lib.hid hs) _ _ _ _ _ _ _ _ w1 rfl l1 o1 w2 rfl l2 rfl (by omega) (by omega) (by omega) (by omega) (by omega) (by omega)
    (by omega) (by omega) D (Lib.hid (by omega)) hb.1 hb.2.1 hp0 (by omega) he
  have hD : y * 2 ^ s / 4294967296 * 4294967296 + y * 2 ^ s % 4294967296 = y * 2 ^ s := by omega
  have ht := two_digits (hi * 2 ^ s + lo / 2 ^ (64 - s)) (y * 2 ^ s) (lo * 2 ^ s % 18446744073709551616 / 4294967296) (lo * 2 ^ s % 18446744073709551616 % 4294967296) (by omega)
  unfold digit remnant at hc
  rw [hD, ht] at hc
  have hN : (hi * 2 ^ s + lo / 2 ^ (64 - s)) * 18446744073709551616 + lo * 2 ^ s % 18446744073709551616 / 4294967296 * 4294967296 + lo * 2 ^ s % 18446744073709551616 % 4294967296 = hi * 2 ^ s * 18446744073709551616 + lo * 2 ^ s := by omega
  rw [hN, hq] at hc
  exact hc

end Go.Proofs.Ytjlhklijibpbeaa
