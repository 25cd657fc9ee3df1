/-
  Scale, Mul and Div of satur return what scaleI, mulI and divI say; the plain laws about counts.
-/
import Derived.Test.YtjlhklijibpbeaaWb
import Derived.Test.YtjlhklijibpbeaaWe
import Derived.BigQuiet
import Derived.Deep.QuietTactic
namespace Go.Proofs.Ytjlhklijibpbeaa
open Go.RowKit
set_option linter.unusedVariables false

theorem mul64_any (x y : Int) (w : World) (a0 : 0 ≤ x) (a1 : x ≤ 9007199254740992) (b0 : 0 ≤ y) (b1 : y ≤ 9007199254740992) :
    Calls Try.prog 26 #[.int .u64 x, .int .u64 y] w fun e w' => e = .returned (.tuple #[.int .u64 (x * y / 18446744073709551616), .int .u64 (x * y % 18446744073709551616)]) ∧ w = w' := by
  obtain ⟨n, rfl⟩ := Int.eq_ofNat_of_zero_le a0
  obtain ⟨m, rfl⟩ := Int.eq_ofNat_of_zero_le b0
  refine (Try.bits_Mul64 n m (by omega) (by omega) w).mono fun e w' ⟨he, hw⟩ => ⟨?_, hw.symm⟩
  rw [he]; simp

/-- What Div64 hands back, in a world in which an order may have been drawn. -/
def QuoD (q : Int) (w : World) (e : Ending) (w' : World) : Prop := ∃ n r, e = .returned (.tuple #[.int .u64 q, .int .u64 r]) ∧ w' = w.drewN n

set_option maxHeartbeats 1000000 in
theorem div_hi0 (lo y : Int) (w : World) (a1 : 1 ≤ y) (a2 : y ≤ 9007199254740992) (b0 : 0 ≤ lo) (b1 : lo ≤ 18446744073709551615) :
    Calls Try.prog 28 #[.int .u64 0, .int .u64 lo, .int .u64 y] w (QuoD (lo / y) w) := by
  have e1 : (y == 0) = false := by simp; omega
  have hq : 0 ≤ lo / y := Int.ediv_nonneg b0 (by omega)
  have hq1 : lo / y ≤ lo := Int.ediv_le_self y b0
  have hq2 : lo / y ≤ 18446744073709551615 := by omega
  go_enter Try.func28, Try.ntmps28
  go_wp2_with fail
  go_quiet (fail)
  go_wp2_with fail
  go_ret2
  exact ⟨_, _, rfl, rfl⟩

theorem div_all (hi lo y : Int) (w : World) (a0 : 0 ≤ hi) (a1 : hi < y) (a2 : y ≤ 9007199254740992) (b0 : 0 ≤ lo) (b1 : lo ≤ 18446744073709551615) :
    Calls Try.prog 28 #[.int .u64 hi, .int .u64 lo, .int .u64 y] w (QuoD ((hi * 18446744073709551616 + lo) / y) w) := by
  by_cases h : hi = 0
  · subst h
    rw [Int.zero_mul, Int.zero_add]
    exact div_hi0 lo y w (by omega) a2 b0 b1
  · exact (div_any hi lo y w (by omega) a1 a2 b0 b1).mono fun e w' ⟨r, he, hw⟩ => ⟨0, r, he, hw.symm⟩

theorem or_zero (a b : Int) (a0 : 0 ≤ a) (a1 : a < 18446744073709551616) (b0 : 0 ≤ b) (b1 : b < 18446744073709551616) :
    (bits BinOp.or IntKind.u64 a b == 0) = decide (a = 0 ∧ b = 0) := by
  obtain ⟨n, rfl⟩ := Int.eq_ofNat_of_zero_le a0
  obtain ⟨m, rfl⟩ := Int.eq_ofNat_of_zero_le b0
  have h := bits_or_u64_nat n m (by omega) (by omega)
  have h' : bits BinOp.or IntKind.u64 (n : Int) (m : Int) = ((n ||| m : Nat) : Int) := h
  rw [h', Bool.eq_iff_iff]
  simp [Nat.or_eq_zero_iff]

/-- What Scale tells, part by part. -/
theorem scale_p0 {n m d : Int} (h : cutI n * cutI m = 0) : scaleI n m d = 0 := by
  unfold scaleI
  split
  · rw [if_pos (Int.mul_eq_zero.mp h)]
  · rw [h]; simp [cutI]
theorem scale_d0 {n m d : Int} (h : ¬ cutI n * cutI m = 0) (hd : cutI d = 0) : scaleI n m d = 9007199254740992 := by
  unfold scaleI
  rw [if_pos hd, if_neg (fun g => h (Int.mul_eq_zero.mpr g))]
theorem scale_q {n m d : Int} (hd : ¬ cutI d = 0) : scaleI n m d = cutI (cutI n * cutI m / cutI d) := by
  unfold scaleI; rw [if_neg hd]
theorem scale_big {n m d : Int} (h : ¬ cutI n * cutI m = 0) (hd : cutI d ≤ cutI n * cutI m / 18446744073709551616) : scaleI n m d = 9007199254740992 := by
  by_cases h0 : cutI d = 0
  · exact scale_d0 h h0
  · rw [scale_q h0]
    have hb := cutI_bd d
    have : 18446744073709551616 ≤ cutI n * cutI m / cutI d := by
      refine (Int.le_ediv_iff_mul_le (by omega)).mpr ?_
      generalize cutI n * cutI m = p at *
      omega
    generalize cutI n * cutI m / cutI d = q at *
    unfold cutI
    (repeat split) <;> omega

/-- A count's post: it is told, and at most an order has been drawn. -/
def Tells (q : Int) (w : World) (e : Ending) (w' : World) : Prop := ∃ n, e = .returned (.int .i64 q) ∧ w' = w.drewN n
theorem tells_mk {a q : Int} {w : World} {n : Nat} (h : a = q) : Tells q w (.returned (.int .i64 a)) (w.drewN n) := ⟨n, by rw [h], rfl⟩
theorem tells_mk0 {a q : Int} {w : World} (h : a = q) : Tells q w (.returned (.int .i64 a)) w := ⟨0, by rw [h], rfl⟩

set_option maxHeartbeats 1000000 in
theorem satScale_any (n m d : Int) (w : World) :
    Calls Try.prog 20 #[.int .i64 n, .int .i64 m, .int .i64 d] w (Tells (scaleI n m d) w) := by
  have ha := cutI_bd n
  have hb := cutI_bd m
  have hd := cutI_bd d
  have hp0 : 0 ≤ cutI n * cutI m := Int.mul_nonneg ha.1 hb.1
  have hp1 : cutI n * cutI m ≤ 9007199254740992 * 9007199254740992 := Int.mul_le_mul ha.2 hb.2 hb.1 (by omega)
  obtain ⟨hi, eh⟩ : ∃ hi, cutI n * cutI m / 18446744073709551616 = hi := ⟨_, rfl⟩
  obtain ⟨lo, el⟩ : ∃ lo, cutI n * cutI m % 18446744073709551616 = lo := ⟨_, rfl⟩
  have h0 : 0 ≤ hi := by omega
  have h1 : hi ≤ 9007199254740992 := by omega
  have l0 : 0 ≤ lo := by omega
  have l1 : lo ≤ 18446744073709551615 := by omega
  have hor := or_zero hi lo h0 (by omega) l0 (by omega)
  by_cases hz : cutI n * cutI m = 0
  · have eo : (bits BinOp.or IntKind.u64 hi lo == 0) = true := by rw [hor]; simp; omega
    have HF := Lib.hid (scale_p0 (d := d) hz).symm
    clear hor hz hp0 hp1
    go_enter Try.func20, Try.ntmps20
    go_wp2_with (first | (go_at_call 27; refine (word_any _ _).mono ?_; rintro e w' ⟨rfl, rfl⟩) | (go_at_call 26; refine (mul64_any _ _ _ ha.1 ha.2 hb.1 hb.2).mono ?_; rintro e w' ⟨rfl, rfl⟩))
    go_ret
    exact tells_mk0 HF.out
  · have eo : (bits BinOp.or IntKind.u64 hi lo == 0) = false := by rw [hor]; simp; omega
    by_cases hg : cutI d ≤ hi
    · have HF := Lib.hid (scale_big hz (by omega : cutI d ≤ cutI n * cutI m / 18446744073709551616)).symm
      clear hor hz hp0 hp1
      go_enter Try.func20, Try.ntmps20
      go_wp2_with (first | (go_at_call 27; refine (word_any _ _).mono ?_; rintro e w' ⟨rfl, rfl⟩) | (go_at_call 26; refine (mul64_any _ _ _ ha.1 ha.2 hb.1 hb.2).mono ?_; rintro e w' ⟨rfl, rfl⟩))
      go_ret
      exact tells_mk0 HF.out
    · have hlt : hi < cutI d := by omega
      have HF : Hid (cutI ((hi * 18446744073709551616 + lo) / cutI d) = scaleI n m d) := Lib.hid (by
        rw [scale_q (by omega)]
        have : hi * 18446744073709551616 + lo = cutI n * cutI m := by omega
        rw [this])
      have hq : 0 ≤ (hi * 18446744073709551616 + lo) / cutI d := Int.ediv_nonneg (by omega) (by omega)
      clear hor hz hp0 hp1 hg
      go_enter Try.func20, Try.ntmps20
      go_wp2_with (first | (go_at_call 27; refine (word_any _ _).mono ?_; rintro e w' ⟨rfl, rfl⟩) | (go_at_call 26; refine (mul64_any _ _ _ ha.1 ha.2 hb.1 hb.2).mono ?_; rintro e w' ⟨rfl, rfl⟩) | (go_at_call 28; refine (div_all _ _ _ _ h0 hlt hd.2 l0 l1).mono ?_; rintro e w' ⟨k, r, rfl, rfl⟩) | (go_at_call 29; refine (cutU_any _ hq _).mono ?_; rintro e w' ⟨rfl, rfl⟩))
      go_ret
      exact tells_mk HF.out

end Go.Proofs.Ytjlhklijibpbeaa
