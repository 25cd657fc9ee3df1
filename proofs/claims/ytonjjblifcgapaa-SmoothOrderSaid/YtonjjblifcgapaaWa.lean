/-
  Walks over the small functions: math's on words, isNaN, nan, inf, zero, same, Before, and the machine's steps on floats.
-/
import Derived.Test.YtonjjblifcgapaaRows
import Derived.WalkKit
import Derived.WalkSpells
import Derived.WalkLawsBesides
import Derived.Deep.QuietTactic
import Derived.BigQuiet
import Derived.Lib.Hide
import Derived.Test.YtonjjblifcgapaaFh
namespace Go.Proofs.Ytonjjblifcgapaa
open Go.RowKit
set_option linter.unusedVariables false

/-! ### The machine's steps on floats -/

theorem nan_parts {b a : Nat} (h1 : a < 4503599627370495) (h2 : b < 2) : isN (b * 9223372036854775808 + 9218868437227405312 + 1 + a) = true ∧ b * 9223372036854775808 + 9218868437227405312 + 1 + a < 18446744073709551616 := by
  unfold isN
  refine ⟨?_, by omega⟩
  simp only [decide_eq_true_eq]
  omega

/-- What the tape answers for the bits of a NaN is a NaN. -/
theorem nan_bits (x y t : Nat) : isN ((Question.nanBits .f64 x y).cut t) = true ∧ (Question.nanBits .f64 x y).cut t < 18446744073709551616 :=
  nan_parts (Nat.mod_lt _ (by decide)) (Nat.mod_lt _ (by decide))
theorem nan_least (m : Bool) (x y t : Nat) : isN ((Question.nanMinMax .f64 m x y).cut t) = true :=
  (nan_parts (Nat.mod_lt _ (by decide)) (Nat.mod_lt _ (by decide))).1

theorem arith_step {P : Program} (op : BinOp) (hop : op = .add ∨ op = .sub ∨ op = .mul) (t : TypeId) (x y : Nat) (w : World) :
    ∃ r n, (binOp op t (.float .f64 x) (.float .f64 y)).run P w = .ok (.float .f64 r) (w.drewN n) ∧ FR (floatBits op .f64 x y) r := by
  cases h : floatBits op .f64 x y with
  | some r =>
    refine ⟨r, 0, run_float_arith w op t .f64 x y r h, ?_, rfl⟩
    have := floatBits_wf h
    simpa [Lit.wf] using this
  | none =>
    obtain ⟨a, b⟩ := nan_bits x y (w.tape w.drawn (.nanBits .f64 x y))
    refine ⟨_, 1, ?_, b, a⟩
    unfold floatBits at h
    rcases hop with rfl | rfl | rfl <;> simp only at h <;> simp [binOp, Op.floatArith, h, choose, Sem.run, Question.forced] <;> rfl

theorem fmt_order (x y : Nat) : FloatKind.f64.format.order x y = Ieee.double.order x y := rfl

theorem x29 (b : Nat) (w : World) : (callFunc 29 #[.float .f64 b]).run Try.prog w = .ok (.value (.int .u64 b)) w := by
  rw [run_callFunc_extern Try.func29 (by kernel_rfl) (by kernel_rfl) (by kernel_rfl) (e := Extern.MathFloatBits.float64bits) (by kernel_rfl)]; rfl

theorem x35 (n : Int) (w : World) : (callFunc 35 #[.int .u64 n]).run Try.prog w = .ok (.value (.float .f64 n.toNat)) w := by
  rw [run_callFunc_extern Try.func35 (by kernel_rfl) (by kernel_rfl) (by kernel_rfl) (e := Extern.MathFloatBits.float64frombits) (by kernel_rfl)]; rfl

theorem ret_f {a b : Nat} (h : a = b) : Ending.returned (.float .f64 a) = .returned (.float .f64 b) := by rw [h]
theorem ret_b {a b : Bool} (h : a = b) : Ending.returned (.bool a) = .returned (.bool b) := by rw [h]
theorem ret_i {k : IntKind} {a b : Int} (h : a = b) : Ending.returned (.int k a) = .returned (.int k b) := by rw [h]

/-! ### NaN -/

set_option maxHeartbeats 400000 in
theorem isnan_any (b : Nat) (w : World) : Calls Try.prog 25 #[.float .f64 b] w fun e w' => e = .returned (.bool (isN b)) ∧ w = w' := by
  go_enter Try.func25, Try.ntmps25
  go_wp2
  go_ret
  exact ⟨ret_b (ord_self b), rfl⟩

set_option maxHeartbeats 400000 in
theorem sisnan_any (b : Nat) (w : World) : Calls Try.prog 30 #[.float .f64 b] w fun e w' => e = .returned (.bool (isN b)) ∧ w = w' := by
  go_enter Try.func30, Try.ntmps30
  go_wp2
  go_ret
  exact ⟨ret_b (ord_self b), rfl⟩

theorem andNot_top (b : Nat) (hb : b < 18446744073709551616) : (bits BinOp.andNot IntKind.u64 (b : Int) 9223372036854775808).toNat = absF b := by
  have h := u64_andNot_nat b 9223372036854775808 hb (by decide)
  have e : bits BinOp.andNot IntKind.u64 (b : Int) 9223372036854775808 = ((b &&& (18446744073709551615 - 9223372036854775808) : Nat) : Int) := h
  rw [e]
  have e2 : b &&& (18446744073709551615 - 9223372036854775808) = b % 2 ^ 63 := Nat.and_two_pow_sub_one_eq_mod b 63
  rw [e2]
  show b % 2 ^ 63 = b % 9223372036854775808
  rfl

set_option maxHeartbeats 400000 in
theorem abs_any (b : Nat) (hb : b < 18446744073709551616) (w : World) : Calls Try.prog 26 #[.float .f64 b] w fun e w' => e = .returned (.float .f64 (absF b)) ∧ w = w' := by
  have X29 := x29
  have X35 := x35
  go_enter Try.func26, Try.ntmps26
  go_wp2
  go_ret
  exact ⟨ret_f (andNot_top b hb), rfl⟩

set_option maxHeartbeats 400000 in
theorem mnan_any (w : World) : Calls Try.prog 32 #[] w fun e w' => e = .returned (.float .f64 9221120237041090561) ∧ w = w' := by
  have X35 := x35
  go_enter Try.func32, Try.ntmps32
  go_wp2
  go_ret
  exact ⟨rfl, rfl⟩

set_option maxHeartbeats 400000 in
theorem nan_any (w : World) : Calls Try.prog 22 #[] w fun e w' => e = .returned (.float .f64 9221120237041090561) ∧ w = w' := by
  go_enter Try.func22, Try.ntmps22
  go_wp2_with (go_at_call 32; refine (mnan_any _).mono ?_; rintro e w' ⟨rfl, rfl⟩)
  go_ret
  exact ⟨rfl, rfl⟩

set_option maxHeartbeats 400000 in
theorem minf_any (w : World) : Calls Try.prog 33 #[.int .i64 1] w fun e w' => e = .returned (.float .f64 9218868437227405312) ∧ w = w' := by
  have X35 := x35
  go_enter Try.func33, Try.ntmps33
  go_wp2
  go_ret
  exact ⟨rfl, rfl⟩

set_option maxHeartbeats 400000 in
theorem inf_any (w : World) : Calls Try.prog 23 #[] w fun e w' => e = .returned (.float .f64 9218868437227405312) ∧ w = w' := by
  go_enter Try.func23, Try.ntmps23
  go_wp2_with (go_at_call 33; refine (minf_any _).mono ?_; rintro e w' ⟨rfl, rfl⟩)
  go_ret
  exact ⟨rfl, rfl⟩

set_option maxHeartbeats 400000 in
theorem sign_any (w : World) : Calls Try.prog 34 #[.float .f64 0, .float .f64 13830554455654793216] w fun e w' => e = .returned (.float .f64 9223372036854775808) ∧ w = w' := by
  have X29 := x29
  have X35 := x35
  go_enter Try.func34, Try.ntmps34
  go_wp2
  go_ret
  exact ⟨rfl, rfl⟩

set_option maxHeartbeats 400000 in
theorem zero_any (w : World) : Calls Try.prog 24 #[] w fun e w' => e = .returned (.float .f64 9223372036854775808) ∧ w = w' := by
  go_enter Try.func24, Try.ntmps24
  go_wp2_with (go_at_call 34; refine (sign_any _).mono ?_; rintro e w' ⟨rfl, rfl⟩)
  go_ret
  exact ⟨rfl, rfl⟩

/-! ### same, Before -/

/-- Are words the same, or both NaNs? -/
def sameB (a b : Nat) : Bool := decide (a = b) || (isN a && isN b)

set_option maxHeartbeats 400000 in
theorem same_any (a b : Nat) (h : sameB a b = true) (w : World) : Calls Try.prog 10 #[.float .f64 a, .float .f64 b] w fun e w' => e = .returned (.bool true) ∧ w = w' := by
  have X29 := x29
  by_cases hab : a = b
  · subst hab
    go_enter Try.func10, Try.ntmps10
    go_wp2
    go_ret
    exact ⟨rfl, rfl⟩
  · have ⟨h1, h2⟩ : isN a = true ∧ isN b = true := by simpa [sameB, hab] using h
    have hne : ((a : Int) == (b : Int)) = false := by simp; omega
    clear h
    go_enter Try.func10, Try.ntmps10
    go_wp2_with (go_at_call 25; refine (isnan_any _ _).mono ?_; rintro e w' ⟨rfl, rfl⟩)
    go_ret
    exact ⟨rfl, rfl⟩

set_option maxHeartbeats 400000 in
theorem bef_any (a b : Nat) (w : World) : Calls Try.prog 16 #[.float .f64 a, .float .f64 b] w fun e w' => e = .returned (.bool (befB a b)) ∧ w = w' := by
  have HB := Lib.hid (bef_eq a b)
  obtain ⟨l, hl⟩ : ∃ l, ltB a b = l := ⟨_, rfl⟩
  obtain ⟨na, hna⟩ : ∃ l, isN a = l := ⟨_, rfl⟩
  obtain ⟨nb, hnb⟩ : ∃ l, isN b = l := ⟨_, rfl⟩
  have hlt : (FloatKind.f64.format.order a b == some Ordering.lt) = l := by rw [← hl]; exact ord_lt a b
  have HL := Lib.hid hl
  clear hl
  have HA := Lib.hid hna
  have HN := Lib.hid hnb
  cases l <;> cases na <;> cases nb
  all_goals
    go_enter Try.func16, Try.ntmps16
    go_wp2_with (go_at_call 30; refine (sisnan_any _ _).mono ?_; rintro e w' ⟨rfl, rfl⟩)
    go_ret
    exact ⟨ret_b (by rw [← HB.out, HL.out, HA.out, HN.out]; rfl), rfl⟩

set_option maxHeartbeats 400000 in
theorem rbef_any (a b : Nat) (w : World) : Calls Try.prog 17 #[.float .f64 a, .float .f64 b] w fun e w' => e = .returned (.bool (befB a b)) ∧ w = w' := by
  have HB := Lib.hid (bef_eq a b)
  have HZ : Hid (isN a = true → ltB a b = false) := Lib.hid (fun h => by simp [ltB, h])
  obtain ⟨l, hl⟩ : ∃ l, ltB a b = l := ⟨_, rfl⟩
  obtain ⟨na, hna⟩ : ∃ l, isN a = l := ⟨_, rfl⟩
  obtain ⟨nb, hnb⟩ : ∃ l, isN b = l := ⟨_, rfl⟩
  have hlt : (FloatKind.f64.format.order a b == some Ordering.lt) = l := by rw [← hl]; exact ord_lt a b
  have HL := Lib.hid hl
  clear hl
  have HA := Lib.hid hna
  have HN := Lib.hid hnb
  cases l <;> cases na <;> cases nb
  all_goals
    go_enter Try.func17, Try.ntmps17
    go_wp2_with (go_at_call 25; refine (isnan_any _ _).mono ?_; rintro e w' ⟨rfl, rfl⟩)
    go_ret
    exact ⟨ret_b (by first | (rw [← HB.out, HL.out, HA.out, HN.out]; rfl) | (have := HZ.out HA.out; rw [HL.out] at this; cases this)), rfl⟩

end Go.Proofs.Ytonjjblifcgapaa
