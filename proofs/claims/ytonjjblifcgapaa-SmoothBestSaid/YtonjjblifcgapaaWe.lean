/-
  Walks over the law's own small functions: awake, SmoothKnown.
-/
import Derived.Test.YtonjjblifcgapaaWd
namespace Go.Proofs.Ytonjjblifcgapaa
open Go.RowKit
set_option linter.unusedVariables false

theorem mean_ex : (FloatKind.f64.format.order (meanF 4621819117588971520 4626322717216342016 4598175219545276416) 4623226492472524800 == some Ordering.eq) = true := by decide +kernel
theorem bef_ex : befB 4607182418800017408 9221120237041090561 = true := by decide +kernel
theorem wait_ex : waitV 4617315517961601024 4607632778762754458 = 10 := by decide +kernel
theorem best_ex : bestI [9221120237041090561, 4613937818241073152, 9223372036854775808, 0] = 2 := by decide +kernel

theorem best_made (W : World) (g : Nat) (hg : g = W.heap.size) (l : List Nat) (hl : l.length ≤ 100) :
    Calls Try.prog 18 #[.slice (some ⟨g, 0, none⟩) l.length l.length] (W.alloc (.cells (l.map (Value.float .f64)).toArray 22)) fun e w' => e = .returned (.int .i64 (bestI l)) ∧ W.alloc (.cells (l.map (Value.float .f64)).toArray 22) = w' := by
  subst hg
  refine best_row _ 0 _ l _ (by omega) fun j hj => ?_
  rw [Nat.zero_add]
  unfold World.cell? World.alloc
  simp [hj]

theorem best4 (w : World) (k a b c d : Nat) :
    Calls Try.prog 18 #[.slice (some ⟨w.heap.size, 0, none⟩) 4 4] ((w.drewN k).alloc (.cells #[.float .f64 a, .float .f64 b, .float .f64 c, .float .f64 d] 22)) fun e w' => e = .returned (.int .i64 (bestI [a, b, c, d])) ∧ (w.drewN k).alloc (.cells #[.float .f64 a, .float .f64 b, .float .f64 c, .float .f64 d] 22) = w' :=
  best_made (w.drewN k) w.heap.size rfl [a, b, c, d] (by simp)

theorem best2 (w : World) (k a b : Nat) :
    Calls Try.prog 18 #[.slice (some ⟨w.heap.size, 0, none⟩) 2 2] ((w.drewN k).alloc (.cells #[.float .f64 a, .float .f64 b] 22)) fun e w' => e = .returned (.int .i64 (bestI [a, b])) ∧ (w.drewN k).alloc (.cells #[.float .f64 a, .float .f64 b] 22) = w' :=
  best_made (w.drewN k) w.heap.size rfl [a, b] (by simp)

/-- 'true' is told; what was there is as it was. -/
def YesB (w : World) (e : Ending) (w' : World) : Prop := e = .returned (.bool true) ∧ Below w.heap.size w w'

set_option maxHeartbeats 1000000 in
theorem awake_any (w : World) : Calls Try.prog 15 #[] w (YesB w) := by
  have E1 := mean_ex
  have E2 := bef_ex
  have E3 := wait_ex
  have E4 := best_ex
  go_enter Try.func15, Try.ntmps15
  go_wp2_with (first | (go_at_call 11; refine (mean_any _ _ _ _).mono ?_; rintro e w' ⟨k, rfl, rfl⟩) | (go_at_call 22; refine (nan_any _).mono ?_; rintro e w' ⟨rfl, rfl⟩) | (go_at_call 24; refine (zero_any _).mono ?_; rintro e w' ⟨rfl, rfl⟩) | (go_at_call 16; refine (bef_any _ _ _).mono ?_; rintro e w' ⟨rfl, rfl⟩) | (go_at_call 20; refine (wait_any _ _ _).mono ?_; rintro e w' ⟨k, rfl, rfl⟩) | (go_at_call 18; refine (best4 w k _ _ _ _).mono ?_; rintro e w' ⟨rfl, rfl⟩))
  go_ret
  exact ⟨rfl, below_drewN ((below_drewN (Below.refl _ _) _).alloc (Nat.le_refl _) _) _⟩

theorem spread_lit (old mean now part d v : Nat) (hd : Ieee.double.sub now mean = some d) (hv : meanF old (absF d) part = v) (w : World) :
    Calls Try.prog 13 #[.float .f64 old, .float .f64 mean, .float .f64 now, .float .f64 part] w (TellsF v w) := by
  refine (spread_any old mean now part w).mono fun e w' => ?_
  rintro ⟨r, n, ⟨c, hc, rfl⟩, he, hw⟩
  have := FR_some hc hd
  subst this
  exact ⟨n, by rw [he, hv], hw⟩

theorem spread1 (w : World) : Calls Try.prog 13 #[.float .f64 4607182418800017408, .float .f64 4621819117588971520, .float .f64 4616189618054758400, .float .f64 4602678819172646912] w (TellsF 4615063718147915776 w) :=
  spread_lit _ _ _ _ 13841813454723219456 _ (by decide +kernel) (by decide +kernel) w
theorem spread2 (w : World) : Calls Try.prog 13 #[.float .f64 9221120237041090561, .float .f64 4621819117588971520, .float .f64 4624070917402656768, .float .f64 4602678819172646912] w (TellsF 4616189618054758400 w) :=
  spread_lit _ _ _ _ 4616189618054758400 _ (by decide +kernel) (by decide +kernel) w

theorem kn1 : (FloatKind.f64.format.order (meanF 9221120237041090561 4619567317775286272 4602678819172646912) 4619567317775286272 == some Ordering.eq) = true := by decide +kernel
theorem kn2 : (FloatKind.f64.format.order (meanF 4619567317775286272 9221120237041090561 4602678819172646912) 4619567317775286272 == some Ordering.eq) = true := by decide +kernel
theorem kn3 : (FloatKind.f64.format.order (meanF 9218868437227405312 9218868437227405312 4602678819172646912) 9218868437227405312 == some Ordering.eq) = true := by decide +kernel
theorem kn4 : (FloatKind.f64.format.order 4615063718147915776 4615063718147915776 == some Ordering.eq) = true := by decide +kernel
theorem kn5 : (FloatKind.f64.format.order 4616189618054758400 4616189618054758400 == some Ordering.eq) = true := by decide +kernel
theorem kn6 : befB 9223372036854775808 0 = false := by decide +kernel
theorem kn7 : befB 9221120237041090561 9221120237041090561 = false := by decide +kernel
theorem kn8 : befB 18442240474082181120 0 = true := by decide +kernel
theorem kn9 : bestI [9221120237041090561, 9221120237041090561] = 0 := by decide +kernel
theorem kn10 : waitV 18442240474082181120 0 = 2 := by decide +kernel
theorem kn11 : waitV 9221120237041090561 0 = 60 := by decide +kernel
theorem kn12 : waitV 4633711435354996736 0 = 60 := by decide +kernel
theorem kn13 : Op.negFloat FloatKind.f64 9218868437227405312 = 18442240474082181120 := by decide +kernel

theorem kn14 : Op.unary UnOp.neg (.float .f64 9218868437227405312) = pure (.float .f64 18442240474082181120) := by
  rw [← kn13]; rfl

set_option maxHeartbeats 2000000 in
theorem known_any (w : World) : Calls Try.prog 6 #[] w (YesB w) := by
  have E1 := kn1
  have E2 := kn2
  have E3 := kn3
  have E4 := kn4
  have E5 := kn5
  have E6 := kn6
  have E7 := kn7
  have E8 := kn8
  have E9 := kn9
  have E10 := kn10
  have E11 := kn11
  have E12 := kn12
  have E13 := kn14
  go_enter Try.func6, Try.ntmps6
  go_wp2_with (first | (go_at_call 11; refine (mean_any _ _ _ _).mono ?_; rintro e w' ⟨k, rfl, rfl⟩) | (go_at_call 22; refine (nan_any _).mono ?_; rintro e w' ⟨rfl, rfl⟩) | (go_at_call 23; refine (inf_any _).mono ?_; rintro e w' ⟨rfl, rfl⟩) | (go_at_call 24; refine (zero_any _).mono ?_; rintro e w' ⟨rfl, rfl⟩) | (go_at_call 16; refine (bef_any _ _ _).mono ?_; rintro e w' ⟨rfl, rfl⟩) | (go_at_call 20; refine (wait_any _ _ _).mono ?_; rintro e w' ⟨k, rfl, rfl⟩) | (go_at_call 13; (with_reducible refine (spread1 _).mono ?_); rintro e w' ⟨k, rfl, rfl⟩) | (go_at_call 13; (with_reducible refine (spread2 _).mono ?_); rintro e w' ⟨k, rfl, rfl⟩) | (go_at_call 18; (with_reducible refine (best_nil _ _ _).mono ?_); rintro e w' ⟨rfl, rfl⟩) | (go_at_call 18; (with_reducible refine (best2 w _ _ _).mono ?_); rintro e w' ⟨rfl, rfl⟩) | (go_at_call 15; (with_reducible refine (awake_any _).mono ?_); rintro e w1 ⟨rfl, hb⟩; have HB := Lib.hid hb; clear hb))
  go_ret
  exact ⟨rfl, below_drewN (Below.trans ((below_drewN (Below.refl _ _) _).alloc (Nat.le_refl _) _) (HB.out.mono (by simp))) _⟩

end Go.Proofs.Ytonjjblifcgapaa
