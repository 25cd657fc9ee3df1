/-
  The law OctetPuts.
-/
import Derived.Test.YtbfgmenjkneijaaWo
namespace Go.Proofs.Ytbfgmenjkneijaa
open Go.RowKit
set_option linter.unusedVariables false

theorem putL2_len (n : Int) : (putL2 n).length ≤ 2 := by unfold putL2; split <;> simp
theorem putL4_len (n : Int) : (putL4 n).length ≤ 4 := by unfold putL4; split <;> simp

set_option maxHeartbeats 4000000 in
theorem puts_any (n : Int) (w : World) : Calls Try.prog 3 #[.int .i64 n] w (YesB w) := by
  obtain ⟨E2, hE2⟩ : ∃ E, E = putE 65535 n := ⟨_, rfl⟩
  obtain ⟨L2, hL2⟩ : ∃ L, L = putL2 n := ⟨_, rfl⟩
  obtain ⟨E4, hE4⟩ : ∃ E, E = putE 4294967295 n := ⟨_, rfl⟩
  obtain ⟨L4, hL4⟩ : ∃ L, L = putL4 n := ⟨_, rfl⟩
  have p2 : ∀ wx, Calls Try.prog 8 #[.int .i64 n] wx (PutPost wx E2 L2) := fun wx => by rw [hE2, hL2]; exact put16_any n wx
  have p4 : ∀ wx, Calls Try.prog 10 #[.int .i64 n] wx (PutPost wx E4 L4) := fun wx => by rw [hE4, hL4]; exact put32_any n wx
  have r2 : ∀ wx, Calls Try.prog 9 #[.int .i64 n] wx (RPost wx E2 L2) := fun wx => by rw [hE2, hL2]; exact rput16_any n wx
  have r4 : ∀ wx, Calls Try.prog 11 #[.int .i64 n] wx (RPost wx E4 L4) := fun wx => by rw [hE4, hL4]; exact rput32_any n wx
  have n2 : L2.length ≤ 1000000 := by rw [hL2]; have := putL2_len n; omega
  have n4 : L4.length ≤ 1000000 := by rw [hL4]; have := putL4_len n; omega
  have P2 := Lib.hid p2
  have P4 := Lib.hid p4
  have R2 := Lib.hid r2
  have R4 := Lib.hid r4
  clear hE2 hL2 hE4 hL4 p2 p4 r2 r4
  go_enter Try.func3, Try.ntmps3
  go_wp2_with fail
  refine (P2.out _).mono ?_
  rintro e w1 ⟨v1, g1, rfl, o1, a1, b1, c1⟩
  have O1 := Lib.hid o1
  have A1 := Lib.hid (And.intro a1 b1)
  have B1 := Lib.hid c1
  clear o1 a1 b1 c1
  go_wp2_with fail
  refine (R2.out _).mono ?_
  rintro e w2 ⟨v2, rfl, o2, c2⟩
  have S2 := Lib.hid o2.sl
  have O1 := Lib.hid (O1.out.below c2 A1.out.2)
  have B2 := Lib.hid c2
  clear o2 c2
  go_wp2_with fail
  refine (P4.out _).mono ?_
  rintro e w3 ⟨v3, g3, rfl, o3, a3, b3, c3⟩
  have O3 := Lib.hid o3
  have A3 := Lib.hid (And.intro a3 b3)
  have S2 := Lib.hid (S2.out.later c3)
  have O1 := Lib.hid (O1.out.below c3 (Nat.lt_of_lt_of_le A1.out.2 B2.out.size))
  have B3 := Lib.hid c3
  clear o3 a3 b3 c3
  go_wp2_with fail
  refine (R4.out _).mono ?_
  rintro e w4 ⟨v4, rfl, o4, c4⟩
  have S4 := Lib.hid o4.sl
  have S2 := Lib.hid (S2.out.later c4)
  have O3 := Lib.hid (O3.out.below c4 A3.out.2)
  have O1 := Lib.hid (O1.out.below c4 (Nat.lt_of_lt_of_le A1.out.2 (Nat.le_trans B2.out.size B3.out.size)))
  have B4 := Lib.hid c4
  clear o4 c4
  have Z := Lib.hid (And.intro B1.out.size (And.intro B2.out.size (And.intro B3.out.size B4.out.size)))
  have HB := Lib.hid (bel_call (bel_call (bel_call B1.out B2.out) B3.out) B4.out)
  clear B1 B2 B3 B4
  go_wp2_with fail
  refine (same_any O1.out.sl S2.out).mono ?_
  rintro e wx ⟨rfl, rfl⟩
  go_wp2_with fail
  refine (same_any O3.out.sl S4.out).mono ?_
  rintro e wx ⟨rfl, rfl⟩
  go_wp2_with fail
  refine (over_own O1.out n2).mono ?_
  rintro e w5 ⟨rfl, o5⟩
  have S2 := Lib.hid (S2.out.only o5 (.inl A1.out.2))
  have S4 := Lib.hid (S4.out.only o5 (.inl (by have := A1.out; have := Z.out; omega)))
  have O3 := Lib.hid (O3.out.only o5 (by have := A1.out; have := A3.out; have := Z.out; omega))
  have HB := Lib.hid (HB.out.trans (o5.below A1.out.1))
  have Z5 := Lib.hid o5.2.2.2.1
  clear o5
  go_wp2_with fail
  refine (over_own O3.out n4).mono ?_
  rintro e w6 ⟨rfl, o6⟩
  have S2 := Lib.hid (S2.out.only o6 (.inr A3.out.1))
  have S4 := Lib.hid (S4.out.only o6 (.inl A3.out.2))
  have HB := Lib.hid (HB.out.trans (o6.below (by have := A1.out; have := A3.out; have := Z.out; omega)))
  clear o6
  go_wp2_with fail
  refine (P2.out _).mono ?_
  rintro e w7 ⟨v7, g7, rfl, o7, a7, b7, c7⟩
  have S7 := Lib.hid o7.sl
  have S2 := Lib.hid (S2.out.later c7)
  have S4 := Lib.hid (S4.out.later c7)
  have HB := Lib.hid (bel_call HB.out c7)
  clear o7 a7 b7 c7
  go_wp2_with fail
  refine (P4.out _).mono ?_
  rintro e w8 ⟨v8, g8, rfl, o8, a8, b8, c8⟩
  have S8 := Lib.hid o8.sl
  have S7 := Lib.hid (S7.out.later c8)
  have S2 := Lib.hid (S2.out.later c8)
  have S4 := Lib.hid (S4.out.later c8)
  have HB := Lib.hid (bel_call HB.out c8)
  clear o8 a8 b8 c8
  go_wp2_with fail
  refine (same_any S7.out S2.out).mono ?_
  rintro e wx ⟨rfl, rfl⟩
  go_wp2_with fail
  refine (same_any S8.out S4.out).mono ?_
  rintro e wx ⟨rfl, rfl⟩
  go_wp2_with fail
  refine (awake_any _).mono ?_
  rintro e w9 ⟨rfl, c9⟩
  have HB := Lib.hid (bel_call HB.out c9)
  clear c9
  go_wp2_with fail
  go_ret
  exact ⟨rfl, HB.out⟩
end Go.Proofs.Ytbfgmenjkneijaa
