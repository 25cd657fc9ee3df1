/-
  The chapter's examples.
-/
import Derived.Test.YtckmjpnkjnihlaaJn
namespace Go.Proofs.Ytckmjpnkjnihlaa
open Go.RowKit Go.Shelf
set_option linter.unusedVariables false
set_option maxRecDepth 100000

theorem dec_A : decE [65] = 4 ∧ decA [65] = 1 ∧ decB [65] = [] := by decide
theorem dec_Ae : decE [65, 61] = 4 ∧ decA [65, 61] = 1 ∧ decB [65, 61] = [] := by decide
theorem dec_A5 : decE [65, 65, 65, 65, 65] = 4 ∧ decA [65, 65, 65, 65, 65] = 5 ∧ decB [65, 65, 65, 65, 65] = [] := by decide
theorem enc_no : bs (enc []) = ⟨#[]⟩ := by rfl
theorem enc_0 : bs (enc [0]) = ⟨#[65, 65]⟩ := by rfl
theorem enc_2 : bs (enc [251, 240]) = ⟨#[45, 95, 65]⟩ := by rfl

set_option maxHeartbeats 2000000 in
theorem known_any (w : World) : Calls Try.prog 6 #[] w fun e w' => e = .returned (.bool true) ∧ Below w.heap.size w w' := by
  have HE0 := encode_any (w := w) [] (sl_nil w 0 0) (Nat.zero_le _) (by decide)
  rw [enc_no] at HE0
  have HE0 := Lib.hid HE0
  have HE1 := fun w => encode_any [0] (sl_laid w [0] (n := 1) (cs := #[.int .u8 0]) rfl rfl) (by simp) (by decide)
  simp only [enc_0, World.size_alloc] at HE1
  have HE1 := Lib.hid HE1
  have HE2 := fun w => encode_any [251, 240] (sl_laid w [251, 240] (n := 2) (cs := #[.int .u8 251, .int .u8 240]) rfl rfl) (by simp) (by decide)
  simp only [enc_2, World.size_alloc] at HE2
  have HE2 := Lib.hid HE2
  have HF1 := Lib.hid (faulty_any [65] 1 (by decide) dec_A)
  have HF2 := Lib.hid (faulty_any [65, 61] 1 (by decide) dec_Ae)
  have HF3 := Lib.hid (faulty_any [65, 65, 65, 65, 65] 5 (by decide) dec_A5)
  have HS0 := Lib.hid (show ∀ w, Calls Try.prog 10 #[.int .i64 0] w fun e w' => e = .returned (.tuple #[.int .i64 0, .bool true]) ∧ w = w' from size_any 0 (by omega) (by omega))
  have HS1 := Lib.hid (show ∀ w, Calls Try.prog 10 #[.int .i64 1] w fun e w' => e = .returned (.tuple #[.int .i64 0, .bool false]) ∧ w = w' from size_any 1 (by omega) (by omega))
  have HS2 := Lib.hid (show ∀ w, Calls Try.prog 10 #[.int .i64 2] w fun e w' => e = .returned (.tuple #[.int .i64 1, .bool true]) ∧ w = w' from size_any 2 (by omega) (by omega))
  have HS4 := Lib.hid (show ∀ w, Calls Try.prog 10 #[.int .i64 4] w fun e w' => e = .returned (.tuple #[.int .i64 3, .bool true]) ∧ w = w' from size_any 4 (by omega) (by omega))
  have HS5 := Lib.hid (show ∀ w, Calls Try.prog 10 #[.int .i64 (-3)] w fun e w' => e = .returned (.tuple #[.int .i64 0, .bool false]) ∧ w = w' from size_any (-3) (by omega) (by omega))
  have HAW := Lib.hid awake_any
  go_enter Try.func6, Try.ntmps6
  go_wp2_with fail
  refine HE0.out.mono ?_; rintro e w1 ⟨rfl, hb⟩
  have HB1 := Lib.hid hb
  clear hb
  go_wp2_with fail
  refine (HE1.out _).mono ?_; rintro e w2 ⟨rfl, hb⟩
  have HB2 := Lib.hid (HB1.out.trans ((bel_alloc (Below.refl _ w1) (.cells #[.int .u8 0] 5)).mono HB1.out.size |>.trans (hb.mono (by have := HB1.out.size; omega))))
  clear hb
  go_wp2_with fail
  refine (HE2.out _).mono ?_; rintro e w3 ⟨rfl, hb⟩
  have HB3 := Lib.hid (HB2.out.trans ((bel_alloc (Below.refl _ w2) (.cells #[.int .u8 251, .int .u8 240] 5)).mono HB2.out.size |>.trans (hb.mono (by have := HB2.out.size; omega))))
  clear hb
  go_wp2_with fail
  refine (HF1.out _).mono ?_; rintro e w4 ⟨rfl, hb⟩
  have HB4 := Lib.hid (bel_call HB3.out hb)
  clear hb
  go_wp2_with fail
  refine (HF2.out _).mono ?_; rintro e w5 ⟨rfl, hb⟩
  have HB5 := Lib.hid (bel_call HB4.out hb)
  clear hb
  go_wp2_with fail
  refine (HF3.out _).mono ?_; rintro e w6 ⟨rfl, hb⟩
  have HB6 := Lib.hid (bel_call HB5.out hb)
  clear hb
  go_wp2_with fail
  refine (HS0.out _).mono ?_; rintro e w7 ⟨rfl, rfl⟩
  go_wp2_with fail
  refine (HS1.out _).mono ?_; rintro e w7 ⟨rfl, rfl⟩
  go_wp2_with fail
  refine (HS2.out _).mono ?_; rintro e w7 ⟨rfl, rfl⟩
  go_wp2_with fail
  refine (HS4.out _).mono ?_; rintro e w7 ⟨rfl, rfl⟩
  go_wp2_with fail
  refine (HS5.out _).mono ?_; rintro e w7 ⟨rfl, rfl⟩
  go_wp2_with fail
  refine (HAW.out _).mono ?_; rintro e w8 ⟨rfl, hb⟩
  have HB8 := Lib.hid (bel_call HB6.out hb)
  clear hb
  go_wp2_with fail
  go_ret
  exact ⟨rfl, HB8.out⟩
end Go.Proofs.Ytckmjpnkjnihlaa
