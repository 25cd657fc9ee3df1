/-
  The statement about comparisons.
-/
import Derived.Test.YtibaeklpgfadpaaUc
import Derived.Test.YtibaeklpgfadpaaTq
import Derived.Test.YtibaeklpgfadpaaTu
namespace Go.Proofs.Ytibaeklpgfadpaa
open Go.RowKit Go.Shelf
set_option linter.unusedVariables false
set_option linter.unusedSimpArgs false

set_option maxHeartbeats 2000000 in
theorem compares_any (a b : List UInt8) (w : World) : Calls Try.prog 4 #[.string (bs a), .string (bs b)] w (Tells w (.bool true)) := by
  by_cases h1 : 400 < a.length
  · have t1 : decide ((400 : Int) < a.length) = true := by simp; omega
    go_enter Try.func4, Try.ntmps4
    go_wp2
    go_ret
    exact ⟨rfl, Below.refl _ _⟩
  have t1 : decide ((400 : Int) < a.length) = false := by simp; omega
  by_cases h2 : 400 < b.length
  · have t2 : decide ((400 : Int) < b.length) = true := by simp; omega
    go_enter Try.func4, Try.ntmps4
    go_wp2
    go_ret
    exact ⟨rfl, Below.refl _ _⟩
  have t2 : decide ((400 : Int) < b.length) = false := by simp; omega
  have HP := Lib.hid (fun w => parent_any a (by omega) w)
  have HRP := Lib.hid (fun w => rparent_any a (by omega) w)
  have HL := Lib.hid (fun w => lower_any a (by omega) w)
  have HRL := Lib.hid (fun w => rlower_any a (by omega) w)
  have HS := Lib.hid (fun w => same_name_any a b (by omega) (by omega) w)
  have HRS := Lib.hid (fun w => rsame_any a b (by omega) (by omega) w)
  have HW := Lib.hid (fun w => within_any a b (by omega) (by omega) w)
  have HRW := Lib.hid (fun w => rwithin_any a b (by omega) (by omega) w)
  have HC := Lib.hid (fun w => compare_any a b (by omega) (by omega) w)
  have HRC := Lib.hid (fun w => rcompare_any a b (by omega) (by omega) w)
  have HAW := Lib.hid awake_any
  obtain ⟨xl, hxl⟩ : ∃ x, low a = x := ⟨_, rfl⟩
  obtain ⟨xs, hxs⟩ : ∃ x, same a b = x := ⟨_, rfl⟩
  obtain ⟨xw, hxw⟩ : ∃ x, wthn a b = x := ⟨_, rfl⟩
  obtain ⟨xc, hxc⟩ : ∃ x, ncmp a b = x := ⟨_, rfl⟩
  obtain ⟨xp, hxp⟩ : ∃ x, par a = x := ⟨_, rfl⟩
  obtain ⟨xh, hxh⟩ : ∃ x, hasP a = x := ⟨_, rfl⟩
  rw [hxl] at HL HRL
  rw [hxs] at HS HRS
  rw [hxw] at HW HRW
  rw [hxc] at HC HRC
  rw [hxp, hxh] at HP HRP
  clear hxl hxs hxw hxc hxp hxh
  go_enter Try.func4, Try.ntmps4
  go_wp2_with fail
  refine (HP.out _).mono ?_; rintro e w1 ⟨rfl, hb⟩; have HB1 := Lib.hid hb; clear hb
  go_wp2_with fail
  refine (HRP.out _).mono ?_; rintro e w2 ⟨rfl, hb⟩; have HB2 := Lib.hid hb; clear hb
  go_wp2_with fail
  refine (HL.out _).mono ?_; rintro e w3 ⟨rfl, hb⟩; have HB3 := Lib.hid hb; clear hb
  go_wp2_with fail
  refine (HRL.out _).mono ?_; rintro e w4 ⟨rfl, hb⟩; have HB4 := Lib.hid hb; clear hb
  go_wp2_with fail
  refine (HS.out _).mono ?_; rintro e w5 ⟨rfl, hb⟩; have HB5 := Lib.hid hb; clear hb
  go_wp2_with fail
  refine (HRS.out _).mono ?_; rintro e w6 ⟨rfl, hb⟩; have HB6 := Lib.hid hb; clear hb
  go_wp2_with fail
  refine (HW.out _).mono ?_; rintro e w7 ⟨rfl, hb⟩; have HB7 := Lib.hid hb; clear hb
  go_wp2_with fail
  refine (HRW.out _).mono ?_; rintro e w8 ⟨rfl, hb⟩; have HB8 := Lib.hid hb; clear hb
  go_wp2_with fail
  refine (HC.out _).mono ?_; rintro e w9 ⟨rfl, hb⟩; have HB9 := Lib.hid hb; clear hb
  go_wp2_with fail
  refine (HRC.out _).mono ?_; rintro e w10 ⟨rfl, hb⟩; have HB10 := Lib.hid hb; clear hb
  go_wp2_with fail
  refine (HAW.out _).mono ?_; rintro e w11 ⟨rfl, hb⟩; have HB11 := Lib.hid hb; clear hb
  go_wp2_with fail
  go_ret
  exact ⟨rfl, bel_call (bel_call (bel_call (bel_call (bel_call (bel_call (bel_call (bel_call (bel_call (bel_call (HB1.out) HB2.out) HB3.out) HB4.out) HB5.out) HB6.out) HB7.out) HB8.out) HB9.out) HB10.out) HB11.out⟩
end Go.Proofs.Ytibaeklpgfadpaa
