/-
  The chapter's examples.
-/
import Derived.Test.YtibaeklpgfadpaaWe
namespace Go.Proofs.Ytibaeklpgfadpaa
open Go.RowKit Go.Shelf
set_option linter.unusedVariables false
set_option linter.unusedSimpArgs false

theorem kp_1 : prs [97, 92] = ([], 4, 1) := by decide
theorem kp_2 : prs [97, 92, 50, 53] = ([], 4, 1) := by decide
theorem kp_3 : prs [92, 50, 53, 54] = ([], 5, 0) := by decide
theorem kp_4 : prs [] = ([], 4, 0) := by decide
theorem kp_5 : prs [92, 97, 92, 48, 49, 48, 46] = ([2, 97, 10, 0], 0, 0) := by decide
theorem txt_of {l : List (List UInt8)} (h : Shorts l) (h0 : l ≠ []) : txt (wire l ++ [0]) = tx l := by
  unfold txt
  rw [if_pos (shorts_chk h), if_neg, shorts_labs h]
  intro e
  have := shorts_labs h
  rw [e] at this
  exact h0 (this.symm.trans (by simp [labs]))
theorem kc_1 : chk [1, 46, 0] = 0 := shorts_chk (l := [[46]]) (by decide)
theorem kc_2 : chk [2, 97, 7, 0] = 0 := shorts_chk (l := [[97, 7]]) (by decide)
theorem kc_3 : chk [1, 97, 1, 98, 0] = 0 := shorts_chk (l := [[97], [98]]) (by decide)
theorem kt_1 : txt [1, 46, 0] = [92, 46, 46] := (txt_of (l := [[46]]) (by decide) (by decide)).trans (by decide)
theorem kt_2 : txt [2, 97, 7, 0] = [97, 92, 48, 48, 55, 46] := (txt_of (l := [[97, 7]]) (by decide) (by decide)).trans (by decide)
theorem kw_1 : wthn [2, 97, 98, 0] [1, 98, 0] = false := (shorts_wthn (l := [[97, 98]]) (z := [[98]]) (by decide) (by decide)).trans (by decide)
theorem kw_2 : wthn [1, 98, 0] [1, 98, 0] = true := (shorts_wthn (l := [[98]]) (z := [[98]]) (by decide) (by decide)).trans (by decide)
theorem kw_3 : wthn [1, 98, 0] [1, 97, 1, 98, 0] = false := (shorts_wthn (l := [[98]]) (z := [[97], [98]]) (by decide) (by decide)).trans (by decide)
theorem kn_1 : ncmp [1, 97, 1, 98, 0] [1, 98, 0] = 1 := (shorts_ncmp (l := [[97], [98]]) (z := [[98]]) (by decide) (by decide)).trans (by decide)
theorem kn_2 : ncmp [1, 122, 1, 97, 0] [1, 97, 1, 98, 0] = -1 := (shorts_ncmp (l := [[122], [97]]) (z := [[97], [98]]) (by decide) (by decide)).trans (by decide)
theorem kn_3 : ncmp [1, 65, 0] [1, 97, 0] = 0 := (shorts_ncmp (l := [[65]]) (z := [[97]]) (by decide) (by decide)).trans (by decide)
theorem ka_1 : par [1, 97, 1, 98, 0] = [1, 98, 0] := by unfold par; rw [if_pos ⟨kc_3, by decide⟩]; rfl
theorem kh_1 : hasP [1, 97, 1, 98, 0] = true := by unfold hasP; exact decide_eq_true ⟨kc_3, by decide⟩
theorem ka_2 : par [0] = [] := by unfold par; rw [if_neg (fun h => h.2 rfl)]
theorem kh_2 : hasP [0] = false := by unfold hasP; exact decide_eq_false fun h => h.2 rfl

set_option maxRecDepth 100000 in
set_option maxHeartbeats 4000000 in
theorem known_any (w : World) : Calls Try.prog 8 #[] w (Tells w (.bool true)) := by
  have HAW := Lib.hid awake_any
  have HB := Lib.hid (Below.refl w.heap.size w)
  have H1 := Lib.hid (fun w => parse_is (t := [46]) (m := [0]) (e := 0) (a := 0) rfl (by simp) w)
  have F1 := Lib.hid (fun w => (show Calls Try.prog 35 #[.string (bs [97, 92]), .int .i64 4, .int .i64 1] w (Tells w (.bool true)) from by have h := faulty_any [97, 92] 4 1 (by simp) w; rw [kp_1] at h; exact h))
  have F2 := Lib.hid (fun w => (show Calls Try.prog 35 #[.string (bs [97, 92, 50, 53]), .int .i64 4, .int .i64 1] w (Tells w (.bool true)) from by have h := faulty_any [97, 92, 50, 53] 4 1 (by simp) w; rw [kp_2] at h; exact h))
  have F3 := Lib.hid (fun w => (show Calls Try.prog 35 #[.string (bs [92, 50, 53, 54]), .int .i64 5, .int .i64 0] w (Tells w (.bool true)) from by have h := faulty_any [92, 50, 53, 54] 5 0 (by simp) w; rw [kp_3] at h; exact h))
  have F4 := Lib.hid (fun w => (show Calls Try.prog 35 #[.string (bs []), .int .i64 4, .int .i64 0] w (Tells w (.bool true)) from by have h := faulty_any [] 4 0 (by simp) w; rw [kp_4] at h; exact h))
  have T1 := Lib.hid (fun w => (show Calls Try.prog 32 #[.string (bs [1, 46, 0])] w (Tells w (.tuple #[.string (bs [92, 46, 46]), .int .i64 0])) from by have h := text_any [1, 46, 0] (by simp) w; rw [kt_1, kc_1] at h; exact h))
  have T2 := Lib.hid (fun w => (show Calls Try.prog 32 #[.string (bs [2, 97, 7, 0])] w (Tells w (.tuple #[.string (bs [97, 92, 48, 48, 55, 46]), .int .i64 0])) from by have h := text_any [2, 97, 7, 0] (by simp) w; rw [kt_2, kc_2] at h; exact h))
  have P2 := Lib.hid (fun w => parse_is kp_5 (by simp) w)
  have W1 := Lib.hid (fun w => (show Calls Try.prog 28 #[.string (bs [2, 97, 98, 0]), .string (bs [1, 98, 0])] w (Tells w (.bool false)) from kw_1 ▸ within_any [2, 97, 98, 0] [1, 98, 0] (by simp) (by simp) w))
  have W2 := Lib.hid (fun w => (show Calls Try.prog 28 #[.string (bs [1, 98, 0]), .string (bs [1, 98, 0])] w (Tells w (.bool true)) from kw_2 ▸ within_any [1, 98, 0] [1, 98, 0] (by simp) (by simp) w))
  have W3 := Lib.hid (fun w => (show Calls Try.prog 28 #[.string (bs [1, 98, 0]), .string (bs [1, 97, 1, 98, 0])] w (Tells w (.bool false)) from kw_3 ▸ within_any [1, 98, 0] [1, 97, 1, 98, 0] (by simp) (by simp) w))
  have A1 := Lib.hid (fun w => (show Calls Try.prog 22 #[.string (bs [1, 97, 1, 98, 0])] w (Tells w (.tuple #[.string (bs [1, 98, 0]), .bool true])) from by have h := parent_any [1, 97, 1, 98, 0] (by simp) w; rw [ka_1, kh_1] at h; exact h))
  have A2 := Lib.hid (fun w => (show Calls Try.prog 22 #[.string (bs [0])] w (Tells w (.tuple #[.string (bs []), .bool false])) from by have h := parent_any [0] (by simp) w; rw [ka_2, kh_2] at h; exact h))
  have N1 := Lib.hid (fun w => (show Calls Try.prog 30 #[.string (bs [1, 97, 1, 98, 0]), .string (bs [1, 98, 0])] w (Tells w (.int .i64 1)) from kn_1 ▸ compare_any [1, 97, 1, 98, 0] [1, 98, 0] (by simp) (by simp) w))
  have N2 := Lib.hid (fun w => (show Calls Try.prog 30 #[.string (bs [1, 122, 1, 97, 0]), .string (bs [1, 97, 1, 98, 0])] w (Tells w (.int .i64 (-1))) from kn_2 ▸ compare_any [1, 122, 1, 97, 0] [1, 97, 1, 98, 0] (by simp) (by simp) w))
  have N3 := Lib.hid (fun w => (show Calls Try.prog 30 #[.string (bs [1, 65, 0]), .string (bs [1, 97, 0])] w (Tells w (.int .i64 0)) from kn_3 ▸ compare_any [1, 65, 0] [1, 97, 0] (by simp) (by simp) w))
  have q0 : ((bs [0]).toList == [0]) = true := by rw [bs_toList]; rfl
  have q1 : ((bs [92, 46, 46]).toList == [92, 46, 46]) = true := by rw [bs_toList]; rfl
  have q2 : ((bs [97, 92, 48, 48, 55, 46]).toList == [97, 92, 48, 48, 55, 46]) = true := by rw [bs_toList]; rfl
  have q3 : ((bs [2, 97, 10, 0]).toList == [2, 97, 10, 0]) = true := by rw [bs_toList]; rfl
  have q4 : ((bs [1, 98, 0]).toList == [1, 98, 0]) = true := by rw [bs_toList]; rfl
  go_enter Try.func8, Try.ntmps8
  go_wp2_with fail
  refine (tell_on HB (H1.out _)).mono ?_; rintro e w1 ⟨rfl, HB⟩
  replace HB := Lib.hid (HB.out.alloc HB.out.size (.cells #[.int .i64 0, .int .i64 0] 43))
  go_wp2_with fail
  refine (tell_on HB (F1.out _)).mono ?_; rintro e w1 ⟨rfl, HB⟩
  go_wp2_with fail
  refine (tell_on HB (F2.out _)).mono ?_; rintro e w1 ⟨rfl, HB⟩
  go_wp2_with fail
  refine (tell_on HB (F3.out _)).mono ?_; rintro e w1 ⟨rfl, HB⟩
  go_wp2_with fail
  refine (tell_on HB (F4.out _)).mono ?_; rintro e w1 ⟨rfl, HB⟩
  go_wp2_with fail
  refine (tell_on HB (T1.out _)).mono ?_; rintro e w1 ⟨rfl, HB⟩
  go_wp2_with fail
  refine (tell_on HB (T2.out _)).mono ?_; rintro e w1 ⟨rfl, HB⟩
  go_wp2_with fail
  refine (tell_on HB (P2.out _)).mono ?_; rintro e w1 ⟨rfl, HB⟩
  replace HB := Lib.hid (HB.out.alloc HB.out.size (.cells #[.int .i64 0, .int .i64 0] 43))
  go_wp2_with fail
  refine (tell_on HB (W1.out _)).mono ?_; rintro e w1 ⟨rfl, HB⟩
  go_wp2_with fail
  refine (tell_on HB (W2.out _)).mono ?_; rintro e w1 ⟨rfl, HB⟩
  go_wp2_with fail
  refine (tell_on HB (W3.out _)).mono ?_; rintro e w1 ⟨rfl, HB⟩
  go_wp2_with fail
  refine (tell_on HB (A1.out _)).mono ?_; rintro e w1 ⟨rfl, HB⟩
  go_wp2_with fail
  refine (tell_on HB (A2.out _)).mono ?_; rintro e w1 ⟨rfl, HB⟩
  go_wp2_with fail
  refine (tell_on HB (HAW.out _)).mono ?_; rintro e w1 ⟨rfl, HB⟩
  go_wp2_with fail
  refine (tell_on HB (N1.out _)).mono ?_; rintro e w1 ⟨rfl, HB⟩
  go_wp2_with fail
  refine (tell_on HB (N2.out _)).mono ?_; rintro e w1 ⟨rfl, HB⟩
  go_wp2_with fail
  refine (tell_on HB (N3.out _)).mono ?_; rintro e w1 ⟨rfl, HB⟩
  go_wp2_with fail
  go_ret
  exact ⟨rfl, HB.out⟩
end Go.Proofs.Ytibaeklpgfadpaa
