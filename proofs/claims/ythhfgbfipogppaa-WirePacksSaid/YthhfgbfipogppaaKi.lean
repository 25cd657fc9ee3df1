/-
  A packer that New did not make; New.
-/
import Derived.Test.YthhfgbfipogppaaKf
import Derived.Maps.OwnSet
import Derived.LaidEqlPtr
import Derived.Outline
namespace Go.Proofs.Ythhfgbfipogppaa
open Go.RowKit Go.Shelf
set_option linter.unusedVariables false

theorem info_pk : (Try.prog.info? 57).map (fun i => decide (i.size = 0)) = some false := by kernel_rfl
theorem eq_nil_ptr (p : Nat) (w : World) : (binOp .eql 33 (.pointer none) (.pointer (some ⟨p, 0, none⟩))).run Try.prog w = .ok (.bool false) w := by
  kernel_rfl
theorem eq_ptr (p : Nat) (w : World) : (binOp .eql 33 (.pointer (some ⟨p, 0, none⟩)) (.pointer (some ⟨p, 0, none⟩))).run Try.prog w = .ok (.bool true) w := by
  obtain ⟨i, hi, _⟩ := Option.map_eq_some_iff.1 info_pk
  exact run_eql_ptr_same w ⟨p, 0, none⟩ Try.underlying33 hi

theorem made_nil (w : World) : Calls Try.prog 30 #[.pointer none] w fun e w' => e = .returned (.bool false) ∧ w = w' := by
  go_enter Try.func30, Try.ntmps30
  go_wp2
  go_ret
  exact ⟨rfl, rfl⟩

theorem made_zero (p : Nat) (w : World) (h : w.cell? ⟨p, 0, none⟩ = some (.pointer none)) : Calls Try.prog 30 #[.pointer (some ⟨p, 0, none⟩)] w fun e w' => e = .returned (.bool false) ∧ w = w' := by
  have he := eq_nil_ptr p w
  go_enter Try.func30, Try.ntmps30
  go_wp2
  go_ret
  exact ⟨rfl, rfl⟩

theorem made_yes (p : Nat) (w : World) (h : w.cell? ⟨p, 0, none⟩ = some (.pointer (some ⟨p, 0, none⟩))) : Calls Try.prog 30 #[.pointer (some ⟨p, 0, none⟩)] w fun e w' => e = .returned (.bool true) ∧ w = w' := by
  have he := eq_ptr p w
  go_enter Try.func30, Try.ntmps30
  go_wp2
  go_ret
  exact ⟨rfl, rfl⟩

theorem name_unmade (v : Value) (at_ : Int) (s : ByteArray) (w : World) (hm : Calls Try.prog 30 #[v] w fun e w' => e = .returned (.bool false) ∧ w = w') :
    Calls Try.prog 18 #[v, .int .i64 at_, .string s] w fun e w' => e = .returned (.tuple #[.slice none 0 0, .int .i64 1]) ∧ w = w' := by
  have HM := Lib.hid hm
  clear hm
  go_enter Try.func18, Try.ntmps18
  go_wp2_with fail
  refine HM.out.mono ?_; rintro e w1 ⟨rfl, rfl⟩
  go_wp2_with fail
  go_ret2
  exact ⟨rfl, rfl⟩

theorem known_unmade (v : Value) (w : World) (hm : Calls Try.prog 30 #[v] w fun e w' => e = .returned (.bool false) ∧ w = w') :
    Calls Try.prog 21 #[v] w fun e w' => e = .returned (.int .i64 0) ∧ w = w' := by
  have HM := Lib.hid hm
  clear hm
  go_enter Try.func21, Try.ntmps21
  go_wp2_with fail
  refine HM.out.mono ?_; rintro e w1 ⟨rfl, rfl⟩
  go_wp2_with fail
  go_ret
  exact ⟨rfl, rfl⟩

set_option maxRecDepth 100000 in
set_option maxHeartbeats 1000000 in
theorem none_any (at_ : Int) (s : ByteArray) (w : World) : Calls Try.prog 9 #[.int .i64 at_, .string s] w (Tells w (.bool true)) := by
  have HAW := Lib.hid awake_any
  by_cases hl : 400 < s.size
  · go_enter Try.func9, Try.ntmps9
    go_wp2_with fail
    refine (HAW.out _).mono ?_; rintro e w1 ⟨rfl, hb⟩
    have HB := Lib.hid hb
    clear hb
    go_wp2_with fail
    go_ret
    exact ⟨rfl, HB.out⟩
  · have N1 := Lib.hid (fun wx => name_unmade (.pointer none) at_ s wx (made_nil wx))
    have K1 := Lib.hid (fun wx => known_unmade (.pointer none) wx (made_nil wx))
    have N2 := Lib.hid (fun wx p h => name_unmade (.pointer (some ⟨p, 0, none⟩)) at_ s wx (made_zero p wx h))
    have K2 := Lib.hid (fun wx p h => known_unmade (.pointer (some ⟨p, 0, none⟩)) wx (made_zero p wx h))
    go_enter Try.func9, Try.ntmps9
    go_wp2_with fail
    refine wp_loop_rounds 3 ?_
    rw [rounds_succ]
    go_wp2_with fail
    refine (N1.out _).mono ?_; rintro e w1 ⟨rfl, rfl⟩
    go_wp2_with fail
    refine (K1.out _).mono ?_; rintro e w2 ⟨rfl, rfl⟩
    go_wp2_with fail
    rw [rounds_succ]
    go_wp2_with fail
    refine (N2.out _ _ (by simp [go_sem])).mono ?_; rintro e w3 ⟨rfl, rfl⟩
    go_wp2_with fail
    refine (K2.out _ _ (by simp [go_sem])).mono ?_; rintro e w4 ⟨rfl, rfl⟩
    go_wp2_with fail
    rw [rounds_succ]
    go_wp2_with fail
    refine (HAW.out _).mono ?_; rintro e w5 ⟨rfl, hb⟩
    go_wp2_with fail
    go_ret
    exact ⟨rfl, bel_call (((Below.refl _ _).alloc (Nat.le_refl _) _).alloc (by simp) _) hb⟩
end Go.Proofs.Ythhfgbfipogppaa
