/-
  A packer that New did not make; New.
-/
import Derived.Test.YtaikpgcmcmkdcaaKe
import Derived.Test.YtaikpgcmcmkdcaaBKept
import Derived.Maps.OwnSet
import Derived.LaidEqlPtr
import Derived.Outline
namespace Go.Proofs.Ytaikpgcmcmkdcaa
open Go.RowKit Go.Shelf
set_option linter.unusedVariables false
set_option maxRecDepth 100000

theorem info_pk : (Try.prog.info? 72).map (fun i => decide (i.size = 0)) = some false := by kernel_rfl
theorem eq_ptr (p : Nat) (w : World) : (binOp .eql 31 (.pointer (some ⟨p, 0, none⟩)) (.pointer (some ⟨p, 0, none⟩))).run Try.prog w = .ok (.bool true) w := by
  obtain ⟨i, hi, _⟩ := Option.map_eq_some_iff.1 info_pk
  exact run_eql_ptr_same w ⟨p, 0, none⟩ Try.underlying31 hi

theorem made_yes (p : Nat) (w : World) (h : w.cell? ⟨p, 0, none⟩ = some (.pointer (some ⟨p, 0, none⟩))) : Calls Try.prog 46 #[.pointer (some ⟨p, 0, none⟩)] w fun e w' => e = .returned (.bool true) ∧ w = w' := by
  have he := eq_ptr p w
  go_enter Try.func46, Try.ntmps46
  go_wp2
  go_ret
  exact ⟨rfl, rfl⟩

end Go.Proofs.Ytaikpgcmcmkdcaa
