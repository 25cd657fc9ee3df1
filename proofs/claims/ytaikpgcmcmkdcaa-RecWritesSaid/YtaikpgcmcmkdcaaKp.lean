/-
  Known; names told again; the statement about names that are told twice.
-/
import Derived.Test.YtaikpgcmcmkdcaaKo
import Derived.Test.YtaikpgcmcmkdcaaBPick
import Derived.Test.YtaikpgcmcmkdcaaBSame
import Derived.Deep.RegionHeld3
import Derived.Outline
namespace Go.Proofs.Ytaikpgcmcmkdcaa
open Go.RowKit Go.Shelf
set_option linter.unusedVariables false
set_option maxRecDepth 100000

set_option maxHeartbeats 400000 in
theorem known_any {w : World} {p bm e : Nat} {K : List (List UInt8 × Nat)} (h : Pk w p bm K e) : Calls Try.prog 23 #[.pointer (some ⟨p, 0, none⟩)] w fun x w' => x = .returned (.int .i64 K.length) ∧ w = w' := by
  have HM := Lib.hid (made_yes p w h.self)
  have c1 := h.tails
  have hlen := h.map.len
  go_enter Try.func23, Try.ntmps23
  go_wp2_with fail
  refine HM.out.mono ?_; rintro e w1 ⟨rfl, rfl⟩
  go_wp2_with fail
  go_ret
  exact ⟨rfl, rfl⟩

theorem len_wire2 {ls : List (List UInt8)} (h : ∀ x ∈ ls, 0 < x.length ∧ x.length ≤ 63) : 2 * ls.length ≤ (wire ls).length := by
  induction ls with
  | nil => simp
  | cons x r ih =>
    have h1 := h x List.mem_cons_self
    have h2 := ih fun y hy => h y (List.mem_cons_of_mem _ hy)
    simp [wire]
    omega
theorem chk_nm {ls : List (List UInt8)} (h : Shorts ls) : chk (nm ls) = 0 := shorts_chk h
end Go.Proofs.Ytaikpgcmcmkdcaa
