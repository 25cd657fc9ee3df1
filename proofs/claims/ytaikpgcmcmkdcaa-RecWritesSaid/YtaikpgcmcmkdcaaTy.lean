/-
  A text's reader: label.
-/
import Derived.Test.YtaikpgcmcmkdcaaTv
namespace Go.Proofs.Ytaikpgcmcmkdcaa
open Go.RowKit Go.Shelf
set_option linter.unusedVariables false
set_option maxRecDepth 100000
set_option linter.unusedSimpArgs false

theorem back_U {w : World} {B : Nat} {v : Value} {l : List UInt8} (h : OwnU w B v l) : (convert 43 9 v).run Try.prog w = .ok (.string (bs l)) w := by
  obtain ⟨a, c, rfl, hc⟩ := h.shape
  by_cases h0 : 0 < l.length
  · obtain ⟨g, rfl, _, hg⟩ := hc h0
    exact run_convert_bytes_back (P := Try.prog) w 43 9 5 ⟨g, 0, none⟩ c l Try.underlying43 Try.underlying5 Try.underlying9 (fun j hj => by
      rw [WideShapes.add_plain, Nat.zero_add, hg j hj, List.getD, List.getElem?_eq_getElem hj]; rfl)
  · have hl : l = [] := List.eq_nil_of_length_eq_zero (by omega)
    subst hl
    rcases a with _ | ad
    · rw [run_convert_bytes_nil w 43 5 Try.underlying43 Try.underlying5 _ c 9 Try.underlying9]; rfl
    · rw [run_convert_bytes_string w 43 9 5 _ _ c Try.underlying43 Try.underlying5 Try.underlying9, run_bytesToString w ad _ c [] (by simpa using run_loadCells_list (P := Try.prog) w ad [] (by simp))]
      rfl

end Go.Proofs.Ytaikpgcmcmkdcaa
