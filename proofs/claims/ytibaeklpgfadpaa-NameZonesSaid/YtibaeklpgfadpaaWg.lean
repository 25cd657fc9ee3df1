/-
  A slice of texts that came in.
-/
import Derived.Test.YtibaeklpgfadpaaTd
import Derived.SliceStrings
namespace Go.Proofs.Ytibaeklpgfadpaa
open Go.RowKit
set_option linter.unusedVariables false

theorem row_st {w : World} {a : Option Addr} {len cap : Nat} {ss : List ByteArray}
    (h : (a = none ∧ len = 0 ∧ cap = 0 ∧ ss = []) ∨ ∃ x, a = some x ∧ len ≤ cap ∧ cap ≤ maxLen ∧ ss.length = cap ∧ ∀ i, i < ss.length → w.cell? (x.add i) = some (.string (ss.getD i ByteArray.empty))) :
    ∃ l, len = l.length ∧ St w 0 w.heap.size (.slice a len cap) l := by
  rcases h with ⟨rfl, rfl, rfl, rfl⟩ | ⟨x, rfl, hl, hm, hz, hc⟩
  · exact ⟨[], rfl, St.nil _ _ _⟩
  · have hlen : ((ss.take len).map fun s => s.data.toList).length = len := by rw [List.length_map, List.length_take]; omega
    refine ⟨(ss.take len).map fun s => s.data.toList, hlen.symm, some x, cap, by rw [hlen], by omega, fun h => by simp at h, fun h0 => ?_⟩
    rw [hlen] at h0
    obtain ⟨b, off, spot⟩ := x
    have hspot : spot = none := by simpa [Addr.add] using World.cell?_spot (hc 0 (by omega))
    subst hspot
    have hcell : ∀ j, j < len → w.cell? ⟨b, off + j, none⟩ = some (tv (((ss.take len).map fun s => s.data.toList).getD j [])) := fun j hj => by
      have h1 := hc j (by omega)
      rw [WideShapes.add_plain] at h1
      rw [h1, List.getD, List.getElem?_eq_getElem (by omega), List.getD, List.getElem?_map, List.getElem?_take, if_pos hj, List.getElem?_eq_getElem (by omega)]
      show some (Value.string ss[j]) = some (tv (ss[j]).data.toList)
      rw [tv, ← bs_eta]
    exact ⟨b, off, rfl, Nat.zero_le _, World.block_lt_of_cell? w _ (hcell 0 h0), fun j hj => hcell j (by omega)⟩
end Go.Proofs.Ytibaeklpgfadpaa
