/-
  SameBytes.
-/
import Derived.Test.YtckmjpnkjnihlaaBWords
namespace Go.Proofs.Ytckmjpnkjnihlaa
open Go.RowKit
set_option linter.unusedVariables false
set_option maxRecDepth 100000

/-- A slice of bytes as a string. -/
theorem conv_sl {w : World} {lo hi : Nat} {v : Value} {l : List Int} (h : Sl w lo hi v l) : (convert 22 9 v).run Try.prog w = .ok (.string (strOfNums l)) w := by
  obtain ⟨a, c, rfl, hc, hn, hp⟩ := h
  by_cases h0 : 0 < l.length
  · obtain ⟨b, off, rfl, _, _, hx⟩ := hp h0
    exact run_convert_bytes_arg w 22 5 Try.underlying22 Try.underlying5 b off l.length c l rfl hx 9 Try.underlying9
  · have hl : l = [] := List.eq_nil_of_length_eq_zero (by omega)
    subst hl
    rcases a with _ | ad
    · rw [run_convert_bytes_nil w 22 5 Try.underlying22 Try.underlying5 _ c 9 Try.underlying9]; rfl
    · rw [run_convert_bytes_string w 22 9 5 _ _ c Try.underlying22 Try.underlying5 Try.underlying9, run_bytesToString w ad _ c [] (by simpa using run_loadCells_list (P := Try.prog) w ad [] (by simp))]
      rfl

set_option maxHeartbeats 400000 in
theorem same_any {w : World} {lo hi lo' hi' : Nat} {v v' : Value} {l : List Int} (h : Sl w lo hi v l) (h' : Sl w lo' hi' v' l) :
    Calls Try.prog 14 #[v, v'] w fun e w' => e = .returned (.bool true) ∧ w = w' := by
  have c1 := conv_sl h
  have c2 := conv_sl h'
  clear h h'
  go_enter Try.func14, Try.ntmps14
  go_wp2
  go_ret
  exact ⟨rfl, rfl⟩
end Go.Proofs.Ytckmjpnkjnihlaa
