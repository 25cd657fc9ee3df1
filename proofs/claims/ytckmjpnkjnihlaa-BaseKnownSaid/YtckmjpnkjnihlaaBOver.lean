/-
  OverBytes: that row alone turns.
-/
import Derived.Test.YtckmjpnkjnihlaaBWords
namespace Go.Proofs.Ytckmjpnkjnihlaa
open Go.RowKit
set_option linter.unusedVariables false
set_option maxRecDepth 100000

set_option maxHeartbeats 400000 in
theorem over_nil (w : World) : Calls Try.prog 15 #[.slice none 0 0] w fun e w' => e = .returned (.tuple #[]) ∧ w = w' := by
  go_enter Try.func15, Try.ntmps15
  go_wp2
  go_loop [3] (fun i => i = .int .i64 0) (fun _ => 0)
  case atStart => rfl
  case round =>
    subst hrel
    go_wp2
    go_end0
    exact ⟨rfl, rfl⟩

set_option maxHeartbeats 400000 in
theorem over_row (w : World) (g c : Nat) (hc : c ≤ 1000000) (h : BytesAt w g c) : Calls Try.prog 15 #[.slice (some ⟨g, 0, none⟩) c c] w fun e w' => e = .returned (.tuple #[]) ∧ Only g w w' := by
  have H := Lib.hid h
  clear h
  go_enter Try.func15, Try.ntmps15
  go_wp2
  go_loopw [3] (fun i wr => ∃ k : Nat, k ≤ c ∧ i = .int .i64 k ∧ Hid (BytesAt wr g c) ∧ Hid (Only g w wr)) (fun i _ => c - (intOf i).toNat)
  case atStart => exact ⟨0, Nat.zero_le _, rfl, H, Lib.hid (Only.refl g w)⟩
  case round =>
    obtain ⟨k, hk, rfl, HB, HO⟩ := hrel
    by_cases hlt : k < c
    · obtain ⟨x, hx⟩ := HB.out.cell hlt
      have hf := HB.out.frozen (k := k)
      go_wp2
      go_roundw
      case rel => exact ⟨k + 1, by omega, by go_num, Lib.hid (HB.out.set _), Lib.hid (HO.out.set _)⟩
      case measure => simp [intOf]; omega
    · go_wp2
      go_end0
      exact ⟨rfl, HO.out⟩

theorem over_own {w : World} {g : Nat} {v : Value} {l : List Int} (h : Own w g v l) (hl : l.length ≤ 1000000) : Calls Try.prog 15 #[v] w fun e w' => e = .returned (.tuple #[]) ∧ Only g w w' := by
  rcases h with ⟨rfl, rfl⟩ | ⟨rfl, hg⟩
  · exact (over_nil w).mono fun e w' ⟨he, hw⟩ => ⟨he, by subst hw; exact Only.refl g w⟩
  · exact over_row w g l.length hl (Own.bytes hg)
end Go.Proofs.Ytckmjpnkjnihlaa
