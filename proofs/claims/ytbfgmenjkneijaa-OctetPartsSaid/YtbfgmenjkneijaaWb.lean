/-
  Writing over all bytes of a row: that row alone turns.
-/
import Derived.Test.YtbfgmenjkneijaaWa
namespace Go.Proofs.Ytbfgmenjkneijaa
open Go.RowKit
set_option linter.unusedVariables false

/-- Block g is c bytes, whatever they are. -/
def BytesAt (w : World) (g c : Nat) : Prop := ∃ l : List Int, l.length = c ∧ w.heap[g]? = some (.cells (l.map (Value.int .u8)).toArray 5 (0, 0))

theorem BytesAt.cell {w : World} {g c k : Nat} (h : BytesAt w g c) (hk : k < c) : ∃ x : Int, w.cell? ⟨g, k, none⟩ = some (.int .u8 x) := by
  obtain ⟨l, hl, hg⟩ := h
  refine ⟨l.getD k 0, ?_⟩
  rw [World.cell?, hg]
  simp [hl, hk]
theorem BytesAt.frozen {w : World} {g c k : Nat} (h : BytesAt w g c) : w.frozen? ⟨g, k, none⟩ = false := by
  obtain ⟨l, hl, hg⟩ := h
  simp [World.frozen?, hg]
theorem BytesAt.set {w : World} {g c k : Nat} (h : BytesAt w g c) (x : Int) : BytesAt (w.setCell ⟨g, k, none⟩ (.int .u8 x)) g c := by
  obtain ⟨l, hl, hg⟩ := h
  refine ⟨l.set k x, by simpa using hl, ?_⟩
  simp [World.setCell, Array.getElem?_modify, hg, List.map_set]
theorem Only.set {w0 w : World} {g k : Nat} (h : Only g w0 w) (u : Value) : Only g w0 (w.setCell ⟨g, k, none⟩ u) := by
  obtain ⟨h1, h2, h3, h4, h5⟩ := h
  refine ⟨h1, h2, h3, by simp [World.setCell, h4], fun j hj => (Below.heap_setCell w ⟨g, k, none⟩ u j hj).trans (h5 j hj)⟩

set_option maxHeartbeats 400000 in
theorem over_nil (w : World) : Calls Try.prog 13 #[.slice none 0 0] w fun e w' => e = .returned (.tuple #[]) ∧ w = w' := by
  go_enter Try.func13, Try.ntmps13
  go_wp2
  go_loop [3] (fun i => i = .int .i64 0) (fun _ => 0)
  case atStart => rfl
  case round =>
    subst hrel
    go_wp2
    go_end0
    exact ⟨rfl, rfl⟩

set_option maxHeartbeats 400000 in
theorem over_row (w : World) (g c : Nat) (hc : c ≤ 1000000) (h : BytesAt w g c) : Calls Try.prog 13 #[.slice (some ⟨g, 0, none⟩) c c] w fun e w' => e = .returned (.tuple #[]) ∧ Only g w w' := by
  have H := Lib.hid h
  clear h
  go_enter Try.func13, Try.ntmps13
  go_wp2
  go_loopw [3] (fun i wr => ∃ k : Nat, k ≤ c ∧ i = .int .i64 k ∧ Hid (BytesAt wr g c) ∧ Hid (Only g w wr)) (fun i _ => c - (intOf i).toNat)
  case atStart => exact ⟨0, Nat.zero_le _, rfl, H, Lib.hid (Only.refl g w)⟩
  case round =>
    obtain ⟨k, hk, rfl, HB, HO⟩ := hrel
    by_cases hlt : k < c
    · obtain ⟨x, hx⟩ := HB.out.cell hlt
      have hf := HB.out.frozen (k := k)
      go_wp2
      go_roundw
      case rel => exact ⟨k + 1, by omega, by go_num, Lib.hid (HB.out.set _), Lib.hid (HO.out.set _)⟩
      case measure => simp [intOf]; omega
    · go_wp2
      go_end0
      exact ⟨rfl, HO.out⟩
theorem Own.bytes {w : World} {g : Nat} {l : List Int} (h : w.heap[g]? = some (.cells (l.map (Value.int .u8)).toArray 5 (0, 0))) : BytesAt w g l.length := ⟨l, rfl, h⟩

theorem over_own {w : World} {g : Nat} {v : Value} {l : List Int} (h : Own w g v l) (hl : l.length ≤ 1000000) : Calls Try.prog 13 #[v] w fun e w' => e = .returned (.tuple #[]) ∧ Only g w w' := by
  rcases h with ⟨rfl, rfl⟩ | ⟨rfl, hg⟩
  · exact (over_nil w).mono fun e w' ⟨he, hw⟩ => ⟨he, by subst hw; exact Only.refl g w⟩
  · exact over_row w g l.length hl (Own.bytes hg)
end Go.Proofs.Ytbfgmenjkneijaa
