/-
  SameTexts, CopyTexts, OverTexts, KeptTexts.
-/
import Derived.Test.YtaikpgcmcmkdcaaTm
namespace Go.Proofs.Ytaikpgcmcmkdcaa
open Go.RowKit Go.Shelf
set_option linter.unusedVariables false
set_option maxRecDepth 100000

/-- A draw or more. -/
def Drawn (w w' : World) : Prop := ∃ n, w' = w.drewN n
theorem Drawn.refl (w : World) : Drawn w w := ⟨0, rfl⟩
theorem Drawn.drew {w w' : World} (h : Drawn w w') : Drawn w w'.drew := by obtain ⟨n, rfl⟩ := h; exact ⟨n + 1, rfl⟩
theorem Drawn.cell {w w' : World} (h : Drawn w w') (p : Addr) : w'.cell? p = w.cell? p := by obtain ⟨n, rfl⟩ := h; rfl
theorem Drawn.below {w w' : World} (h : Drawn w w') (B : Nat) : Below B w w' := by obtain ⟨n, rfl⟩ := h; exact below_drewN (Below.refl _ _) _
theorem Drawn.trans {a b c : World} (h : Drawn a b) (k : Drawn b c) : Drawn a c := by obtain ⟨n, rfl⟩ := h; obtain ⟨m, rfl⟩ := k; exact ⟨n + m, by simp [World.drewN, Nat.add_assoc]⟩

theorem bs_eq (a b : List UInt8) : ((bs a).toList == (bs b).toList) = decide (a = b) := by
  rw [bs_toList, bs_toList]
  by_cases h : a = b <;> simp [h]

/-! ### CopyTexts -/
/-! ### OverTexts -/
/-- Of block g, from k on, each of the c places holds a text. -/
def TextsFrom (w : World) (g c k : Nat) : Prop := (∀ j, k ≤ j → j < c → ∃ x : List UInt8, x.length ≤ 900000 ∧ w.cell? ⟨g, j, none⟩ = some (tv x)) ∧ ∀ j, w.frozen? ⟨g, j, none⟩ = false

theorem TextsFrom.step {w : World} {g c k : Nat} (h : TextsFrom w g c k) (u : Value) : TextsFrom (w.setCell ⟨g, k, none⟩ u) g c (k + 1) := by
  refine ⟨fun j h1 h2 => ?_, fun j => by rw [World.frozen?_setCell]; exact h.2 j⟩
  obtain ⟨x, hx, hc⟩ := h.1 j (by omega) h2
  exact ⟨x, hx, by rw [World.cell?_setCell_other _ _ _ _ (by first | (simp; done) | (simp; omega))]; exact hc⟩

theorem OwnT.texts {w : World} {B g c : Nat} {n : Nat} {l : List (List UInt8)} (h : OwnT w B (.slice (some ⟨g, 0, none⟩) n c) l) (hl : ∀ x ∈ l, x.length ≤ 900000) : TextsFrom w g c 0 := by
  rcases h with ⟨h, _⟩ | ⟨g', cap, hv, hB, hc, _, hg⟩
  · simp at h
  · injection hv with e1 e2 e3
    injection e1 with e1
    injection e1 with e4 e5 e6
    subst e4; subst e3
    refine ⟨fun j _ hj => ?_, fun j => by simp [World.frozen?, hg]⟩
    rw [World.cell?, hg]
    by_cases h2 : j < l.length
    · refine ⟨l[j], hl _ (List.getElem_mem h2), ?_⟩
      simp [List.getElem?_append_left, h2]
    · refine ⟨[], by simp, ?_⟩
      rw [List.length_map] at hc
      simp [List.getElem?_append_right, show l.length ≤ j by omega, show j - l.length < c - l.length by omega]
      rfl

/-! ### KeptTexts -/
end Go.Proofs.Ytaikpgcmcmkdcaa
