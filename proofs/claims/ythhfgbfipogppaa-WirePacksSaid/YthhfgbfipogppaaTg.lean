/-
  Lower, the program's and the document's.
-/
import Derived.Test.YthhfgbfipogppaaTf
import Derived.Laws.IdiomStrings
namespace Go.Proofs.Ythhfgbfipogppaa
open Go.RowKit
set_option linter.unusedVariables false

/-- A byte in lower form; bytes in lower form. -/
def lw (c : UInt8) : UInt8 := if 65 ≤ c.toNat ∧ c.toNat ≤ 90 then c + 32 else c
def low (l : List UInt8) : List UInt8 := l.map lw

/-- Block g begins with these bytes, which may be written. -/
def Buf (w : World) (g : Nat) (l : List UInt8) : Prop := ∀ j, j < l.length → w.cell? ⟨g, j, none⟩ = some (.int .u8 ((l.getD j 0).toNat : Nat)) ∧ w.frozen? ⟨g, j, none⟩ = false

theorem Buf.set {w : World} {g : Nat} {l : List UInt8} (h : Buf w g l) (k : Nat) (hk : k < l.length) (c : UInt8) : Buf (w.setCell ⟨g, k, none⟩ (.int .u8 (c.toNat : Nat))) g (l.set k c) := by
  intro j hj
  rw [List.length_set] at hj
  rw [World.frozen?_setCell]
  refine ⟨?_, (h j hj).2⟩
  by_cases e : j = k
  · subst e
    rw [World.cell?_setCell_same _ _ _ (h j hj).1]
    simp [hj]
  · rw [World.cell?_setCell_other _ _ _ _ (by first | (simp; done) | (simp; omega)), (h j hj).1]
    simp [List.getElem?_set_ne (Ne.symm e)]

theorem Buf.row {w : World} {s : List UInt8} {cap : Nat} {t : TypeId} (hcap : s.length ≤ cap) : Buf (w.drew.alloc (.cells (bytesRow (bs s) cap) t ((bytesRow (bs s) cap).size, (bytesRow (bs s) cap).size + 1))) w.heap.size s := by
  intro j hj
  have h1 := World.cell?_alloc_mark w.drew (bytesRow (bs s) cap) t ((bytesRow (bs s) cap).size, (bytesRow (bs s) cap).size + 1) j
  have h2 := World.frozen?_alloc_mark w.drew (bytesRow (bs s) cap) t (bytesRow (bs s) cap).size ((bytesRow (bs s) cap).size + 1) j
  have hsz : j < (bytesRow (bs s) cap).size := by simp [bytesRow, bs]; omega
  refine ⟨h1.trans ?_, h2.trans ?_⟩
  · rw [bytesRow_at (bs s) cap j (by simpa [bs] using hj)]
    simp [bs, hj]
  · simp; omega

theorem to_bytes (w : World) (s : List UInt8) : ∃ cap W, (convert 9 22 (.string (bs s))).run Try.prog w = .ok (.slice (some ⟨w.heap.size, 0, none⟩) s.length cap) W ∧ Buf W w.heap.size s ∧ Below w.heap.size w W := by
  have h := run_bytes_of_string (P := Try.prog) w 9 22 5 (bs s) Try.underlying9 Try.underlying22 Try.underlying5
  rw [bs_size] at h
  refine ⟨_, _, h, Buf.row ?_, ?_⟩
  · exact grownCap_ge _ _ _ _
  · exact (Below.refl _ w).drew.alloc (Nat.le_refl _) _

theorem back_bytes {w : World} {g : Nat} {l : List UInt8} (h : Buf w g l) (cap : Nat) : (convert 22 9 (.slice (some ⟨g, 0, none⟩) l.length cap)).run Try.prog w = .ok (.string (bs l)) w :=
  run_convert_bytes_back w 22 9 5 ⟨g, 0, none⟩ cap l Try.underlying22 Try.underlying5 Try.underlying9 (fun j hj => by
    have := (h j hj).1
    rw [WideShapes.add_plain, Nat.zero_add, this, List.getD, List.getElem?_eq_getElem hj]; rfl)

end Go.Proofs.Ythhfgbfipogppaa
