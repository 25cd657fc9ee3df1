/-
  Lower, the program's and the document's.
-/
import Derived.Test.YtckmjpnkjnihlaaTd
import Derived.Test.YtckmjpnkjnihlaaShelf
import Derived.Laws.IdiomStrings
namespace Go.Proofs.Ytckmjpnkjnihlaa
open Go.RowKit
set_option linter.unusedVariables false
set_option maxRecDepth 100000

/-- A byte in lower form; bytes in lower form. -/
def lw (c : UInt8) : UInt8 := if 65 ≤ c.toNat ∧ c.toNat ≤ 90 then c + 32 else c
def low (l : List UInt8) : List UInt8 := l.map lw

/-- Block g begins with these bytes, which may be written. -/
def Buf (w : World) (g : Nat) (l : List UInt8) : Prop := ∀ j, j < l.length → w.cell? ⟨g, j, none⟩ = some (.int .u8 ((l.getD j 0).toNat : Nat)) ∧ w.frozen? ⟨g, j, none⟩ = false

theorem Buf.set {w : World} {g : Nat} {l : List UInt8} (h : Buf w g l) (k : Nat) (hk : k < l.length) (c : UInt8) : Buf (w.setCell ⟨g, k, none⟩ (.int .u8 (c.toNat : Nat))) g (l.set k c) := by
  intro j hj
  rw [List.length_set] at hj
  rw [World.frozen?_setCell]
  refine ⟨?_, (h j hj).2⟩
  by_cases e : j = k
  · subst e
    rw [World.cell?_setCell_same _ _ _ (h j hj).1]
    simp [hj]
  · rw [World.cell?_setCell_other _ _ _ _ (by first | (simp; done) | (simp; omega)), (h j hj).1]
    simp [List.getElem?_set_ne (Ne.symm e)]

theorem Buf.row {w : World} {s : List UInt8} {cap : Nat} {t : TypeId} (hcap : s.length ≤ cap) : Buf (w.drew.alloc (.cells (bytesRow (bs s) cap) t ((bytesRow (bs s) cap).size, (bytesRow (bs s) cap).size + 1))) w.heap.size s := by
  intro j hj
  have h1 := World.cell?_alloc_mark w.drew (bytesRow (bs s) cap) t ((bytesRow (bs s) cap).size, (bytesRow (bs s) cap).size + 1) j
  have h2 := World.frozen?_alloc_mark w.drew (bytesRow (bs s) cap) t (bytesRow (bs s) cap).size ((bytesRow (bs s) cap).size + 1) j
  have hsz : j < (bytesRow (bs s) cap).size := by simp [bytesRow, bs]; omega
  refine ⟨h1.trans ?_, h2.trans ?_⟩
  · rw [bytesRow_at (bs s) cap j (by simpa [bs] using hj)]
    simp [bs, hj]
  · simp; omega

end Go.Proofs.Ytckmjpnkjnihlaa
