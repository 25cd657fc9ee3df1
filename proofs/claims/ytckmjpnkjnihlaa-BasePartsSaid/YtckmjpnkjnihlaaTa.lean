/-
  Texts as lists of bytes; the labels with which bytes begin; slices of texts as lists.
-/
import Derived.Test.YtckmjpnkjnihlaaRf
import Derived.Test.YtckmjpnkjnihlaaBWords
namespace Go.Proofs.Ytckmjpnkjnihlaa
open Go.RowKit
set_option linter.unusedVariables false
set_option maxRecDepth 100000

/-- The text of these bytes. -/
def bs (l : List UInt8) : ByteArray := ⟨l.toArray⟩
@[simp] theorem bs_size (l : List UInt8) : (bs l).size = l.length := by simp [bs, ByteArray.size]
theorem bs_eta (s : ByteArray) : s = bs s.data.toList := by simp [bs]
theorem bs_extract (l : List UInt8) (i j : Nat) : (bs l).extract i j = bs ((l.take j).drop i) := by
  have h := bs_eta ((bs l).extract i j)
  rw [h]
  congr 1
  rw [ByteArray.data_extract]
  simp [bs, List.drop_take]

/-- What is left behind them. -/
def left : List UInt8 → List UInt8
  | [] => []
  | c :: r => if c.toNat = 0 ∨ 63 < c.toNat ∨ r.length < c.toNat then c :: r else left (r.drop c.toNat)
termination_by l => l.length
decreasing_by simp; omega

/-! ### operations on texts, as they run -/
theorem ix_run (n : List UInt8) (p : Nat) (hp : p < n.length) (w : World) : (Instr.index 9 (.string (bs n)) (.int .i64 p)).run Try.prog w = .ok (.int .u8 (n[p].toNat : Int)) w := by
  rw [run_index_string w 9 _ _ _ Try.underlying9, dif_pos (by rw [bs_size]; omega)]
  congr 3

theorem cut_run (n : List UInt8) (i j : Nat) (h : i ≤ j) (hj : j ≤ n.length) (w : World) : (Instr.slice 9 (.string (bs n)) (some (.int .i64 i)) (some (.int .i64 j)) none).run Try.prog w = .ok (.string (bs ((n.drop i).take (j - i)))) w := by
  rw [run_slice_string w 9 _ _ _ _ _ Try.underlying9 (by omega) (by omega) (by simp; omega), bs_extract, List.drop_take]
  simp

theorem from_run (n : List UInt8) (i : Nat) (h : i ≤ n.length) (w : World) : (Instr.slice 9 (.string (bs n)) (some (.int .i64 i)) none none).run Try.prog w = .ok (.string (bs (n.drop i))) w := by
  rw [run_slice_string_from_if w 9 _ _ _ Try.underlying9, if_pos (by simp; omega), bs_extract]
  simp

end Go.Proofs.Ytckmjpnkjnihlaa
