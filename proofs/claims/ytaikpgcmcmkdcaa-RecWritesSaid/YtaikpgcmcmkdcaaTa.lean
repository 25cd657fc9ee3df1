/-
  Texts as lists of bytes; the labels with which bytes begin; slices of texts as lists.
-/
import Derived.Test.YtaikpgcmcmkdcaaRf
import Derived.Test.YtaikpgcmcmkdcaaBWords
namespace Go.Proofs.Ytaikpgcmcmkdcaa
open Go.RowKit
set_option linter.unusedVariables false
set_option maxRecDepth 100000

/-- The text of these bytes. -/
def bs (l : List UInt8) : ByteArray := ⟨l.toArray⟩
@[simp] theorem bs_size (l : List UInt8) : (bs l).size = l.length := by simp [bs, ByteArray.size]
theorem bs_eta (s : ByteArray) : s = bs s.data.toList := by simp [bs]
theorem bs_inj {a b : List UInt8} (h : bs a = bs b) : a = b := by
  have := congrArg (fun s : ByteArray => s.data.toList) h
  simpa [bs] using this
theorem bs_toList (l : List UInt8) : (bs l).toList = l := ByteArray.toList_mk _
theorem bs_extract (l : List UInt8) (i j : Nat) : (bs l).extract i j = bs ((l.take j).drop i) := by
  have h := bs_eta ((bs l).extract i j)
  rw [h]
  congr 1
  rw [ByteArray.data_extract]
  simp [bs, List.drop_take]

theorem bs_get (l : List UInt8) (k : Nat) (h : k < l.length) : (bs l)[k]'(by simpa using h) = l[k] := by
  show l.toArray[k] = l[k]
  simp

/-- The labels with which bytes begin, each behind its length. -/
def labs : List UInt8 → List (List UInt8)
  | [] => []
  | c :: r => if c.toNat = 0 ∨ 63 < c.toNat ∨ r.length < c.toNat then [] else r.take c.toNat :: labs (r.drop c.toNat)
termination_by l => l.length
decreasing_by simp; omega

/-- What is left behind them. -/
def left : List UInt8 → List UInt8
  | [] => []
  | c :: r => if c.toNat = 0 ∨ 63 < c.toNat ∨ r.length < c.toNat then c :: r else left (r.drop c.toNat)
termination_by l => l.length
decreasing_by simp; omega

theorem labs_no (n : List UInt8) (p : Nat) (hp : p < n.length) (h : n[p].toNat = 0 ∨ 63 < n[p].toNat ∨ n.length < p + 1 + n[p].toNat) : labs (n.drop p) = [] ∧ left (n.drop p) = n.drop p := by
  have e : n.drop p = n[p] :: n.drop (p + 1) := List.drop_eq_getElem_cons hp
  have h' : n[p].toNat = 0 ∨ 63 < n[p].toNat ∨ (n.drop (p + 1)).length < n[p].toNat := by rw [List.length_drop]; omega
  rw [e, labs, left, if_pos h', if_pos h']
  exact ⟨rfl, rfl⟩

theorem labs_yes (n : List UInt8) (p : Nat) (hp : p < n.length) (h : ¬ (n[p].toNat = 0 ∨ 63 < n[p].toNat ∨ n.length < p + 1 + n[p].toNat)) :
    labs (n.drop p) = (n.drop (p + 1)).take n[p].toNat :: labs (n.drop (p + 1 + n[p].toNat)) ∧ left (n.drop p) = left (n.drop (p + 1 + n[p].toNat)) := by
  have e : n.drop p = n[p] :: n.drop (p + 1) := List.drop_eq_getElem_cons hp
  have h' : ¬ (n[p].toNat = 0 ∨ 63 < n[p].toNat ∨ (n.drop (p + 1)).length < n[p].toNat) := by rw [List.length_drop]; omega
  rw [e, labs, left, if_neg h', if_neg h', List.drop_drop]
  exact ⟨rfl, rfl⟩

theorem labs_end (n : List UInt8) (p : Nat) (hp : n.length ≤ p) : labs (n.drop p) = [] ∧ left (n.drop p) = [] := by
  rw [List.drop_eq_nil_of_le hp, labs, left]
  exact ⟨rfl, rfl⟩

theorem along_end {α : Type} {L : List α} {k : Nat} (h : L.drop k = []) (hk : k ≤ L.length) : k = L.length := by
  have := congrArg List.length h
  rw [List.length_drop] at this
  simp at this
  omega

theorem along_step {α : Type} {L r : List α} {k : Nat} {x : α} (h : L.drop k = x :: r) : L[k]? = some x ∧ L.drop (k + 1) = r ∧ k + 1 ≤ L.length := by
  have hl : k < L.length := by
    have := congrArg List.length h
    rw [List.length_drop] at this
    simp at this
    omega
  have e := List.drop_eq_getElem_cons hl
  rw [h] at e
  injection e with e1 e2
  exact ⟨by rw [List.getElem?_eq_getElem hl, e1], e2.symm, hl⟩

/-! ### operations on texts, as they run -/
theorem ix_run (n : List UInt8) (p : Nat) (hp : p < n.length) (w : World) : (Instr.index 9 (.string (bs n)) (.int .i64 p)).run Try.prog w = .ok (.int .u8 (n[p].toNat : Int)) w := by
  rw [run_index_string w 9 _ _ _ Try.underlying9, dif_pos (by rw [bs_size]; omega)]
  congr 3

theorem cut_run (n : List UInt8) (i j : Nat) (h : i ≤ j) (hj : j ≤ n.length) (w : World) : (Instr.slice 9 (.string (bs n)) (some (.int .i64 i)) (some (.int .i64 j)) none).run Try.prog w = .ok (.string (bs ((n.drop i).take (j - i)))) w := by
  rw [run_slice_string w 9 _ _ _ _ _ Try.underlying9 (by omega) (by omega) (by simp; omega), bs_extract, List.drop_take]
  simp

theorem from_run (n : List UInt8) (i : Nat) (h : i ≤ n.length) (w : World) : (Instr.slice 9 (.string (bs n)) (some (.int .i64 i)) none none).run Try.prog w = .ok (.string (bs (n.drop i))) w := by
  rw [run_slice_string_from_if w 9 _ _ _ Try.underlying9, if_pos (by simp; omega), bs_extract]
  simp

theorem labels_any (s : ByteArray) (w : World) : Calls Try.prog 76 #[.string s] w fun e w' =>
    e = .returned (.func (.func 93) #[] #[.pointer (some ⟨w.heap.size, 0, none⟩)]) ∧ w' = w.alloc (.cells #[.string s] 9) := by
  go_enter Try.func76, Try.ntmps76
  go_wp2
  go_ret
  exact ⟨rfl, rfl⟩
end Go.Proofs.Ytaikpgcmcmkdcaa
