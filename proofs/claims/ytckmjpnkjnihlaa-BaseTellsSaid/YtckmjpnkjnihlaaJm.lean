/-
  The document's Decode: what its rounds keep.
-/
import Derived.Test.YtckmjpnkjnihlaaJk
namespace Go.Proofs.Ytckmjpnkjnihlaa
open Go.RowKit Go.Shelf
set_option linter.unusedVariables false
set_option maxRecDepth 100000

/-- What the document's Decode tells. -/
def RDePost (w : World) (s : List UInt8) (e : Ending) (w' : World) : Prop :=
  ∃ v, e = .returned (.tuple #[v, .agg #[.int .i64 (decE s), .int .i64 (decA s)]]) ∧ Sl w' w.heap.size w'.heap.size v (iz (decB s)) ∧ Below w.heap.size w w'

theorem sl_nil (w : World) (lo hi : Nat) : Sl w lo hi (.slice none 0 0) (iz []) := ⟨none, 0, rfl, by simp [iz], fun _ => rfl, fun h => by simp [iz] at h⟩

theorem RDePost.of {w w' : World} {s : List UInt8} {v : Value} {e : Ending} {E : Int} {A : Nat} (h : e = .returned (.tuple #[v, .agg #[.int .i64 E, .int .i64 A]])) (hE : decE s = E) (hA : decA s = A) (ho : Sl w' w.heap.size w'.heap.size v (iz (decB s))) (hb : Below w.heap.size w w') : RDePost w s e w' := by
  subst hE; subst hA
  exact ⟨v, h, ho, hb⟩

/-- How it is when so many bits have gone. -/
structure RdI (w wr : World) (s : List UInt8) (m i : Nat) : Prop where
  res : wr.heap[w.heap.size]? = some (.cells #[.int .i64 0, .int .i64 0] 26 (0, 0))
  row : wr.heap[w.heap.size + 1]? = some (.cells ((fil s m i).map (Value.int .u8)).toArray 5 (0, 0))
  bel : Below w.heap.size w wr
  zer : ∀ t, 8 * m ≤ t → t < i → vb s t = 0

theorem RdI.cells {w wr : World} {s : List UInt8} {m i : Nat} (h : RdI w wr s m i) :
    wr.cell? ⟨w.heap.size, 0, none⟩ = some (.int .i64 0) ∧ wr.cell? ⟨w.heap.size, 1, none⟩ = some (.int .i64 0) ∧ (∀ j, wr.frozen? ⟨w.heap.size, j, none⟩ = false) ∧ w.heap.size + 1 < wr.heap.size :=
  ⟨by simp [World.cell?, h.res], by simp [World.cell?, h.res], fun j => by simp [World.frozen?, h.res], (Array.getElem?_eq_some_iff.mp h.row).1⟩

theorem RdI.at_ {w wr : World} {s : List UInt8} {m i : Nat} (h : RdI w wr s m i) (hi : i < 8 * m) :
    wr.cell? ⟨w.heap.size + 1, i / 8, none⟩ = some (.int .u8 (pv s (8 * (i / 8)) (i % 8) : Nat)) ∧ ∀ j, wr.frozen? ⟨w.heap.size + 1, j, none⟩ = false := by
  refine ⟨?_, fun j => by simp [World.frozen?, h.row]⟩
  have h1 := fil_get s m i (i / 8) (by omega)
  rw [show min 8 (i - 8 * (i / 8)) = i % 8 by omega] at h1
  rw [World.cell?, h.row, ← h1]
  have h2 : i / 8 < (fil s m i).length := by rw [fil_len]; omega
  simp [List.getD, List.getElem?_eq_getElem h2]

theorem RdI.next {w wr : World} {s : List UInt8} {m i : Nat} (h : RdI w wr s m i) (hi : i < 8 * m) :
    RdI w (wr.setCell ⟨w.heap.size + 1, i / 8, none⟩ (.int .u8 (pv s (8 * (i / 8)) (i % 8 + 1) : Nat))).drew s m (i + 1) := by
  refine ⟨?_, ?_, (h.bel.setCell (by simp) _).drew, fun t h1 h2 => by omega⟩
  · exact (Below.heap_setCell _ _ _ _ (by simp)).trans h.res
  · have := h.row
    rw [← fil_step s m i hi, List.map_set]
    simp [World.setCell, World.drew, Array.getElem?_modify, this]

theorem RdI.more {w wr : World} {s : List UInt8} {m i : Nat} (h : RdI w wr s m i) (hi : 8 * m ≤ i) (hz : vb s i = 0) : RdI w wr s m (i + 1) := by
  refine ⟨h.res, ?_, h.bel, fun t h1 h2 => ?_⟩
  · rw [fil_more s m i hi]; exact h.row
  · rcases Nat.lt_or_ge t i with h3 | h3
    · exact h.zer t h1 h3
    · rw [show t = i by omega]; exact hz

theorem num_at (s : List UInt8) (q : Nat) (hf : bad s = s.length) (h : q < s.length) : numN s[q] = (vn s q : Nat) := by
  have := bad_fine s q (by omega) h
  unfold numN; rw [if_pos this, vn_at s q h]

theorem bel2 (w : World) (o : Obj) (x y : Value) : Below w.heap.size w (((w.alloc o).setCell ⟨w.heap.size, 0, none⟩ x).setCell ⟨w.heap.size, 1, none⟩ y) :=
  (((Below.refl _ _).alloc (Nat.le_refl _) _).setCell (p := ⟨w.heap.size, 0, none⟩) (Nat.le_refl _) _).setCell (p := ⟨w.heap.size, 1, none⟩) (Nat.le_refl _) _

theorem or_bit (s : List UInt8) (j r x : Nat) (hr : r < 8) (hx : vb s (j + r) = x) : bits .or .u8 ((pv s j r : Nat) : Int) ((x * 2 ^ (7 - r) : Nat) : Int) = ((pv s j (r + 1) : Nat) : Int) := by
  have hx1 := vb_lt s (j + r)
  rw [hx] at hx1
  have e1 : 2 ^ (8 - r) = 2 * 2 ^ (7 - r) := by rw [show 8 - r = 7 - r + 1 by omega, Nat.pow_succ, Nat.mul_comm]
  have e2 : pv s j (r + 1) = pv s j r + x * 2 ^ (7 - r) := by
    unfold pv
    rw [av, hx, e1, show 8 - (r + 1) = 7 - r by omega, Nat.add_mul, Nat.mul_comm 2, Nat.mul_assoc]
  have e3 : pv s j r < 256 := by
    have h1 := av_lt s j r
    have h2 : av s j r * 2 ^ (8 - r) < 2 ^ r * 2 ^ (8 - r) := Nat.mul_lt_mul_of_pos_right h1 (Nat.pow_pos (by omega))
    rw [← Nat.pow_add, show r + (8 - r) = 8 by omega] at h2
    exact h2
  have e4 : x * 2 ^ (7 - r) < 2 ^ (8 - r) := by
    have h1 : x * 2 ^ (7 - r) ≤ 1 * 2 ^ (7 - r) := Nat.mul_le_mul_right _ (by omega)
    have h2 : 0 < 2 ^ (7 - r) := Nat.pow_pos (by omega)
    omega
  have e5 : x * 2 ^ (7 - r) < 256 := by
    have : 2 ^ (8 - r) ≤ 2 ^ 8 := Nat.pow_le_pow_right (by omega) (by omega)
    omega
  have e6 : pv s j r % 2 ^ (8 - r) = 0 := by unfold pv; exact Nat.mul_mod_left _ _
  have q8 : (2 : Int) ^ 8 = 256 := by decide
  have qc : ((2 ^ (8 - r) : Nat) : Int) = 2 ^ (8 - r) := by push_cast; rfl
  rw [e2, bits_join .u8 8 (by decide) (fun n h0 h1 => IntWalk.u8_in n ⟨h0, by rw [q8] at h1; omega⟩) (8 - r) _ _ (by omega) (by rw [← qc]; exact_mod_cast e6) (by rw [q8]; omega) (by omega) (by rw [← qc]; exact_mod_cast e4) (by rw [q8]; omega)]
  push_cast
  rfl

theorem wrap_small {q : Nat} (h : q < 400000) : wrap64 (q : Int) = q := IntWalk.wrap64_in _ ⟨by omega, by omega⟩

theorem vb_int {v r x : Nat} (h : v / 2 ^ (5 - r) % 2 = x) : ((v : Int) / 2 ^ (5 - r)).tmod 2 = (x : Nat) := by
  have e : (v : Int) / 2 ^ (5 - r) = ((v / 2 ^ (5 - r) : Nat) : Int) := by push_cast; rfl
  obtain ⟨y, hy⟩ : ∃ y, v / 2 ^ (5 - r) = y := ⟨_, rfl⟩
  rw [e, hy, Int.tmod_eq_emod_of_nonneg (by omega)]
  rw [hy] at h
  omega

theorem sh_int {x y r : Nat} (h : x * 2 ^ (7 - r) = y) (hy : y < 256) : IntKind.u8.wrap ((x : Int) * 2 ^ (7 - r)) = (y : Nat) := by
  have e : (x : Int) * 2 ^ (7 - r) = ((x * 2 ^ (7 - r) : Nat) : Int) := by push_cast; rfl
  rw [e, h]
  exact IntWalk.u8_in _ (by omega)

theorem sh_lt {x r : Nat} (h : x < 2) : x * 2 ^ (7 - r) < 256 := by
  have h1 : 2 ^ (7 - r) ≤ 2 ^ 7 := Nat.pow_le_pow_right (by omega) (by omega)
  have h2 : x * 2 ^ (7 - r) ≤ 1 * 2 ^ (7 - r) := Nat.mul_le_mul_right _ (by omega)
  omega
end Go.Proofs.Ytckmjpnkjnihlaa
