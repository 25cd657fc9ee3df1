/-
  The document's Decode, plainly: bit by bit.
-/
import Derived.Test.YtckmjpnkjnihlaaJj
namespace Go.Proofs.Ytckmjpnkjnihlaa
set_option linter.unusedVariables false
set_option maxRecDepth 100000

/-- A bit of a text. -/
def vb (s : List UInt8) (i : Nat) : Nat := vn s (i / 6) / 2 ^ (5 - i % 6) % 2
theorem vb_lt (s : List UInt8) (i : Nat) : vb s i < 2 := by unfold vb; omega
theorem vb_at (s : List UInt8) (q r : Nat) (h : r < 6) : vb s (6 * q + r) = vn s q / 2 ^ (5 - r) % 2 := by
  unfold vb; rw [show (6 * q + r) / 6 = q by omega, show (6 * q + r) % 6 = r by omega]

/-- So many bits of a text from a place on, as a number. -/
def av (s : List UInt8) (i : Nat) : Nat → Nat
  | 0 => 0
  | k + 1 => 2 * av s i k + vb s (i + k)
theorem av_lt (s : List UInt8) (i k : Nat) : av s i k < 2 ^ k := by
  induction k with
  | zero => simp [av]
  | succ k ih => have := vb_lt s (i + k); rw [av, Nat.pow_succ]; omega

/-- .. from the highest place of a byte on. -/
def pv (s : List UInt8) (i k : Nat) : Nat := av s i k * 2 ^ (8 - k)

theorem pv_eight (s : List UInt8) (j : Nat) (h : 6 * s.length ≥ 8 * j + 8) (hf : bad s = s.length) : pv s (8 * j) 8 = bt s j := by
  have e : pv s (8 * j) 8 = 2 * (2 * (2 * (2 * (2 * (2 * (2 * (2 * 0 + vb s (8 * j + 0)) + vb s (8 * j + 1)) + vb s (8 * j + 2)) + vb s (8 * j + 3)) + vb s (8 * j + 4)) + vb s (8 * j + 5)) + vb s (8 * j + 6)) + vb s (8 * j + 7) := by
    unfold pv; rw [show 8 - 8 = 0 by omega, Nat.pow_zero, Nat.mul_one]; rfl
  rw [e]
  have V := fun i (hi : i < s.length) => bad_vn s i (by omega)
  obtain ⟨q, rfl | rfl | rfl⟩ := three j
  · rw [bt0, show 8 * (3 * q) + 0 = 6 * (4 * q) + 0 by omega, show 8 * (3 * q) + 1 = 6 * (4 * q) + 1 by omega, show 8 * (3 * q) + 2 = 6 * (4 * q) + 2 by omega, show 8 * (3 * q) + 3 = 6 * (4 * q) + 3 by omega, show 8 * (3 * q) + 4 = 6 * (4 * q) + 4 by omega, show 8 * (3 * q) + 5 = 6 * (4 * q) + 5 by omega, show 8 * (3 * q) + 6 = 6 * (4 * q + 1) + 0 by omega, show 8 * (3 * q) + 7 = 6 * (4 * q + 1) + 1 by omega]
    rw [vb_at s _ 0 (by omega), vb_at s _ 1 (by omega), vb_at s _ 2 (by omega), vb_at s _ 3 (by omega), vb_at s _ 4 (by omega), vb_at s _ 5 (by omega), vb_at s _ 0 (by omega), vb_at s _ 1 (by omega)]
    have := V (4 * q) (by omega)
    have := V (4 * q + 1) (by omega)
    omega
  · rw [bt1, show 8 * (3 * q + 1) + 0 = 6 * (4 * q + 1) + 2 by omega, show 8 * (3 * q + 1) + 1 = 6 * (4 * q + 1) + 3 by omega, show 8 * (3 * q + 1) + 2 = 6 * (4 * q + 1) + 4 by omega, show 8 * (3 * q + 1) + 3 = 6 * (4 * q + 1) + 5 by omega, show 8 * (3 * q + 1) + 4 = 6 * (4 * q + 2) + 0 by omega, show 8 * (3 * q + 1) + 5 = 6 * (4 * q + 2) + 1 by omega, show 8 * (3 * q + 1) + 6 = 6 * (4 * q + 2) + 2 by omega, show 8 * (3 * q + 1) + 7 = 6 * (4 * q + 2) + 3 by omega]
    rw [vb_at s _ 2 (by omega), vb_at s _ 3 (by omega), vb_at s _ 4 (by omega), vb_at s _ 5 (by omega), vb_at s _ 0 (by omega), vb_at s _ 1 (by omega), vb_at s _ 2 (by omega), vb_at s _ 3 (by omega)]
    have := V (4 * q + 1) (by omega)
    have := V (4 * q + 2) (by omega)
    omega
  · rw [bt2, show 8 * (3 * q + 2) + 0 = 6 * (4 * q + 2) + 4 by omega, show 8 * (3 * q + 2) + 1 = 6 * (4 * q + 2) + 5 by omega, show 8 * (3 * q + 2) + 2 = 6 * (4 * q + 3) + 0 by omega, show 8 * (3 * q + 2) + 3 = 6 * (4 * q + 3) + 1 by omega, show 8 * (3 * q + 2) + 4 = 6 * (4 * q + 3) + 2 by omega, show 8 * (3 * q + 2) + 5 = 6 * (4 * q + 3) + 3 by omega, show 8 * (3 * q + 2) + 6 = 6 * (4 * q + 3) + 4 by omega, show 8 * (3 * q + 2) + 7 = 6 * (4 * q + 3) + 5 by omega]
    rw [vb_at s _ 4 (by omega), vb_at s _ 5 (by omega), vb_at s _ 0 (by omega), vb_at s _ 1 (by omega), vb_at s _ 2 (by omega), vb_at s _ 3 (by omega), vb_at s _ 4 (by omega), vb_at s _ 5 (by omega)]
    have := V (4 * q + 2) (by omega)
    have := V (4 * q + 3) (by omega)
    omega

/-- The bytes when so many bits have gone. -/
def fil (s : List UInt8) (m i : Nat) : List Int := (List.range m).map fun j => ((pv s (8 * j) (min 8 (i - 8 * j)) : Nat) : Int)

@[simp] theorem fil_len (s : List UInt8) (m i : Nat) : (fil s m i).length = m := by simp [fil]

theorem fil_get (s : List UInt8) (m i j : Nat) (h : j < m) : (fil s m i).getD j 0 = ((pv s (8 * j) (min 8 (i - 8 * j)) : Nat) : Int) := by
  unfold fil; rw [List.getD, List.getElem?_map, List.getElem?_range h]; rfl

theorem fil_zero (s : List UInt8) (m : Nat) : fil s m 0 = List.replicate m 0 := by
  unfold fil
  have e : ∀ j, ((pv s (8 * j) (min 8 (0 - 8 * j)) : Nat) : Int) = 0 := fun j => by
    rw [show min 8 (0 - 8 * j) = 0 by omega]; unfold pv av; simp
  simp only [e, List.map_const', List.length_range]

theorem fil_step (s : List UInt8) (m i : Nat) (h : i < 8 * m) : (fil s m i).set (i / 8) ((pv s (8 * (i / 8)) (i % 8 + 1) : Nat) : Int) = fil s m (i + 1) := by
  refine List.ext_getElem (by simp) fun j h1 h2 => ?_
  have h3 : j < m := by simpa using h2
  rw [List.getElem_set]
  by_cases hj : i / 8 = j
  · rw [if_pos hj]
    simp only [fil, List.getElem_map, List.getElem_range]
    rw [hj, show min 8 (i + 1 - 8 * j) = i % 8 + 1 by omega]
  · rw [if_neg hj]
    simp only [fil, List.getElem_map, List.getElem_range]
    rw [show min 8 (i + 1 - 8 * j) = min 8 (i - 8 * j) by omega]

theorem fil_more (s : List UInt8) (m i : Nat) (h : 8 * m ≤ i) : fil s m (i + 1) = fil s m i := by
  refine List.ext_getElem (by simp) fun j h1 h2 => ?_
  have h3 : j < m := by simpa using h2
  simp only [fil, List.getElem_map, List.getElem_range]
  rw [show min 8 (i + 1 - 8 * j) = min 8 (i - 8 * j) by omega]

theorem fil_end (s : List UInt8) (hf : bad s = s.length) : fil s (6 * s.length / 8) (6 * s.length) = iz (decN s (6 * s.length / 8)) := by
  refine List.ext_getElem (by simp) fun j h1 h2 => ?_
  have h3 : j < 6 * s.length / 8 := by simpa using h1
  have e := gb_dec s j (6 * s.length / 8) h3 (Nat.le_refl _) hf
  rw [gb_at _ _ (by simpa using h3)] at e
  simp only [fil, iz, List.getElem_map, List.getElem_range]
  rw [e, show min 8 (6 * s.length - 8 * j) = 8 by omega, pv_eight s j (by omega) hf]

/-- Bits behind the last byte. -/
theorem rest_bit (s : List UInt8) (h4 : ¬ s.length % 4 = 1) (i : Nat) (h1 : 8 * (6 * s.length / 8) ≤ i) (h2 : i < 6 * s.length) (h : ¬ vb s i = 0) : ¬ rst s s.length = 0 := by
  obtain ⟨q, hq | hq | hq | hq⟩ := four s.length
  · omega
  · omega
  · rw [hq, rst2]
    intro hz
    rw [hq] at h1 h2
    have : i = 6 * (4 * q + 1) + 2 ∨ i = 6 * (4 * q + 1) + 3 ∨ i = 6 * (4 * q + 1) + 4 ∨ i = 6 * (4 * q + 1) + 5 := by omega
    rcases this with rfl | rfl | rfl | rfl
    · rw [vb_at s _ 2 (by omega)] at h; omega
    · rw [vb_at s _ 3 (by omega)] at h; omega
    · rw [vb_at s _ 4 (by omega)] at h; omega
    · rw [vb_at s _ 5 (by omega)] at h; omega
  · rw [hq, rst3]
    intro hz
    rw [hq] at h1 h2
    have : i = 6 * (4 * q + 2) + 4 ∨ i = 6 * (4 * q + 2) + 5 := by omega
    rcases this with rfl | rfl
    · rw [vb_at s _ 4 (by omega)] at h; omega
    · rw [vb_at s _ 5 (by omega)] at h; omega

theorem rest_zero (s : List UInt8) (h4 : ¬ s.length % 4 = 1) (h : ∀ i, 8 * (6 * s.length / 8) ≤ i → i < 6 * s.length → vb s i = 0) : rst s s.length = 0 := by
  obtain ⟨q, hq | hq | hq | hq⟩ := four s.length
  · rw [hq, rst0]
  · omega
  · rw [hq] at h ⊢
    rw [rst2]
    have h2 := h (6 * (4 * q + 1) + 2) (by omega) (by omega)
    have h3 := h (6 * (4 * q + 1) + 3) (by omega) (by omega)
    have h5 := h (6 * (4 * q + 1) + 4) (by omega) (by omega)
    have h6 := h (6 * (4 * q + 1) + 5) (by omega) (by omega)
    rw [vb_at s _ 2 (by omega)] at h2
    rw [vb_at s _ 3 (by omega)] at h3
    rw [vb_at s _ 4 (by omega)] at h5
    rw [vb_at s _ 5 (by omega)] at h6
    omega
  · rw [hq] at h ⊢
    rw [rst3]
    have h5 := h (6 * (4 * q + 2) + 4) (by omega) (by omega)
    have h6 := h (6 * (4 * q + 2) + 5) (by omega) (by omega)
    rw [vb_at s _ 4 (by omega)] at h5
    rw [vb_at s _ 5 (by omega)] at h6
    omega
end Go.Proofs.Ytckmjpnkjnihlaa
