/-
  Bytes as letters and back, plainly: each letter, each byte, by its place.
-/
import Derived.Test.YtckmjpnkjnihlaaKj
namespace Go.Proofs.Ytckmjpnkjnihlaa
set_option linter.unusedVariables false
set_option maxRecDepth 100000

/-- The letters, by their numbers. -/
def alph : List UInt8 := [65, 66, 67, 68, 69, 70, 71, 72, 73, 74, 75, 76, 77, 78, 79, 80, 81, 82, 83, 84, 85, 86, 87, 88, 89, 90, 97, 98, 99, 100, 101, 102, 103, 104, 105, 106, 107, 108, 109, 110, 111, 112, 113, 114, 115, 116, 117, 118, 119, 120, 121, 122, 48, 49, 50, 51, 52, 53, 54, 55, 56, 57, 45, 95]

/-- The letter of a number. -/
def ltr (n : Nat) : UInt8 := alph.getD n 0
/-- A byte's number as a letter; 64: it is none. -/
def nm (c : UInt8) : Nat := alph.findIdx (· == c)

theorem nm_ltr : ∀ n, n < 64 → nm (ltr n) = n := by decide
theorem nm_le (c : UInt8) : nm c ≤ 64 := List.findIdx_le_length (xs := alph)
theorem ltr_nm (c : UInt8) (h : nm c < 64) : ltr (nm c) = c := by
  have h1 := List.findIdx_getElem (xs := alph) (p := (· == c)) (w := h)
  unfold ltr
  rw [List.getD, List.getElem?_eq_getElem h]
  exact beq_iff_eq.mp h1

/-- The byte at a place, as a number; behind them 0. -/
def gb (b : List UInt8) (i : Nat) : Nat := (b.getD i 0).toNat
theorem gb_lt (b : List UInt8) (i : Nat) : gb b i < 256 := (b.getD i 0).toNat_lt
theorem gb_end (b : List UInt8) (i : Nat) (h : b.length ≤ i) : gb b i = 0 := by
  unfold gb; rw [List.getD, List.getElem?_eq_none h]; rfl
theorem gb_at (b : List UInt8) (i : Nat) (h : i < b.length) : gb b i = b[i].toNat := by
  unfold gb; rw [List.getD, List.getElem?_eq_getElem h]; rfl

/-- The number of the letter at a place. -/
def lt (b : List UInt8) (j : Nat) : Nat :=
  if j % 4 = 0 then gb b (j / 4 * 3) / 4
  else if j % 4 = 1 then gb b (j / 4 * 3) % 4 * 16 + gb b (j / 4 * 3 + 1) / 16
  else if j % 4 = 2 then gb b (j / 4 * 3 + 1) % 16 * 4 + gb b (j / 4 * 3 + 2) / 64
  else gb b (j / 4 * 3 + 2) % 64

theorem lt0 (b : List UInt8) (q : Nat) : lt b (4 * q) = gb b (3 * q) / 4 := by
  unfold lt; rw [if_pos (by omega), show 4 * q / 4 * 3 = 3 * q by omega]
theorem lt1 (b : List UInt8) (q : Nat) : lt b (4 * q + 1) = gb b (3 * q) % 4 * 16 + gb b (3 * q + 1) / 16 := by
  unfold lt; rw [if_neg (by omega), if_pos (by omega), show (4 * q + 1) / 4 * 3 = 3 * q by omega]
theorem lt2 (b : List UInt8) (q : Nat) : lt b (4 * q + 2) = gb b (3 * q + 1) % 16 * 4 + gb b (3 * q + 2) / 64 := by
  unfold lt; rw [if_neg (by omega), if_neg (by omega), if_pos (by omega), show (4 * q + 2) / 4 * 3 = 3 * q by omega]
theorem lt3 (b : List UInt8) (q : Nat) : lt b (4 * q + 3) = gb b (3 * q + 2) % 64 := by
  unfold lt; rw [if_neg (by omega), if_neg (by omega), if_neg (by omega), show (4 * q + 3) / 4 * 3 = 3 * q by omega]

theorem four (j : Nat) : ∃ q, j = 4 * q ∨ j = 4 * q + 1 ∨ j = 4 * q + 2 ∨ j = 4 * q + 3 := ⟨j / 4, by omega⟩
theorem three (j : Nat) : ∃ q, j = 3 * q ∨ j = 3 * q + 1 ∨ j = 3 * q + 2 := ⟨j / 3, by omega⟩

theorem lt_64 (b : List UInt8) (j : Nat) : lt b j < 64 := by
  obtain ⟨q, rfl | rfl | rfl | rfl⟩ := four j
  · rw [lt0]; have := gb_lt b (3 * q); omega
  · rw [lt1]; have := gb_lt b (3 * q); have := gb_lt b (3 * q + 1); omega
  · rw [lt2]; have := gb_lt b (3 * q + 1); have := gb_lt b (3 * q + 2); omega
  · rw [lt3]; have := gb_lt b (3 * q + 2); omega

/-- How many letters so many bytes are. -/
def nl (n : Nat) : Nat := (8 * n + 5) / 6
/-- The first letters. -/
def encN (b : List UInt8) (k : Nat) : List UInt8 := (List.range k).map fun j => ltr (lt b j)
/-- Bytes as text. -/
def enc (b : List UInt8) : List UInt8 := encN b (nl b.length)

@[simp] theorem encN_len (b : List UInt8) (k : Nat) : (encN b k).length = k := by simp [encN]
@[simp] theorem enc_len (b : List UInt8) : (enc b).length = nl b.length := encN_len _ _
theorem encN_succ (b : List UInt8) (k : Nat) : encN b (k + 1) = encN b k ++ [ltr (lt b k)] := by
  unfold encN; rw [List.range_succ, List.map_append]; rfl
theorem enc_get (b : List UInt8) (j : Nat) (h : j < nl b.length) : (enc b)[j]? = some (ltr (lt b j)) := by
  unfold enc encN; rw [List.getElem?_map, List.getElem?_range h]; rfl

/-- What is carried when so many bytes have gone. -/
def cy (b : List UInt8) (i : Nat) : Nat := if i % 3 = 0 then 0 else if i % 3 = 1 then gb b (i - 1) % 4 else gb b (i - 1) % 16

/-- The number of the letter at a place of a text. -/
def vn (s : List UInt8) (j : Nat) : Nat := nm (s.getD j 0)
theorem vn_at (s : List UInt8) (j : Nat) (h : j < s.length) : vn s j = nm s[j] := by
  unfold vn; rw [List.getD, List.getElem?_eq_getElem h]; rfl

/-- The byte at a place of those of a text. -/
def bt (s : List UInt8) (j : Nat) : Nat :=
  if j % 3 = 0 then vn s (j / 3 * 4) * 4 + vn s (j / 3 * 4 + 1) / 16
  else if j % 3 = 1 then vn s (j / 3 * 4 + 1) % 16 * 16 + vn s (j / 3 * 4 + 2) / 4
  else vn s (j / 3 * 4 + 2) % 4 * 64 + vn s (j / 3 * 4 + 3)

theorem bt0 (s : List UInt8) (q : Nat) : bt s (3 * q) = vn s (4 * q) * 4 + vn s (4 * q + 1) / 16 := by
  unfold bt; rw [if_pos (by omega), show 3 * q / 3 * 4 = 4 * q by omega]
theorem bt1 (s : List UInt8) (q : Nat) : bt s (3 * q + 1) = vn s (4 * q + 1) % 16 * 16 + vn s (4 * q + 2) / 4 := by
  unfold bt; rw [if_neg (by omega), if_pos (by omega), show (3 * q + 1) / 3 * 4 = 4 * q by omega]
theorem bt2 (s : List UInt8) (q : Nat) : bt s (3 * q + 2) = vn s (4 * q + 2) % 4 * 64 + vn s (4 * q + 3) := by
  unfold bt; rw [if_neg (by omega), if_neg (by omega), show (3 * q + 2) / 3 * 4 = 4 * q by omega]

/-- What is left of the letters up to a place. -/
def rst (s : List UInt8) (i : Nat) : Nat := if i % 4 = 0 then 0 else if i % 4 = 1 then vn s (i - 1) else if i % 4 = 2 then vn s (i - 1) % 16 else vn s (i - 1) % 4

/-- Where the first byte stands that is no letter. -/
def bad (s : List UInt8) : Nat := s.findIdx fun c => nm c == 64

theorem bad_le (s : List UInt8) : bad s ≤ s.length := List.findIdx_le_length
theorem bad_fine (s : List UInt8) (j : Nat) (h : j < bad s) (hl : j < s.length) : nm s[j] < 64 := by
  have h1 := List.not_of_lt_findIdx h
  have h2 := nm_le s[j]
  simp at h1
  omega
theorem bad_vn (s : List UInt8) (j : Nat) (h : j < bad s) : vn s j < 64 := by
  have := bad_le s
  rw [vn_at s j (by omega)]
  exact bad_fine s j h (by omega)
theorem bad_is (s : List UInt8) (h : bad s < s.length) : nm s[bad s] = 64 := by
  have := List.findIdx_getElem (xs := s) (p := fun c => nm c == 64) (w := h)
  exact beq_iff_eq.mp this
theorem bad_all (s : List UInt8) (h : ∀ j (hl : j < s.length), nm s[j] < 64) : bad s = s.length := by
  have h1 := bad_le s
  rcases Nat.lt_or_ge (bad s) s.length with h2 | h2
  · have := bad_is s h2; have := h _ h2; omega
  · omega

/-- The first bytes of a text. -/
def decN (s : List UInt8) (k : Nat) : List UInt8 := (List.range k).map fun j => UInt8.ofNat (bt s j)
@[simp] theorem decN_len (s : List UInt8) (k : Nat) : (decN s k).length = k := by simp [decN]
theorem decN_succ (s : List UInt8) (k : Nat) : decN s (k + 1) = decN s k ++ [UInt8.ofNat (bt s k)] := by
  unfold decN; rw [List.range_succ, List.map_append]; rfl

/-- May a text have so many letters, and is it fine? -/
def fineB (s : List UInt8) : Prop := bad s = s.length ∧ s.length % 4 ≠ 1 ∧ rst s s.length = 0
instance (s : List UInt8) : Decidable (fineB s) := inferInstanceAs (Decidable (_ ∧ _ ∧ _))
/-- The bytes that are told. -/
def decB (s : List UInt8) : List UInt8 := if fineB s then decN s (6 * s.length / 8) else []
def decE (s : List UInt8) : Int := if fineB s then 0 else 4
def decA (s : List UInt8) : Nat := if bad s < s.length then bad s else if s.length % 4 = 1 then s.length else if rst s s.length ≠ 0 then s.length - 1 else 0

theorem decA_le (s : List UInt8) : decA s ≤ s.length := by
  unfold decA
  have := bad_le s
  repeat' split
  all_goals omega

theorem gb_dec (s : List UInt8) (j k : Nat) (h : j < k) (hb : k ≤ 6 * s.length / 8) (hf : bad s = s.length) : gb (decN s k) j = bt s j := by
  rw [gb_at _ _ (by simpa using h)]
  have h256 : bt s j < 256 := by
    obtain ⟨q, rfl | rfl | rfl⟩ := three j
    · rw [bt0]; have := bad_vn s (4 * q) (by omega); have := bad_vn s (4 * q + 1) (by omega); omega
    · rw [bt1]; have := bad_vn s (4 * q + 1) (by omega); have := bad_vn s (4 * q + 2) (by omega); omega
    · rw [bt2]; have := bad_vn s (4 * q + 2) (by omega); have := bad_vn s (4 * q + 3) (by omega); omega
  have e : (decN s k)[j]'(by simpa using h) = UInt8.ofNat (bt s j) := by simp [decN]
  rw [e, UInt8.toNat_ofNat', Nat.mod_eq_of_lt (by omega)]

theorem vn_enc (b : List UInt8) (j : Nat) (h : j < nl b.length) : vn (enc b) j = lt b j := by
  unfold vn; rw [List.getD, enc_get b j h]; exact nm_ltr _ (lt_64 b j)

/-- What is encoded is decoded. -/
theorem fine_enc (b : List UInt8) : fineB (enc b) := by
  have hl : (enc b).length = nl b.length := enc_len b
  refine ⟨bad_all _ fun j hj => ?_, ?_, ?_⟩
  · have := vn_at (enc b) j hj
    rw [← this, vn_enc b j (by omega)]
    exact lt_64 b j
  · rw [hl]; unfold nl; omega
  · rw [hl]
    obtain ⟨q, h | h | h⟩ := three b.length
    · have e : nl b.length = 4 * q := by unfold nl; omega
      unfold rst; rw [e, if_pos (by omega)]
    · have e : nl b.length = 4 * q + 2 := by unfold nl; omega
      unfold rst; rw [e, if_neg (by omega), if_neg (by omega), if_pos (by omega), show 4 * q + 2 - 1 = 4 * q + 1 by omega, vn_enc b _ (by omega), lt1, gb_end b (3 * q + 1) (by omega)]
      omega
    · have e : nl b.length = 4 * q + 3 := by unfold nl; omega
      unfold rst; rw [e, if_neg (by omega), if_neg (by omega), if_neg (by omega), show 4 * q + 3 - 1 = 4 * q + 2 by omega, vn_enc b _ (by omega), lt2, gb_end b (3 * q + 2) (by omega)]
      omega

theorem dec_enc (b : List UInt8) : decB (enc b) = b := by
  unfold decB; rw [if_pos (fine_enc b)]
  have hl : 6 * (enc b).length / 8 = b.length := by rw [enc_len]; unfold nl; omega
  rw [hl]
  refine List.ext_getElem (by simp) fun j h1 h2 => UInt8.toNat_inj.mp ?_
  have g := gb_dec (enc b) j b.length h2 (by omega) (fine_enc b).1
  rw [gb_at _ _ h1] at g
  rw [g, ← gb_at b j h2]
  have hn : nl b.length = (8 * b.length + 5) / 6 := rfl
  obtain ⟨q, rfl | rfl | rfl⟩ := three j
  · rw [bt0, vn_enc b _ (by omega), vn_enc b _ (by omega), lt0, lt1]
    have := gb_lt b (3 * q); have := gb_lt b (3 * q + 1); omega
  · rcases Nat.lt_or_ge (4 * q + 2) (nl b.length) with h | h
    · rw [bt1, vn_enc b _ (by omega), vn_enc b _ (by omega), lt1, lt2]
      have := gb_lt b (3 * q); have := gb_lt b (3 * q + 1); have := gb_lt b (3 * q + 2); omega
    · omega
  · rw [bt2, vn_enc b _ (by omega), vn_enc b _ (by omega), lt2, lt3]
    have := gb_lt b (3 * q + 1); have := gb_lt b (3 * q + 2); omega

/-- What is decoded is encoded. -/
theorem enc_dec (s : List UInt8) (h : fineB s) : enc (decB s) = s := by
  unfold decB; rw [if_pos h]
  obtain ⟨h1, h2, h3⟩ := h
  have hn : nl (6 * s.length / 8) = s.length := by
    unfold nl
    obtain ⟨q, h | h | h | h⟩ := four s.length <;> rw [h] at h2 ⊢
    · rw [show 6 * (4 * q) / 8 = 3 * q by omega]; omega
    · omega
    · rw [show 6 * (4 * q + 2) / 8 = 3 * q + 1 by omega]; omega
    · rw [show 6 * (4 * q + 3) / 8 = 3 * q + 2 by omega]; omega
  refine List.ext_getElem (by simp [hn]) fun j g1 g2 => ?_
  have e := enc_get (decN s (6 * s.length / 8)) j (by simpa [hn] using g2)
  rw [List.getElem?_eq_getElem g1] at e
  injection e with e
  rw [e]
  have hb := bad_fine s j (by omega) g2
  have key : lt (decN s (6 * s.length / 8)) j = nm s[j] := by
    rw [← vn_at s j g2]
    have G := fun i (hi : i < 6 * s.length / 8) => gb_dec s i _ hi (Nat.le_refl _) h1
    have Z := fun i (hi : 6 * s.length / 8 ≤ i) => gb_end (decN s (6 * s.length / 8)) i (by simpa using hi)
    have V := fun i (hi : i < s.length) => bad_vn s i (by omega)
    unfold rst at h3
    obtain ⟨q, rfl | rfl | rfl | rfl⟩ := four j
    · have h4 : 4 * q + 2 ≤ s.length := by omega
      rw [lt0, G _ (by omega), bt0]
      have := V (4 * q) (by omega)
      have := V (4 * q + 1) (by omega)
      omega
    · rw [lt1, G (3 * q) (by omega), bt0]
      have := V (4 * q) (by omega)
      have := V (4 * q + 1) (by omega)
      rcases Nat.lt_or_ge (4 * q + 2) s.length with hh | hh
      · rw [G _ (by omega), bt1]; have := V (4 * q + 2) (by omega); omega
      · rw [Z _ (by omega)]
        rw [show s.length = 4 * q + 2 by omega, if_neg (by omega), if_neg (by omega), if_pos (by omega), show 4 * q + 2 - 1 = 4 * q + 1 by omega] at h3
        omega
    · rw [lt2, G (3 * q + 1) (by omega), bt1]
      have := V (4 * q + 1) (by omega)
      have := V (4 * q + 2) (by omega)
      rcases Nat.lt_or_ge (4 * q + 3) s.length with hh | hh
      · rw [G _ (by omega), bt2]; have := V (4 * q + 3) (by omega); omega
      · rw [Z _ (by omega)]
        rw [show s.length = 4 * q + 3 by omega, if_neg (by omega), if_neg (by omega), if_neg (by omega), show 4 * q + 3 - 1 = 4 * q + 2 by omega] at h3
        omega
    · rw [lt3, G (3 * q + 2) (by omega), bt2]
      have := V (4 * q + 2) (by omega)
      have := V (4 * q + 3) (by omega)
      omega
  rw [key]
  exact ltr_nm _ hb

/-- Bytes behind others, of which there are as many as by 3. -/
theorem enc_app (a b : List UInt8) (p : Nat) (h : a.length = 3 * p) : enc (a ++ b) = enc a ++ enc b := by
  have ha : nl a.length = 4 * p := by unfold nl; omega
  have hl : nl (a ++ b).length = 4 * p + nl b.length := by unfold nl; rw [List.length_append]; omega
  have A : ∀ i, i < 3 * p → gb (a ++ b) i = gb a i := fun i hi => by
    unfold gb; rw [List.getD, List.getD, List.getElem?_append_left (by omega)]
  have B : ∀ i, gb (a ++ b) (3 * p + i) = gb b i := fun i => by
    unfold gb; rw [List.getD, List.getD, List.getElem?_append_right (by omega), h, Nat.add_sub_cancel_left]
  refine List.ext_getElem? fun j => ?_
  rcases Nat.lt_or_ge j (nl (a ++ b).length) with hj | hj
  · rw [enc_get _ _ hj]
    rcases Nat.lt_or_ge j (4 * p) with hp | hp
    · rw [List.getElem?_append_left (by simpa [ha] using hp), enc_get a j (by omega)]
      congr 2
      obtain ⟨q, rfl | rfl | rfl | rfl⟩ := four j
      · rw [lt0, lt0, A _ (by omega)]
      · rw [lt1, lt1, A _ (by omega), A _ (by omega)]
      · rw [lt2, lt2, A _ (by omega), A _ (by omega)]
      · rw [lt3, lt3, A _ (by omega)]
    · obtain ⟨i, rfl⟩ : ∃ i, j = 4 * p + i := ⟨j - 4 * p, by omega⟩
      rw [List.getElem?_append_right (by simp [ha]), enc_len, ha, Nat.add_sub_cancel_left, enc_get b i (by omega)]
      congr 2
      obtain ⟨q, rfl | rfl | rfl | rfl⟩ := four i
      · rw [show 4 * p + 4 * q = 4 * (p + q) by omega, lt0, lt0, ← B, show 3 * (p + q) = 3 * p + 3 * q by omega]
      · rw [show 4 * p + (4 * q + 1) = 4 * (p + q) + 1 by omega, lt1, lt1, ← B, ← B, show 3 * (p + q) = 3 * p + 3 * q by omega, show 3 * p + 3 * q + 1 = 3 * p + (3 * q + 1) by omega]
      · rw [show 4 * p + (4 * q + 2) = 4 * (p + q) + 2 by omega, lt2, lt2, ← B, ← B, show 3 * (p + q) = 3 * p + 3 * q by omega, show 3 * p + 3 * q + 1 = 3 * p + (3 * q + 1) by omega, show 3 * p + 3 * q + 2 = 3 * p + (3 * q + 2) by omega]
      · rw [show 4 * p + (4 * q + 3) = 4 * (p + q) + 3 by omega, lt3, lt3, ← B, show 3 * (p + q) = 3 * p + 3 * q by omega, show 3 * p + 3 * q + 2 = 3 * p + (3 * q + 2) by omega]
  · rw [List.getElem?_eq_none (by simpa using hj), List.getElem?_eq_none]
    rw [List.length_append, enc_len, enc_len, ha]; omega

theorem decE_iff (s : List UInt8) : decE s = 0 ↔ fineB s := by unfold decE; split <;> simp_all
end Go.Proofs.Ytckmjpnkjnihlaa
