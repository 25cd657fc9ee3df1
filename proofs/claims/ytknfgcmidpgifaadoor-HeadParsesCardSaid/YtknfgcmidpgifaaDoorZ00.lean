/-
  Heads, plainly: which may be, which bytes they have, which head bytes are, what a head tells.
-/
import Derived.Lib.Split
import Derived.Lib.SlTrimSet
import Derived.Lib.ParseIntB
import Derived.Lib.IndexLaws
import Derived.Test.YtknfgcmidpgifaaDoorRows
import Derived.RangeFuncLeaves
import Derived.RangeFuncRecord
import Derived.RangeFuncSeq
import Derived.Deep.Draws
import Derived.Below
import Derived.Lib.Hide
namespace Go.Proofs.YtknfgcmidpgifaaDoor
set_option linter.unusedVariables false
set_option linter.unusedSimpArgs false

/-! ### which bytes may stand where -/
/-- Is a number in one of these rows (each its first and its last one)? -/
def inR : List UInt8 → Nat → Bool
  | lo :: hi :: r, c => (decide (lo.toNat ≤ c) && decide (c ≤ hi.toNat)) || inR r c
  | _, _ => false
def wR : List UInt8 := [33, 33, 35, 39, 42, 43, 45, 46, 48, 57, 65, 90, 94, 122, 124, 124, 126, 126]
def tR : List UInt8 := [33, 126]
def vR : List UInt8 := [9, 9, 32, 126, 128, 255]
def dR : List UInt8 := [48, 57]
def onlyR (r s : List UInt8) : Bool := s.all fun c => inR r c.toNat
def wordL (s : List UInt8) (most : Nat) : Bool := decide (1 ≤ s.length) && (decide (s.length ≤ most) && onlyR wR s)
def tgtL (s : List UInt8) : Bool := (decide (1 ≤ s.length) && (decide (s.length ≤ 2048) && onlyR tR s)) && s.head? == some 47
/-- Without 9 and 32 at both ends. -/
def trimB (s : List UInt8) : List UInt8 := Lib.trimS s [9, 32]
def valL (s : List UInt8) : Bool := onlyR vR s && trimB s == s

/-! ### names -/
def low (c : UInt8) : UInt8 := if 65 ≤ c.toNat ∧ c.toNat ≤ 90 then c + 32 else c
def sameN (a b : List UInt8) : Bool := a.map low == b.map low
abbrev Fd := List UInt8 × List UInt8
/-- The values of all fields of a name. -/
def vals (fs : List Fd) (name : List UInt8) : List (List UInt8) := (fs.filter fun f => sameN f.1 name).map (·.2)
def nHost : List UInt8 := [104, 111, 115, 116]
def hostL (fs : List Fd) (v : Int) : Bool := (vals fs nHost).length == 1 || ((vals fs nHost).length == 0 && v == 0)

/-! ### a head, and its bytes -/
structure Hd where
  m : List UInt8
  t : List UInt8
  v : Int
  fs : List Fd
def z0 : Hd := ⟨[], [], 0, []⟩
def crlf : List UInt8 := [13, 10]
/-! ### lines, words -/
/-- The lines, the last empty one left out; 'cr': a byte 13 has come; 'l': the line so far. -/
def scan : Bool → List UInt8 → List UInt8 → Option (List (List UInt8))
  | _, _, [] => none
  | false, l, c :: r => if c = 13 then scan true l r else if c = 10 then none else scan false (l ++ [c]) r
  | true, l, c :: r => if c = 10 then (if l = [] then (if r = [] then some [] else none) else (scan false [] r).map (l :: ·)) else none
def linesB (b : List UInt8) : List (List UInt8) := (scan false [] b).getD []
def spl (c : UInt8) : List UInt8 → List (List UInt8)
  | [] => [[]]
  | x :: r => if x = c then [] :: spl c r else match spl c r with
    | [] => [[x]]
    | w :: ws => (x :: w) :: ws
/-- Ahead of the first colon, behind it. -/
def ahd (l : List UInt8) : List UInt8 := l.takeWhile (· != 58)
def bhd (l : List UInt8) : List UInt8 := (l.dropWhile (· != 58)).drop 1

/-! ### which head bytes are -/
def http : List UInt8 := [72, 84, 84, 80, 47]
def verN : List UInt8 → Int × Int
  | [a, b, c] => if onlyR dR [a] && (b == 46 && onlyR dR [c]) then (if [a, b, c] = [49, 46, 48] then (0, 200) else if [a, b, c] = [49, 46, 49] then (1, 200) else (0, 505)) else (0, 400)
  | _ => (0, 400)
def verL (w : List UInt8) : Int × Int := if w.take 5 = http then verN (w.drop 5) else (0, 400)
def fst3 (a b c : List UInt8) : Hd × Int :=
  if a = [] ∨ b = [] ∨ c = [] then (z0, 400) else if wordL a 16 = false then (z0, 400) else if (verL c).2 ≠ 200 then (z0, (verL c).2) else
  if 2048 < b.length then (z0, 414) else if tgtL b = false then (z0, 400) else (⟨a, b, (verL c).1, []⟩, 200)
def fstL (l : List UInt8) : Hd × Int := match spl 32 l with
  | [a, b, c] => fst3 a b c
  | _ => (z0, 400)
def badF (l : List UInt8) : Bool := !(l.contains 58) || (!(wordL (ahd l) 64) || !(valL (trimB (bhd l))))
def fldsA : List Fd → List (List UInt8) → List Fd × Int
  | acc, [] => (acc, 200)
  | acc, l :: r => if acc.length = 32 then ([], 431) else if badF l then ([], 400) else fldsA (acc ++ [(ahd l, trimB (bhd l))]) r
def par2 (h : Hd) (ls : List (List UInt8)) : Hd × Int :=
  if (fldsA [] ls).2 ≠ 200 then (z0, (fldsA [] ls).2) else if hostL (fldsA [] ls).1 h.v = false then (z0, 400) else ({ h with fs := (fldsA [] ls).1 }, 200)
def par1 : List (List UInt8) → Hd × Int
  | [] => (z0, 400)
  | l :: ls => if (fstL l).2 ≠ 200 then (z0, (fstL l).2) else par2 (fstL l).1 ls
def parH (b : List UInt8) : Hd × Int := if 4096 < b.length then (z0, 431) else par1 (linesB b)

/-! ### what a head tells -/
def fldH (fs : List Fd) (name : List UInt8) : List UInt8 × Int := ((vals fs name).headD [], ((vals fs name).length : Int))
/-! ### the chapter's examples -/
example : parH [71, 69, 84, 32, 47, 97, 32, 72, 84, 84, 80, 47, 49, 46, 49, 13, 10, 72, 111, 115, 116, 58, 32, 120, 13, 10, 13, 10] = (⟨[71, 69, 84], [47, 97], 1, [([72, 111, 115, 116], [120])]⟩, 200) := by rfl
example : (parH [71, 69, 84, 32, 47, 97, 32, 72, 84, 84, 80, 47, 50, 46, 48, 13, 10, 13, 10]).2 = 505 := by rfl
end Go.Proofs.YtknfgcmidpgifaaDoor

/-
  Places of bytes in lists; lists cut at them; blanks at both ends.
-/
namespace Go.Proofs.YtknfgcmidpgifaaDoor
open Go.Lib
set_option linter.unusedVariables false
set_option linter.unusedSimpArgs false

/-! ### one byte -/
theorem occ1 (l : List UInt8) (c : UInt8) (i : Nat) : occAt l [c] i = true ↔ l[i]? = some c := by
  unfold occAt
  rw [← List.head?_drop]
  cases h : l.drop i with
  | nil => simp
  | cons x r =>
    show (c == x && ([] : List UInt8).isPrefixOf r) = true ↔ some x = some c
    simp only [List.isPrefixOf, Bool.and_true, beq_iff_eq, Option.some.injEq]
    exact eq_comm
theorem tw_at (l : List UInt8) (c : UInt8) (h : c ∈ l) : l[(l.takeWhile (· != c)).length]? = some c ∧ (l.takeWhile (· != c)).length < l.length := by
  induction l with
  | nil => simp at h
  | cons x r ih =>
    by_cases e : x = c
    · subst e; simp [List.takeWhile_cons]
    · have := ih (by simpa [Ne.symm e] using h)
      have e' : (x != c) = true := by simpa using e
      rw [List.takeWhile_cons, if_pos e']
      simp only [List.length_cons, List.getElem?_cons_succ]
      exact ⟨this.1, by omega⟩
theorem tw_before (c : UInt8) : ∀ (l : List UInt8) (j : Nat), j < (l.takeWhile (· != c)).length → l[j]? ≠ some c
  | [], j, h => by simp at h
  | x :: r, j, h => by
    by_cases e : x = c
    · subst e; simp [List.takeWhile_cons] at h
    · have e' : (x != c) = true := by simpa using e
      rw [List.takeWhile_cons, if_pos e', List.length_cons] at h
      cases j with
      | zero => simpa using e
      | succ j => rw [List.getElem?_cons_succ]; exact tw_before c r j (by omega)
theorem index1 (l : List UInt8) (c : UInt8) : index l [c] = if c ∈ l then ((l.takeWhile (· != c)).length : Int) else -1 := by
  split
  · rename_i h
    have := tw_at l c h
    exact index_first (by omega) ((occ1 _ _ _).2 this.1) fun j hj => by
      rw [← Bool.not_eq_true, occ1]; exact tw_before c l j hj
  · rename_i h
    exact index_none fun j _ => by
      rw [← Bool.not_eq_true, occ1]
      intro he; exact h (List.mem_of_getElem? he)
theorem tw_take (l : List UInt8) (c : UInt8) : l.take (l.takeWhile (· != c)).length = l.takeWhile (· != c) := by
  have h := List.takeWhile_append_dropWhile (p := (· != c)) (l := l)
  have := List.take_left (l₁ := l.takeWhile (· != c)) (l₂ := l.dropWhile (· != c))
  rwa [h] at this
theorem tw_drop (l : List UInt8) (c : UInt8) : l.drop (l.takeWhile (· != c)).length = l.dropWhile (· != c) := by
  have h := List.takeWhile_append_dropWhile (p := (· != c)) (l := l)
  have := List.drop_left (l₁ := l.takeWhile (· != c)) (l₂ := l.dropWhile (· != c))
  rwa [h] at this
theorem tw_not (l : List UInt8) (c : UInt8) : c ∉ l.takeWhile (· != c) := by
  intro h
  obtain ⟨j, hj, e⟩ := List.getElem_of_mem h
  have h1 := tw_before c l j hj
  have h2 : (l.take (l.takeWhile (· != c)).length)[j]? = some c := by rw [tw_take, List.getElem?_eq_getElem hj, e]
  rw [List.getElem?_take, if_pos hj] at h2
  exact h1 h2
theorem tw_all (l : List UInt8) (c : UInt8) (h : c ∉ l) : l.takeWhile (· != c) = l ∧ l.dropWhile (· != c) = [] := by
  induction l with
  | nil => exact ⟨rfl, rfl⟩
  | cons x r ih =>
    have h' : x ≠ c ∧ c ∉ r := ⟨fun e => h (by simp [e]), fun e => h (by simp [e])⟩
    have e' : (x != c) = true := by simpa using h'.1
    rw [List.takeWhile_cons, if_pos e', List.dropWhile_cons, if_pos e', (ih h'.2).1, (ih h'.2).2]
    exact ⟨rfl, rfl⟩
/-- strings.Cut at a colon. -/
theorem cut_colon (l : List UInt8) : cut l [58] = (ahd l, bhd l, l.contains 58) := by
  unfold cut ahd bhd
  rw [index1]
  by_cases h : (58 : UInt8) ∈ l
  · rw [if_pos h, if_pos (by omega), Int.toNat_natCast, tw_take, ← List.drop_drop, tw_drop]
    simp [h]
  · rw [if_neg h, if_neg (by omega), (tw_all l 58 h).1, (tw_all l 58 h).2]
    simp [h]

/-! ### words -/
theorem spl_ne (c : UInt8) (l : List UInt8) : spl c l ≠ [] := by
  cases l with
  | nil => simp [spl]
  | cons x r => unfold spl; split <;> (try split) <;> simp
theorem spl_no (c : UInt8) : ∀ l : List UInt8, c ∉ l → spl c l = [l]
  | [], _ => rfl
  | x :: r, h => by
    have h' : x ≠ c ∧ c ∉ r := ⟨fun e => h (by simp [e]), fun e => h (by simp [e])⟩
    unfold spl
    rw [if_neg h'.1, spl_no c r h'.2]
theorem spl_app (c : UInt8) (r : List UInt8) : ∀ a : List UInt8, c ∉ a → spl c (a ++ c :: r) = a :: spl c r
  | [], _ => by rw [List.nil_append, spl, if_pos rfl]
  | x :: a, h => by
    have h' : x ≠ c ∧ c ∉ a := ⟨fun e => h (by simp [e]), fun e => h (by simp [e])⟩
    rw [List.cons_append, spl, if_neg h'.1, spl_app c r a h'.2]
theorem spl_cut (c : UInt8) (l : List UInt8) (h : c ∈ l) : spl c l = l.takeWhile (· != c) :: spl c (l.drop ((l.takeWhile (· != c)).length + 1)) := by
  have h1 := List.takeWhile_append_dropWhile (p := (· != c)) (l := l)
  have h2 := tw_at l c h
  have h3 : l.dropWhile (· != c) = c :: l.drop ((l.takeWhile (· != c)).length + 1) := by
    rw [← tw_drop, List.drop_eq_getElem_cons h2.2]
    congr 1
    have := h2.1
    rw [List.getElem?_eq_getElem h2.2] at this
    exact Option.some.inj this
  conv => lhs; rw [← h1, h3]
  rw [spl_app _ _ _ (tw_not l c)]
theorem spl_split (c : UInt8) : ∀ (k : Nat) (l : List UInt8), count l [c] = k → splitK [c] 0 k l = spl c l
  | 0, l, h => by
    by_cases hm : c ∈ l
    · have hi := index1 l c
      rw [if_pos hm] at hi
      have := count_hit (by simp) hi
      omega
    · rw [spl_no c l hm]; rfl
  | k + 1, l, h => by
    have hi := index1 l c
    by_cases hm : c ∈ l
    · rw [if_pos hm] at hi
      have hc := count_hit (by simp) hi
      rw [splitK, hi, if_neg (by simp), Int.toNat_natCast, Nat.add_zero, tw_take, spl_cut c l hm]
      congr 1
      exact spl_split c k _ (by simp only [List.length_cons, List.length_nil] at hc ⊢; omega)
    · rw [if_neg hm] at hi
      have := count_miss hi
      omega
theorem spl_len (c : UInt8) (l : List UInt8) : (spl c l).length = count l [c] + 1 := by
  rw [← spl_split c _ l rfl]
  have : ∀ (k : Nat) (l : List UInt8), count l [c] = k → (splitK [c] 0 k l).length = k + 1 := by
    intro k
    induction k with
    | zero => intro l _; rfl
    | succ k ih =>
      intro l h
      have hi := index1 l c
      by_cases hm : c ∈ l
      · rw [if_pos hm] at hi
        have hc := count_hit (by simp) hi
        rw [splitK, hi, if_neg (by simp), List.length_cons, Int.toNat_natCast]
        rw [ih _ (by simp only [List.length_cons, List.length_nil] at hc ⊢; omega)]
      · rw [if_neg hm] at hi
        have := count_miss hi
        omega
  exact this _ l rfl
/-- The words, when some of the bytes have been looked at. -/
def splA (c : UInt8) (out : List (List UInt8)) (w r : List UInt8) : List (List UInt8) := out ++ (w ++ (spl c r).headD []) :: (spl c r).tail
theorem splA_nil (c : UInt8) (out : List (List UInt8)) (w : List UInt8) : splA c out w [] = out ++ [w] := by simp [splA, spl]
theorem splA_sep (c : UInt8) (out : List (List UInt8)) (w r : List UInt8) : splA c out w (c :: r) = splA c (out ++ [w]) [] r := by
  unfold splA
  rw [spl, if_pos rfl]
  have := spl_ne c r
  cases h : spl c r with
  | nil => exact absurd h this
  | cons x y => simp
theorem splA_go (c x : UInt8) (out : List (List UInt8)) (w r : List UInt8) (h : x ≠ c) : splA c out w (x :: r) = splA c out (w ++ [x]) r := by
  unfold splA
  rw [spl, if_neg h]
  have := spl_ne c r
  cases h : spl c r with
  | nil => exact absurd h this
  | cons x y => simp
theorem splA_0 (c : UInt8) (l : List UInt8) : splA c [] [] l = spl c l := by
  unfold splA
  have := spl_ne c l
  cases h : spl c l with
  | nil => exact absurd h this
  | cons x y => simp

/-! ### blanks -/
section
variable (p : UInt8 → Bool)
def rdW (l : List UInt8) : List UInt8 := (l.reverse.dropWhile p).reverse
theorem rdW_snoc (l : List UInt8) (x : UInt8) : rdW p (l ++ [x]) = if p x then rdW p l else l ++ [x] := by
  unfold rdW
  rw [List.reverse_append]
  simp only [List.reverse_cons, List.reverse_nil, List.nil_append, List.singleton_append, List.dropWhile_cons]
  split
  · rfl
  · simp
theorem rdW_cons (x : UInt8) (r : List UInt8) : rdW p (x :: r) = if rdW p r = [] then (if p x then [] else [x]) else x :: rdW p r := by
  have h : ∀ r r' : List UInt8, r = r'.reverse → rdW p (x :: r) = if rdW p r = [] then (if p x then [] else [x]) else x :: rdW p r := by
    intro r r'
    induction r' generalizing r with
    | nil => rintro rfl; simp [rdW, List.dropWhile_cons]; split <;> simp
    | cons y t ih =>
      intro e
      have e' : r = t.reverse ++ [y] := by rw [e]; simp
      subst e'
      rw [← List.cons_append, rdW_snoc, rdW_snoc]
      by_cases hy : p y = true
      · rw [if_pos hy, if_pos hy]; exact ih _ rfl
      · rw [if_neg hy, if_neg hy, if_neg (by simp)]; rfl
  exact h r r.reverse (by simp)
theorem dW_rdW (l : List UInt8) : (rdW p l).dropWhile p = rdW p (l.dropWhile p) := by
  induction l with
  | nil => rfl
  | cons x r ih =>
    by_cases hx : p x = true
    · have e : (x :: r).dropWhile p = r.dropWhile p := by rw [List.dropWhile_cons, if_pos hx]
      rw [e, rdW_cons, ← ih, if_pos hx]
      by_cases h : rdW p r = []
      · rw [if_pos h, h]
      · rw [if_neg h, List.dropWhile_cons, if_pos hx]
    · have e : ∀ r, (x :: r).dropWhile p = x :: r := fun r => by rw [List.dropWhile_cons, if_neg hx]
      rw [e, rdW_cons]
      by_cases h : rdW p r = []
      · rw [if_pos h, if_neg hx, e]
      · rw [if_neg h, e]
end
def blk (c : UInt8) : Bool := [9, 32].contains c
theorem blk_iff (c : UInt8) : blk c = true ↔ c = 9 ∨ c = 32 := by simp [blk]
theorem trimB_eq (l : List UInt8) : trimB l = (rdW blk l).dropWhile blk := rfl
theorem trimB_eq' (l : List UInt8) : trimB l = rdW blk (l.dropWhile blk) := by rw [trimB_eq, dW_rdW]
theorem trimB_len (l : List UInt8) : (trimB l).length ≤ l.length := by
  rw [trimB_eq]
  have h1 : ((rdW blk l).dropWhile blk).length ≤ (rdW blk l).length := (List.dropWhile_sublist blk).length_le
  have h2 : (rdW blk l).length ≤ l.length := by
    unfold rdW
    rw [List.length_reverse]
    have := (List.dropWhile_sublist (l := l.reverse) blk).length_le
    simpa using this
  omega
end Go.Proofs.YtknfgcmidpgifaaDoor

/-
  Lines: as the landed text cuts them, as the document's text does.
-/
namespace Go.Proofs.YtknfgcmidpgifaaDoor
open Go.Lib
set_option linter.unusedVariables false
set_option linter.unusedSimpArgs false

theorem scan_go (l r : List UInt8) (c : UInt8) (h : c ≠ 13 ∧ c ≠ 10) : scan false l (c :: r) = scan false (l ++ [c]) r := by rw [scan, if_neg h.1, if_neg h.2]
theorem scan_end (l r : List UInt8) : scan false l (13 :: 10 :: r) = if l = [] then (if r = [] then some [] else none) else (scan false [] r).map (l :: ·) := by
  rw [scan, if_pos rfl, scan, if_pos rfl]
def clean (a : List UInt8) : Prop := ∀ x ∈ a, x ≠ 13 ∧ x ≠ 10
theorem scan_clean (r : List UInt8) : ∀ (a l : List UInt8), clean a → scan false l (a ++ r) = scan false (l ++ a) r
  | [], l, _ => by simp
  | x :: a, l, h => by
    rw [List.cons_append, scan_go _ _ _ (h x (by simp)), scan_clean r a _ fun y hy => h y (by simp [hy])]
    simp
theorem occ_succ (x : UInt8) (s sub : List UInt8) (j : Nat) : occAt (x :: s) sub (j + 1) = occAt s sub j := rfl
theorem scan_cr (l r : List UInt8) (h : r.head? ≠ some 10) : scan true l r = none := by
  cases r with
  | nil => rfl
  | cons c r => rw [scan, if_neg (by simpa using h)]
theorem occ_crlf (s : List UInt8) : occAt (13 :: s) crlf 0 = false → s.head? ≠ some 10 := by
  intro h e
  cases s with
  | nil => simp at e
  | cons c r =>
    have : c = 10 := by simpa using e
    subst this
    simp [occAt, crlf, List.isPrefixOf] at h
theorem scan_bad (r : List UInt8) : ∀ (a l : List UInt8), ¬ clean a → (∀ j, j < a.length → occAt (a ++ 13 :: 10 :: r) crlf j = false) → scan false l (a ++ 13 :: 10 :: r) = none
  | [], _, h, _ => absurd (fun x hx => by simp at hx) h
  | x :: a, l, h, ho => by
    rw [List.cons_append]
    by_cases h1 : x = 13
    · subst h1
      rw [scan, if_pos rfl]
      exact scan_cr _ _ (occ_crlf _ (ho 0 (by simp)))
    · by_cases h2 : x = 10
      · rw [scan, if_neg h1, if_pos h2]
      · rw [scan_go _ _ _ ⟨h1, h2⟩]
        refine scan_bad r a _ (fun hc => h fun y hy => ?_) fun j hj => ?_
        · rcases List.mem_cons.mp hy with rfl | hy
          · exact ⟨h1, h2⟩
          · exact hc y hy
        · have := ho (j + 1) (by simpa using hj)
          rwa [List.cons_append, occ_succ] at this
theorem scan_none : ∀ (b l : List UInt8), (∀ j, j ≤ b.length → occAt b crlf j = false) → scan false l b = none
  | [], _, _ => rfl
  | x :: b, l, h => by
    by_cases h1 : x = 13
    · subst h1
      rw [scan, if_pos rfl]
      exact scan_cr _ _ (occ_crlf _ (h 0 (by simp)))
    · by_cases h2 : x = 10
      · rw [scan, if_neg h1, if_pos h2]
      · rw [scan_go _ _ _ ⟨h1, h2⟩]
        exact scan_none b _ fun j hj => by
          have := h (j + 1) (by simpa using hj)
          rwa [occ_succ] at this

/-! ### line by line, by the first end of a line -/
def linA (acc : List (List UInt8)) (b : List UInt8) : List (List UInt8) := ((scan false [] b).map (acc ++ ·)).getD []
theorem linA_0 (b : List UInt8) : linA [] b = linesB b := by
  unfold linA linesB
  cases scan false [] b <;> simp
def brk (l : List UInt8) : Bool := l.any fun c => c == 13 || c == 10
theorem brk_iff (l : List UInt8) : brk l = false ↔ clean l := by
  unfold brk clean
  simp
theorem cut_at (b : List UInt8) (i : Nat) (h : index b crlf = i) : b = b.take i ++ 13 :: 10 :: b.drop (i + 2) ∧ i + 2 ≤ b.length ∧ ∀ j, j < i → occAt b crlf j = false := by
  rcases index_spec b crlf with ⟨h1, _⟩ | ⟨k, h1, h2, h3, h4⟩
  · omega
  · obtain rfl : i = k := by omega
    have hr := index_room b crlf (by omega)
    rw [h] at hr
    have hr : i + 2 ≤ b.length := by simp [crlf] at hr; omega
    refine ⟨?_, hr, h4⟩
    have e := (occAt_iff_take b crlf i (by simpa [crlf] using hr)).symm.trans h3
    have e : (b.drop i).take 2 = [13, 10] := by simpa [crlf] using e
    have h5 : b.drop i = 13 :: 10 :: b.drop (i + 2) := by
      have := List.take_append_drop 2 (b.drop i)
      rw [e, List.drop_drop] at this
      exact this.symm
    conv => lhs; rw [← List.take_append_drop i b, h5]
theorem linA_no {acc : List (List UInt8)} {b : List UInt8} (h : index b crlf = -1) : linA acc b = [] := by
  rcases index_spec b crlf with ⟨_, h1⟩ | ⟨k, h1, _⟩
  · unfold linA; rw [scan_none b [] h1]; rfl
  · omega
theorem linA_empty {acc : List (List UInt8)} {b : List UInt8} (h : index b crlf = (0 : Nat)) : linA acc b = if b.drop 2 = [] then acc else [] := by
  obtain ⟨e, _, _⟩ := cut_at b 0 h
  rw [List.take_zero, List.nil_append, Nat.zero_add] at e
  unfold linA
  rw [e, scan_end, if_pos rfl]
  simp only [List.drop_succ_cons, List.drop_zero]
  split <;> simp
theorem linA_bad {acc : List (List UInt8)} {b : List UInt8} {i : Nat} (h : index b crlf = i) (hb : brk (b.take i) = true) : linA acc b = [] := by
  obtain ⟨e, hl, ho⟩ := cut_at b i h
  unfold linA
  rw [e] at ho
  conv => lhs; rw [e]
  rw [scan_bad _ _ _ (fun hc => by rw [(brk_iff _).2 hc] at hb; cases hb) fun j hj => ho j (by rw [List.length_take] at hj; omega)]
  rfl
theorem linA_go {acc : List (List UInt8)} {b : List UInt8} {i : Nat} (h : index b crlf = i) (h0 : 0 < i) (hb : brk (b.take i) = false) : linA acc b = linA (acc ++ [b.take i]) (b.drop (i + 2)) := by
  obtain ⟨e, hl, ho⟩ := cut_at b i h
  have hne : b.take i ≠ [] := fun e => by have := congrArg List.length e; rw [List.length_take, List.length_nil] at this; omega
  unfold linA
  conv => lhs; rw [e]
  rw [scan_clean _ _ _ ((brk_iff _).1 hb), List.nil_append, scan_end, if_neg hne]
  cases scan false [] (b.drop (i + 2)) <;> simp

/-! ### byte by byte -/
def rawS : Bool → List (List UInt8) → List UInt8 → List UInt8 → Option (List (List UInt8))
  | true, _, _, [] => none
  | false, o, l, [] => if l = [] ∧ o ≠ [] then some o else none
  | false, o, l, c :: r => if c = 13 then rawS true o l r else if c = 10 then none else rawS false o (l ++ [c]) r
  | true, o, l, c :: r => if c = 10 then rawS false (o ++ [l]) [] r else none
def fineR : List (List UInt8) → Bool
  | [] => true
  | [x] => x == []
  | x :: y :: r => x != [] && fineR (y :: r)
theorem raw_go (o : List (List UInt8)) (l r : List UInt8) (c : UInt8) (h : c ≠ 13 ∧ c ≠ 10) : rawS false o l (c :: r) = rawS false o (l ++ [c]) r := by rw [rawS, if_neg h.1, if_neg h.2]
theorem raw_end (o : List (List UInt8)) (l r : List UInt8) : rawS false o l (13 :: 10 :: r) = rawS false (o ++ [l]) [] r := by rw [rawS, if_pos rfl, rawS, if_pos rfl]
theorem raw_lf (o : List (List UInt8)) (l r : List UInt8) : rawS false o l (10 :: r) = none := by rw [rawS, if_neg (by decide), if_pos rfl]
theorem raw_cr (o : List (List UInt8)) (l r : List UInt8) (h : r.head? ≠ some 10) : rawS false o l (13 :: r) = none := by
  rw [rawS, if_pos rfl]
  cases r with
  | nil => rfl
  | cons c r => rw [rawS, if_neg (by simpa using h)]
theorem fine_app : ∀ (o m : List (List UInt8)), (∀ x ∈ o, x ≠ []) → m ≠ [] → fineR (o ++ m) = fineR m
  | [], _, _, _ => rfl
  | x :: o, m, h, hm => by
    have ih := fine_app o m (fun y hy => h y (by simp [hy])) hm
    have hx : (x != []) = true := by simpa using h x (by simp)
    rw [List.cons_append]
    cases e : o ++ m with
    | nil => simp at e; exact absurd e.2 hm
    | cons y r => rw [e] at ih; rw [fineR, hx, Bool.true_and, ih]
theorem fine_not : ∀ (o : List (List UInt8)), (∀ x ∈ o, x ≠ []) → o ≠ [] → fineR o = false
  | [], _, h => absurd rfl h
  | [x], h, _ => by simpa [fineR] using h x (by simp)
  | x :: y :: r, h, _ => by rw [fineR, fine_not (y :: r) (fun z hz => h z (by simp [hz])) (by simp), Bool.and_false]
theorem raw_more : ∀ (b : List UInt8) (cr : Bool) (o : List (List UInt8)) (l : List UInt8) (z : List (List UInt8)), rawS cr o l b = some z → ∃ m, z = o ++ m ∧ (b ≠ [] → m ≠ [])
  | [], true, _, _, _, h => by cases h
  | [], false, o, l, z, h => by
    rw [rawS] at h
    split at h
    · exact ⟨[], by simpa using (Option.some.inj h).symm, fun h => absurd rfl h⟩
    · cases h
  | c :: r, false, o, l, z, h => by
    rw [rawS] at h
    split at h
    · obtain ⟨m, h1, h2⟩ := raw_more r _ _ _ _ h
      refine ⟨m, h1, fun _ => h2 fun e => ?_⟩
      subst e; cases h
    · split at h
      · cases h
      · obtain ⟨m, h1, h2⟩ := raw_more r _ _ _ _ h
        refine ⟨m, h1, fun _ => h2 fun e => ?_⟩
        subst e
        rw [rawS, if_neg (by simp)] at h
        cases h
  | c :: r, true, o, l, z, h => by
    rw [rawS] at h
    split at h
    · obtain ⟨m, h1, h2⟩ := raw_more r _ _ _ _ h
      exact ⟨l :: m, by rw [h1]; simp, fun _ => by simp⟩
    · cases h
theorem raw_scan : ∀ (b : List UInt8) (cr : Bool) (o : List (List UInt8)) (l : List UInt8), (∀ x ∈ o, x ≠ []) → (rawS cr o l b).filter fineR = (scan cr l b).map fun ls => o ++ ls ++ [[]]
  | [], true, _, _, _ => rfl
  | [], false, o, l, h => by
    rw [rawS]
    split
    · rename_i h1
      simp [fine_not o h h1.2, scan]
    · rfl
  | c :: r, false, o, l, h => by
    rw [rawS, scan]
    split
    · exact raw_scan r _ _ _ h
    · split
      · rfl
      · exact raw_scan r _ _ _ h
  | c :: r, true, o, l, h => by
    rw [rawS, scan]
    split
    · by_cases hl : l = []
      · subst hl
        rw [if_pos rfl]
        by_cases hr : r = []
        · subst hr
          rw [if_pos rfl, rawS, if_pos ⟨rfl, by simp⟩]
          have e := fine_app o [[]] h (by simp)
          rw [Option.filter_some, e]
          simp [fineR]
        · rw [if_neg hr]
          cases e : rawS false (o ++ [[]]) [] r with
          | none => rfl
          | some z =>
            obtain ⟨m, h1, h2⟩ := raw_more r _ _ _ _ e
            have hm := h2 hr
            have e2 : fineR z = false := by
              rw [h1, List.append_assoc, fine_app _ _ h (by simp)]
              cases m with
              | nil => exact absurd rfl hm
              | cons y t => simp [fineR]
            simp [e2]
      · rw [if_neg hl, raw_scan r _ _ _ (fun x hx => by
          rcases List.mem_append.mp hx with hx | hx
          · exact h x hx
          · simp at hx; subst hx; exact hl)]
        cases scan false [] r <;> simp
    · rfl
/-- The document's lines. -/
def docL (b : List UInt8) : Option (List (List UInt8)) := (rawS false [] [] b).filter fineR
theorem docL_eq (b : List UInt8) : docL b = (scan false [] b).map (· ++ [[]]) := by
  unfold docL
  rw [raw_scan b _ _ _ (fun x hx => by simp at hx)]
  simp
theorem docL_cases (b : List UInt8) : (docL b = none ∧ linesB b = []) ∨ (docL b = some [[]] ∧ linesB b = []) ∨ ∃ l ls, docL b = some (l :: ls ++ [[]]) ∧ linesB b = l :: ls := by
  rw [docL_eq]
  unfold linesB
  cases scan false [] b with
  | none => exact .inl ⟨rfl, rfl⟩
  | some x => cases x with
    | nil => exact .inr (.inl ⟨rfl, rfl⟩)
    | cons l ls => exact .inr (.inr ⟨l, ls, rfl, rfl⟩)
end Go.Proofs.YtknfgcmidpgifaaDoor

/-
  A range over a function, over an iterator that yields texts: what the iterator keeps and what it turns, a caller's invariant, a body; panics of the iterator pass through.
-/
namespace Go.Proofs.YtknfgcmidpgifaaDoor
open Go.RowKit
set_option linter.unusedVariables false
set_option maxRecDepth 100000

/-- But for the blocks G the world is as it was. -/
structure Aside (G : Nat → Prop) (w w' : World) : Prop where
  os : w'.os = w.os
  tape : w'.tape = w.tape
  output : w'.output = w.output
  size : w.heap.size ≤ w'.heap.size
  block : ∀ k, k < w.heap.size → ¬ G k → w'.heap[k]? = w.heap[k]?

section
variable {G G' : Nat → Prop} {w w1 w2 : World} {B : Nat}
theorem Aside.refl (G : Nat → Prop) (w : World) : Aside G w w := ⟨rfl, rfl, rfl, Nat.le_refl _, fun _ _ _ => rfl⟩
theorem Aside.trans (h : Aside G w w1) (k : Aside G w1 w2) : Aside G w w2 :=
  ⟨k.os.trans h.os, k.tape.trans h.tape, k.output.trans h.output, Nat.le_trans h.size k.size, fun i hi hg => (k.block i (Nat.lt_of_lt_of_le hi h.size) hg).trans (h.block i hi hg)⟩
theorem Aside.mono (h : Aside G w w1) (hG : ∀ k, k < w.heap.size → G k → G' k) : Aside G' w w1 := ⟨h.os, h.tape, h.output, h.size, fun k hk hg => h.block k hk (fun e => hg (hG k hk e))⟩
theorem Aside.of_below (h : Below B w w1) (hB : ∀ k, k < w.heap.size → ¬ G k → k < B) : Aside G w w1 := ⟨h.os, h.tape, h.output, h.size, fun k hk hg => h.block k (hB k hk hg)⟩
theorem Aside.of_all (h : Below w.heap.size w w1) : Aside G w w1 := Aside.of_below h fun _ hk _ => hk
theorem Aside.below (h : Aside G w w1) (hB : ∀ k, k < B → k < w.heap.size ∧ ¬ G k) : Below B w w1 := ⟨h.os, h.tape, h.output, h.size, fun k hk => h.block k (hB k hk).1 (hB k hk).2⟩
theorem Aside.cell (h : Aside G w w1) {p : Addr} (hp : p.block < w.heap.size) (hg : ¬ G p.block) : w1.cell? p = w.cell? p := World.cell?_of_block (w := w) (h.block p.block hp hg)
theorem Aside.frozen (h : Aside G w w1) {p : Addr} (hp : p.block < w.heap.size) (hg : ¬ G p.block) : w1.frozen? p = w.frozen? p := World.frozen?_of_block (w := w) (h.block p.block hp hg)
theorem Aside.cell_lt (h : Aside G w w1) {p : Addr} {v : Value} (hv : w.cell? p = some v) (hg : ¬ G p.block) : w1.cell? p = some v := (h.cell (World.block_lt_of_cell? w p hv) hg).trans hv
theorem Aside.alloc (w : World) (o : Obj) : Aside G w (w.alloc o) := ⟨rfl, rfl, rfl, by simp, fun k hk _ => Below.heap_alloc _ _ _ hk⟩
theorem Aside.putObj (w : World) {r : Nat} (o : Obj) (hr : G r) : Aside G w (w.putObj r o) := ⟨rfl, rfl, rfl, by simp, fun k _ hg => World.putObj_heap_other (fun e => hg (e ▸ hr))⟩
theorem Aside.setCell (w : World) {p : Addr} (v : Value) (hr : G p.block) : Aside G w (w.setCell p v) := ⟨rfl, rfl, rfl, by simp [World.setCell], fun k _ hg => Below.heap_setCell _ _ _ _ (fun e => hg (e ▸ hr))⟩
theorem Aside.drewN (w : World) (n : Nat) : Aside G w (w.drewN n) := ⟨rfl, rfl, rfl, Nat.le_refl _, fun _ _ _ => rfl⟩
theorem Aside.grown {row : Option Nat} (hg : w.grownBy w1 row) (hr : ∀ k, row = some k → G k) : Aside G w w1 :=
  ⟨hg.os, hg.tape, hg.output, hg.size, fun k hk hn => hg.block k hk (fun e => hn (hr k e.symm))⟩
theorem Aside.of_drew (h : Aside G w.drew w1) : Aside G w w1 := ⟨h.os, h.tape, h.output, h.size, h.block⟩
theorem below_aside (h : Below B w w1) (k : Aside G w1 w2) (hB : ∀ k, k < B → k < w1.heap.size ∧ ¬ G k) : Below B w w2 := h.trans (k.below hB)
end

/-- How an iterator ends: all have come; a round said 'no more'; it panics behind all of them. -/
def SeqEnd (m : Nat) (fin : Option (List PanicEntry)) (J Jx : Nat → World → Prop) (e : Ending) (B : World) : Prop :=
  (fin = none ∧ (∃ v, e = .returned v) ∧ J m B) ∨ ((∃ v, e = .returned v) ∧ ∃ k, k ≤ m ∧ Jx k B) ∨ (∃ ch, fin = some ch ∧ e = .panicked ch ∧ J m B)

/-- What an iterator over texts does, whatever loop calls it: it yields xs, one behind the other, if it is not stopped; then it returns, or panics with fin. It leans on the blocks K, turns blocks of G alone, and asks St of the world in which it begins. -/
def SeqT (P : Program) (gf : Nat) (lb : Array Value) (K G : Nat → Prop) (xs : List ByteArray) (fin : Option (List PanicEntry)) (St : World → Prop) : Prop :=
  ∀ (l : Nat) (J Jx : Nat → World → Prop) (W : World),
    (∀ k A B, J k A → Aside G A B → J k B) →
    (∀ k A x, xs[k]? = some x → J k A → YieldAt Fence.wide 0 P l #[.string x] A fun e B =>
      (e = .returned (.bool true) ∧ J (k + 1) B ∧ A.heap.size ≤ B.heap.size ∧ ∀ b, K b → B.heap[b]? = A.heap[b]?) ∨ (e = .returned (.bool false) ∧ Jx (k + 1) B)) →
    St W → J 0 W →
    CallsIn Fence.wide 0 P gf (#[.func (.yield l) #[] #[]] ++ lb) W (SeqEnd xs.length fin J Jx)

/-- How a round's body may be left. -/
def roundT (M : Nat → Prop) (k : Nat) (I : Nat → World → Prop) (Ix : Code → Nat → World → Prop) (W : World) : Exit → Act → World → Prop
  | .normal, _, W' => Aside M W W' ∧ I (k + 1) W'
  | .ret, _, W' => Aside M W W' ∧ Ix .ret (k + 1) W'
  | .exit id, _, W' => Aside M W W' ∧ Ix (.exit id) (k + 1) W'
  | .goto t, _, W' => Aside M W W' ∧ Ix (.goto t) (k + 1) W'
  | .panic _, _, _ => False
  | .outgrown, _, _ => False

theorem wp_rangeFunc_T {P : Program} {gf : Nat} {lb : Array Value} {K G M : Nat → Prop} {xs : List ByteArray} {fin : Option (List PanicEntry)} {St : World → Prop}
    {g : Operand} {ps : Array Tmp} {assign body : Code} {Q : Exit → Act → World → Prop} {a : Act} {w : World} {D : Nat} (hD : w.heap.size = D)
    (hg : a.eval g = .func (.func gf) #[] lb) (eg : ∀ args w, (callFunc gf args).run P w = .ok (.enter gf args) w)
    (hseq : SeqT P gf lb K G xs fin St) (hSt : St w) (hStK : ∀ A B, St A → (∀ b, K b → B.heap[b]? = A.heap[b]?) → A.heap.size ≤ B.heap.size → St B)
    (hK : ∀ b, K b → b < D) (hM : ∀ b, M b → ¬ K b ∧ b ≠ D ∧ b ≠ D + 1) (hGK : ∀ b, G b → K b) (hps : ps.size = 1)
    (I : Nat → World → Prop) (Ix : Code → Nat → World → Prop)
    (hI : ∀ k A B, I k A → Aside (fun b => G b ∨ b = D ∨ b = D + 1) A B → I k B)
    (hIx : ∀ c k A B, Ix c k A → Aside (fun b => G b ∨ b = D ∨ b = D + 1) A B → Ix c k B)
    (h0 : I 0 w) (a₁ : ByteArray → Act)
    (hassign : ∀ (l : Nat) (x : ByteArray) (W : World) (K : Act → World → Prop), K (a₁ x) W →
      assign.wpIn (Fence.wide.inRound l) 0 P (Exit.then K (fun _ _ _ => False)) { tmps := (ps.zip #[.string x]).foldl (fun t (p, v) => t.setIfInBounds p v) a.tmps, defers := [] } W)
    (hbody : ∀ (l k : Nat) (x : ByteArray) (W : World), xs[k]? = some x → D + 2 ≤ W.heap.size → I k W → body.wpIn (Fence.wide.inRound l) 0 P (roundT M k I Ix W) (a₁ x) W)
    (hdone : fin = none → ∀ W, I xs.length W → D + 2 ≤ W.heap.size → W.heap[D]? = some (.deferred (some [])) → Q .normal { a with defers := { target := .collected D, args := #[] } :: a.defers } W)
    (hstop : ∀ c k W, k ≤ xs.length → Ix c k W → W.heap[D]? = some (.deferred (some [])) → c.wp P Q { a with defers := { target := .collected D, args := #[] } :: a.defers } W)
    (hpanic : ∀ ch, fin = some ch → ∀ W, I xs.length W → W.heap[D]? = some (.deferred (some [])) → Q (.panic ch) { a with defers := { target := .collected D, args := #[] } :: a.defers } W) :
    (Code.rangeFunc g ps assign body).wp P Q a w := by
  subst hD
  refine (wpIn_wide (n := 0)).1 (wpIn_rangeFunc ?_)
  intro fn hfn
  obtain ⟨rec, hrec⟩ : ∃ rec : LoopState → Option Code → Loop, rec = fun st pe => { state := st, pending := pe, fn, tmps := a.tmps, params := ps, assign, body, defers := w.heap.size } := ⟨_, rfl⟩
  obtain ⟨W1, hW1⟩ : ∃ W1, (w.alloc (.deferred (some []))).alloc (.loop (rec .ready none)) = W1 := ⟨_, rfl⟩
  have hs1 : W1.heap.size = w.heap.size + 2 := by rw [← hW1]; simp
  have hL1 : W1.heap[w.heap.size + 1]? = some (.loop (rec .ready none)) := by
    rw [← hW1]; have := World.alloc_heap_new (w.alloc (.deferred (some []))) (.loop (rec .ready none)); rwa [World.size_alloc] at this
  have hK1 : W1.heap[w.heap.size]? = some (.deferred (some [])) := by
    rw [← hW1]; exact (Below.heap_alloc _ _ _ (by simp)).trans (World.alloc_heap_new w _)
  have hA1 : ∀ G, Aside G w W1 := fun G => by rw [← hW1]; exact (Aside.alloc _ _).trans (Aside.alloc _ _)
  refine ⟨w.heap.size + 1, [{ target := .collected w.heap.size, args := #[] }], W1, { target := .fn (.func gf) lb, args := #[.func (.yield (w.heap.size + 1)) #[] #[]] }, W1, gf,
    #[.func (.yield (w.heap.size + 1)) #[] #[]] ++ lb, W1, ?_, ?_, ?_, ?_, (fun h => by simp [Fence.wide] at h), ?_⟩
  · rw [← hW1, hrec]; exact run_enterLoop_outer _ _ _ _ _
  · simp only [resolve, hg]
    simp [go_sem]
  · intro f' _; trivial
  · simp [invoke, go_sem, eg]
  · have hStep : ∀ (I : World → Prop), (∀ A B, I A → Aside (fun b => G b ∨ b = w.heap.size ∨ b = w.heap.size + 1) A B → I B) → ∀ A (o : Obj), I A → I (A.putObj (w.heap.size + 1) o) :=
      fun I h A o ha => h _ _ ha (Aside.putObj _ _ (.inr (.inr rfl)))
    have hSt1 : St W1 := hStK _ _ hSt (fun b hb => (hA1 (fun _ => False)).block b (hK b hb) (fun h => h)) (hA1 (fun _ => False)).size
    refine (hseq (w.heap.size + 1)
      (fun k W => I k W ∧ w.heap.size + 2 ≤ W.heap.size ∧ W.heap[w.heap.size + 1]? = some (.loop (rec .ready none)) ∧ W.heap[w.heap.size]? = some (.deferred (some [])))
      (fun k W => ∃ c, Ix c k W ∧ W.heap[w.heap.size + 1]? = some (.loop (rec .done (some c))) ∧ W.heap[w.heap.size]? = some (.deferred (some [])))
      W1
      (fun k A B hs hab => by
        obtain ⟨h1, h2, h3, h4⟩ := hs
        have hlo : ∀ b, G b → b < w.heap.size := fun b hb => hK b (hGK b hb)
        exact ⟨hI k A B h1 (hab.mono fun b _ hb => .inl hb), Nat.le_trans h2 hab.size, (hab.block _ (by omega) (fun e => by have := hlo _ e; omega)).trans h3, (hab.block _ (by omega) (fun e => by have := hlo _ e; omega)).trans h4⟩)
      ?_ hSt1 ⟨hI _ _ _ h0 (hA1 _), by omega, hL1, hK1⟩).mono ?_
    · -- one round
      rintro k W x hx ⟨hi, hsz, hl, hk⟩
      have hlt : w.heap.size + 1 < W.heap.size := by omega
      have hy := run_yield (P := P) (args := #[.string x]) hl (by rw [hrec]; simp [hps])
      rw [hrec] at hy
      refine ⟨fn, _, assign, body, hy, roundIn_of_wpIn hfn (hassign _ x W _ ⟨_, run_beginRound hl (by rw [hrec]), ?_⟩)⟩
      obtain ⟨W2, hW2⟩ : ∃ W2, W.putObj (w.heap.size + 1) (.loop { rec .ready none with state := .busy }) = W2 := ⟨_, rfl⟩
      have hs2 : W2.heap.size = W.heap.size := by rw [← hW2]; simp
      have hl2 : W2.heap[w.heap.size + 1]? = some (.loop { rec .ready none with state := .busy }) := by rw [← hW2]; exact World.putObj_heap_same hlt
      have hk2 : W2.heap[w.heap.size]? = some (.deferred (some [])) := by rw [← hW2]; exact (World.putObj_heap_other (by omega)).trans hk
      have hi2 : I k W2 := by rw [← hW2]; exact hStep _ (hI k) _ _ hi
      have hK2 : ∀ b, K b → W2.heap[b]? = W.heap[b]? := fun b hb => by rw [← hW2]; exact World.putObj_heap_other (by have := hK b hb; omega)
      rw [show W.putObj (w.heap.size + 1) (.loop { rec .ready none with state := .busy }) = W2 from hW2]
      refine wpIn_mono (hbody _ k x W2 hx (by omega) hi2) ?_
      have fin : ∀ (jump : Option Code) (W3 : World), Aside M W2 W3 →
          (Instr.endRound (w.heap.size + 1) jump).run P W3 = .ok (.bool jump.isNone) (W3.putObj (w.heap.size + 1) (.loop (rec (if jump.isNone then .ready else .done) jump))) ∧
          W2.heap.size ≤ W3.heap.size ∧
          (W3.putObj (w.heap.size + 1) (.loop (rec (if jump.isNone then .ready else .done) jump))).heap[w.heap.size + 1]? = some (.loop (rec (if jump.isNone then .ready else .done) jump)) ∧
          (W3.putObj (w.heap.size + 1) (.loop (rec (if jump.isNone then .ready else .done) jump))).heap[w.heap.size]? = some (.deferred (some [])) ∧
          ∀ b, K b → (W3.putObj (w.heap.size + 1) (.loop (rec (if jump.isNone then .ready else .done) jump))).heap[b]? = W.heap[b]? := fun jump W3 h3 => by
        have hm : ∀ b, b = w.heap.size + 1 ∨ b = w.heap.size ∨ K b → ¬ M b := fun b hb hm => by
          have := hM b hm
          rcases hb with e | e | e
          · exact this.2.2 e
          · exact this.2.1 e
          · exact this.1 e
        have hl3 := (h3.block _ (by omega) (hm _ (.inl rfl))).trans hl2
        have hk3 := (h3.block _ (by omega) (hm _ (.inr (.inl rfl)))).trans hk2
        have := run_endRound (P := P) jump hl3
        rw [hrec] at this ⊢
        refine ⟨this, h3.size, World.putObj_heap_same (Array.getElem?_eq_some_iff.1 hl3).1, (World.putObj_heap_other (by omega)).trans hk3, fun b hb => ?_⟩
        have hb1 := hK b hb
        exact (World.putObj_heap_other (by omega)).trans ((h3.block b (by omega) (hm _ (.inr (.inr hb)))).trans (hK2 b hb))
      rintro e a3 W3 hp
      cases e with
      | normal =>
        obtain ⟨ha3, hi3⟩ := hp
        obtain ⟨hr, hs3, hl4, hk4, hK4⟩ := fin none W3 ha3
        exact ⟨_, _, hr, .inl ⟨rfl, ⟨hStep _ (hI _) _ _ hi3, by simp; omega, hl4, hk4⟩, by simp; omega, hK4⟩⟩
      | ret =>
        obtain ⟨ha3, hi3⟩ := hp
        obtain ⟨hr, hs3, hl4, hk4, hK4⟩ := fin (some .ret) W3 ha3
        exact ⟨_, _, hr, .inr ⟨rfl, .ret, hStep _ (hIx _ _) _ _ hi3, hl4, hk4⟩⟩
      | exit id =>
        obtain ⟨ha3, hi3⟩ := hp
        obtain ⟨hr, hs3, hl4, hk4, hK4⟩ := fin (some (.exit id)) W3 ha3
        exact ⟨_, _, hr, .inr ⟨rfl, .exit id, hStep _ (hIx _ _) _ _ hi3, hl4, hk4⟩⟩
      | goto t =>
        obtain ⟨ha3, hi3⟩ := hp
        obtain ⟨hr, hs3, hl4, hk4, hK4⟩ := fin (some (.goto t)) W3 ha3
        exact ⟨_, _, hr, .inr ⟨rfl, .goto t, hStep _ (hIx _ _) _ _ hi3, hl4, hk4⟩⟩
      | panic ch => exact hp.elim
      | outgrown => exact hp.elim
    · -- behind the iterator
      rintro e W2 (⟨hf, ⟨v, rfl⟩, hi, hsz, hl, hk⟩ | ⟨⟨v, rfl⟩, k, hk0, c, hi, hl, hk⟩ | ⟨ch, hf, rfl, hi, hsz, hl, hk⟩)
      · refine ⟨none, _, ?_, hdone hf _ (hStep _ (hI _) _ (.loop { rec .ready none with state := .exhausted }) hi) (by simp; omega) ((World.putObj_heap_other (by omega)).trans hk)⟩
        have := run_endLoop (P := P) hl (by rw [hrec]; simp)
        rw [hrec] at this ⊢; exact this
      · refine ⟨some c, _, ?_, (wpIn_wide (n := 0)).2 (hstop c k _ hk0 (hStep _ (hIx c k) _ (.loop { rec .done (some c) with state := .exhausted }) hi) ((World.putObj_heap_other (by omega)).trans hk))⟩
        have := run_endLoop (P := P) hl (by rw [hrec]; simp)
        rw [hrec] at this ⊢; exact this
      · exact hpanic ch hf _ hi hk

/-- A function's contract from its body, where the body holds a range over a function. -/
theorem calls_of_wp_marks {P : Program} {f : FuncId} {fn : Func} {c : Code} {args : Array Value} {w : World} {R : Ending → World → Prop}
    (hf : P.funcs[f]? = some fn) (hb : fn.body = some c)
    (h : c.wp P (bodyPostM Fence.wide 0 P fn R) { tmps := args ++ Array.replicate (fn.ntmps - args.size) undef, defers := [] } w) : Calls P f args w R :=
  (callsIn_wide (n := 0)).1 (callsIn_of_wp_marks hf hb trivial ((wpIn_wide (n := 0)).2 h))
/-- Steps that turn blocks of G or such that were not there. -/
theorem Aside.onto {G M : Nat → Prop} {w W W' : World} (h : Aside G w W) (k : Aside M W W') (hM : ∀ b, b < w.heap.size → ¬ G b → ¬ M b) : Aside G w W' :=
  ⟨k.os.trans h.os, k.tape.trans h.tape, k.output.trans h.output, Nat.le_trans h.size k.size, fun b hb hg => (k.block b (Nat.lt_of_lt_of_le hb h.size) (hM b hb hg)).trans (h.block b hb hg)⟩

theorem Aside.shut {G : Nat → Prop} {w W : World} {D : Nat} {o : Obj} (h : Aside G w W) (hD : w.heap.size ≤ D) : Aside G w (W.putObj D o) :=
  h.onto (M := fun b => b = D) (Aside.putObj _ _ rfl) fun b hb _ => by omega

/-- Behind the loop: its block of deferred calls is shut; what is told is read off. -/
theorem marks_ret {P : Program} {fn : Func} {R : Ending → World → Prop} {tmps : Array Value} {W : World} {D : Nat} {args : Array Value} (hK : W.heap[D]? = some (.deferred (some []))) (v : Value)
    (hv : (results fn tmps).run P (W.putObj D (.deferred none)) = .ok v (W.putObj D (.deferred none))) (h : R (.returned v) (W.putObj D (.deferred none))) :
    bodyPostM Fence.wide 0 P fn R .ret { tmps := tmps, defers := [{ target := .collected D, args := args }] } W := by
  refine ⟨by simp, .inl ⟨_, _, rfl, run_takeDeferred hK, ?_⟩⟩
  exact ⟨v, hv, h⟩

theorem below_putObj {w W : World} {D B : Nat} {o : Obj} (h : Below B w W) (hD : B ≤ D) : Below B w (W.putObj D o) :=
  h.trans ⟨rfl, rfl, rfl, by simp, fun k hk => World.putObj_heap_other (by omega)⟩
end Go.Proofs.YtknfgcmidpgifaaDoor
