/-
  Heads, plainly: which may be, which bytes they have, which head bytes are, what a head tells.
-/
import Derived.Test.YtkoohdacneflfaaGreatDoorRows
import Derived.Lib.Split
import Derived.Lib.SlTrimSet
import Derived.Lib.ParseIntB
import Derived.Lib.IndexLaws
namespace Go.Proofs.YtkoohdacneflfaaGreatDoor
set_option linter.unusedVariables false
set_option linter.unusedSimpArgs false

/-! ### which bytes may stand where -/
/-- Is a number in one of these rows (each its first and its last one)? -/
def inR : List UInt8 → Nat → Bool
  | lo :: hi :: r, c => (decide (lo.toNat ≤ c) && decide (c ≤ hi.toNat)) || inR r c
  | _, _ => false
def wR : List UInt8 := [33, 33, 35, 39, 42, 43, 45, 46, 48, 57, 65, 90, 94, 122, 124, 124, 126, 126]
def tR : List UInt8 := [33, 126]
def vR : List UInt8 := [9, 9, 32, 126, 128, 255]
def dR : List UInt8 := [48, 57]
def onlyR (r s : List UInt8) : Bool := s.all fun c => inR r c.toNat
def wordL (s : List UInt8) (most : Nat) : Bool := decide (1 ≤ s.length) && (decide (s.length ≤ most) && onlyR wR s)
def tgtL (s : List UInt8) : Bool := (decide (1 ≤ s.length) && (decide (s.length ≤ 2048) && onlyR tR s)) && s.head? == some 47
/-- Without 9 and 32 at both ends. -/
def trimB (s : List UInt8) : List UInt8 := Lib.trimS s [9, 32]
def valL (s : List UInt8) : Bool := onlyR vR s && trimB s == s

/-! ### names -/
def low (c : UInt8) : UInt8 := if 65 ≤ c.toNat ∧ c.toNat ≤ 90 then c + 32 else c
def sameN (a b : List UInt8) : Bool := a.map low == b.map low
abbrev Fd := List UInt8 × List UInt8
/-- The values of all fields of a name. -/
def vals (fs : List Fd) (name : List UInt8) : List (List UInt8) := (fs.filter fun f => sameN f.1 name).map (·.2)
def nHost : List UInt8 := [104, 111, 115, 116]
def nLen : List UInt8 := [99, 111, 110, 116, 101, 110, 116, 45, 108, 101, 110, 103, 116, 104]
def nTra : List UInt8 := [116, 114, 97, 110, 115, 102, 101, 114, 45, 101, 110, 99, 111, 100, 105, 110, 103]
def nCon : List UInt8 := [99, 111, 110, 110, 101, 99, 116, 105, 111, 110]
def nClo : List UInt8 := [99, 108, 111, 115, 101]
def nAli : List UInt8 := [107, 101, 101, 112, 45, 97, 108, 105, 118, 101]
def hostL (fs : List Fd) (v : Int) : Bool := (vals fs nHost).length == 1 || ((vals fs nHost).length == 0 && v == 0)

/-! ### a head, and its bytes -/
structure Hd where
  m : List UInt8
  t : List UInt8
  v : Int
  fs : List Fd
def z0 : Hd := ⟨[], [], 0, []⟩
def htp : List UInt8 := [32, 72, 84, 84, 80, 47, 49, 46]
def dgt (v : Int) : List UInt8 := if v = 1 then [49] else [48]
def crlf : List UInt8 := [13, 10]
/-- What a field's bytes are put together of; a head's. -/
def pcF (f : Fd) : List (List UInt8) := [f.1, [58, 32], f.2, crlf]
def pcs (h : Hd) : List (List UInt8) := [h.m, [32], h.t, htp, dgt h.v, crlf] ++ h.fs.flatMap pcF ++ [crlf]
def wrH (h : Hd) : List UInt8 := (pcs h).flatten
def mayH (h : Hd) : Bool :=
  wordL h.m 16 && (tgtL h.t && ((h.v == 0 || h.v == 1) && (decide (h.fs.length ≤ 32) && (h.fs.all (fun f => wordL f.1 64 && valL f.2) && (hostL h.fs h.v && decide ((wrH h).length ≤ 4096))))))

/-! ### lines, words -/
/-- The lines, the last empty one left out; 'cr': a byte 13 has come; 'l': the line so far. -/
def scan : Bool → List UInt8 → List UInt8 → Option (List (List UInt8))
  | _, _, [] => none
  | false, l, c :: r => if c = 13 then scan true l r else if c = 10 then none else scan false (l ++ [c]) r
  | true, l, c :: r => if c = 10 then (if l = [] then (if r = [] then some [] else none) else (scan false [] r).map (l :: ·)) else none
def linesB (b : List UInt8) : List (List UInt8) := (scan false [] b).getD []
def spl (c : UInt8) : List UInt8 → List (List UInt8)
  | [] => [[]]
  | x :: r => if x = c then [] :: spl c r else match spl c r with
    | [] => [[x]]
    | w :: ws => (x :: w) :: ws
/-- Ahead of the first colon, behind it. -/
def ahd (l : List UInt8) : List UInt8 := l.takeWhile (· != 58)
def bhd (l : List UInt8) : List UInt8 := (l.dropWhile (· != 58)).drop 1

/-! ### which head bytes are -/
def http : List UInt8 := [72, 84, 84, 80, 47]
def verN : List UInt8 → Int × Int
  | [a, b, c] => if onlyR dR [a] && (b == 46 && onlyR dR [c]) then (if [a, b, c] = [49, 46, 48] then (0, 200) else if [a, b, c] = [49, 46, 49] then (1, 200) else (0, 505)) else (0, 400)
  | _ => (0, 400)
def verL (w : List UInt8) : Int × Int := if w.take 5 = http then verN (w.drop 5) else (0, 400)
def fst3 (a b c : List UInt8) : Hd × Int :=
  if a = [] ∨ b = [] ∨ c = [] then (z0, 400) else if wordL a 16 = false then (z0, 400) else if (verL c).2 ≠ 200 then (z0, (verL c).2) else
  if 2048 < b.length then (z0, 414) else if tgtL b = false then (z0, 400) else (⟨a, b, (verL c).1, []⟩, 200)
def fstL (l : List UInt8) : Hd × Int := match spl 32 l with
  | [a, b, c] => fst3 a b c
  | _ => (z0, 400)
def badF (l : List UInt8) : Bool := !(l.contains 58) || (!(wordL (ahd l) 64) || !(valL (trimB (bhd l))))
def fldsA : List Fd → List (List UInt8) → List Fd × Int
  | acc, [] => (acc, 200)
  | acc, l :: r => if acc.length = 32 then ([], 431) else if badF l then ([], 400) else fldsA (acc ++ [(ahd l, trimB (bhd l))]) r
def par2 (h : Hd) (ls : List (List UInt8)) : Hd × Int :=
  if (fldsA [] ls).2 ≠ 200 then (z0, (fldsA [] ls).2) else if hostL (fldsA [] ls).1 h.v = false then (z0, 400) else ({ h with fs := (fldsA [] ls).1 }, 200)
def par1 : List (List UInt8) → Hd × Int
  | [] => (z0, 400)
  | l :: ls => if (fstL l).2 ≠ 200 then (z0, (fstL l).2) else par2 (fstL l).1 ls
def parH (b : List UInt8) : Hd × Int := if 4096 < b.length then (z0, 431) else par1 (linesB b)

/-! ### what a head tells -/
def fldH (fs : List Fd) (name : List UInt8) : List UInt8 × Int := ((vals fs name).headD [], ((vals fs name).length : Int))
def num (s : List UInt8) : Nat := s.foldl (fun n c => 10 * n + (c.toNat - 48)) 0
def badN (f v : List UInt8) : Bool := v == [] || (decide (10 < v.length) || (!(onlyR dR v) || v != f))
def lenV : List (List UInt8) → Int × Int
  | [] => (-1, 200)
  | f :: r => if (f :: r).any (badN f) then (0, 400) else if 65535 < num f then (0, 413) else ((num f : Nat), 200)
def lenH (fs : List Fd) : Int × Int := if vals fs nTra = [] then lenV (vals fs nLen) else (0, 501)
def keepA : Bool → List (List UInt8) → Bool
  | k, [] => k
  | k, w :: r => if sameN (trimB w) nClo then false else keepA (k || sameN (trimB w) nAli) r
def keepH (v : Int) (fs : List Fd) : Bool := keepA (v == 1) ((vals fs nCon).flatMap (spl 44))

/-! ### the chapter's examples -/
example : parH [71, 69, 84, 32, 47, 97, 32, 72, 84, 84, 80, 47, 49, 46, 49, 13, 10, 72, 111, 115, 116, 58, 32, 120, 13, 10, 13, 10] = (⟨[71, 69, 84], [47, 97], 1, [([72, 111, 115, 116], [120])]⟩, 200) := by rfl
example : (parH [71, 69, 84, 32, 47, 97, 32, 72, 84, 84, 80, 47, 50, 46, 48, 13, 10, 13, 10]).2 = 505 := by rfl
end Go.Proofs.YtkoohdacneflfaaGreatDoor

/-
  Requests, plainly: where a head ends, what one request is, what a stream is read as, piece by piece.
-/
namespace Go.Proofs.YtkoohdacneflfaaGreatDoor
set_option linter.unusedVariables false
set_option linter.unusedSimpArgs false

/-! ### where a head ends -/
def endF : Nat → List UInt8 → Option Nat
  | i, a :: b :: c :: d :: r => if a = 13 ∧ b = 10 ∧ c = 13 ∧ d = 10 then some (i + 4) else endF (i + 1) (b :: c :: d :: r)
  | _, _ => none
/-- Behind the first two lines' ends in a row, within so many bytes as a head may have. -/
def endL (b : List UInt8) : Option Nat := endF 0 (b.take 4096)
theorem endF_app (t : List UInt8) : ∀ (a : List UInt8) (i k : Nat), endF i a = some k → endF i (a ++ t) = some k
  | [], i, k, h => by simp [endF] at h
  | [_], i, k, h => by simp [endF] at h
  | [_, _], i, k, h => by simp [endF] at h
  | [_, _, _], i, k, h => by simp [endF] at h
  | a :: b :: c :: d :: r, i, k, h => by
    rw [endF] at h
    show endF i (a :: b :: c :: d :: (r ++ t)) = some k
    rw [endF]
    split at h
    · rename_i h1; rw [if_pos h1]; exact h
    · rename_i h1; rw [if_neg h1]; exact endF_app t (b :: c :: d :: r) (i + 1) k h
theorem endF_bound : ∀ (a : List UInt8) (i k : Nat), endF i a = some k → i + 4 ≤ k ∧ k ≤ i + a.length
  | [], i, k, h => by simp [endF] at h
  | [_], i, k, h => by simp [endF] at h
  | [_, _], i, k, h => by simp [endF] at h
  | [_, _, _], i, k, h => by simp [endF] at h
  | a :: b :: c :: d :: r, i, k, h => by
    rw [endF] at h
    split at h
    · injection h with h; simp only [List.length_cons]; omega
    · have := endF_bound (b :: c :: d :: r) (i + 1) k h
      simp only [List.length_cons] at this ⊢
      omega
theorem endL_bound {b : List UInt8} {k : Nat} (h : endL b = some k) : 4 ≤ k ∧ k ≤ b.length ∧ k ≤ 4096 := by
  have := endF_bound _ _ _ h
  rw [List.length_take] at this
  omega
theorem endL_app {a : List UInt8} {k : Nat} (h : endL a = some k) (t : List UInt8) : endL (a ++ t) = some k := by
  unfold endL
  rw [List.take_append]
  exact endF_app _ _ _ _ h
theorem endL_long {a : List UInt8} (h : endL a = none) (hl : 4096 < a.length) (t : List UInt8) : endL (a ++ t) = none := by
  unfold endL at h ⊢
  rw [List.take_append_of_le_length (by omega)]
  exact h

def cc4 : List UInt8 := [13, 10, 13, 10]
theorem endF_short {l : List UInt8} (h : l.length < 4) (i : Nat) : endF i l = none := by
  match l, h with
  | [], _ => rfl
  | [_], _ => rfl
  | [_, _], _ => rfl
  | [_, _, _], _ => rfl
/-- One step, as the document's text looks. -/
theorem endF_step {l : List UInt8} (h : 4 ≤ l.length) (i : Nat) : endF i l = if l.take 4 = cc4 then some (i + 4) else endF (i + 1) (l.drop 1) := by
  match l, h with
  | a :: b :: c :: d :: r, _ =>
    rw [endF]
    by_cases h1 : a = 13 ∧ b = 10 ∧ c = 13 ∧ d = 10
    · rw [if_pos h1, if_pos (by obtain ⟨rfl, rfl, rfl, rfl⟩ := h1; rfl)]
    · rw [if_neg h1, if_neg (fun hh => h1 (by simpa [cc4] using hh))]
      rfl
/-- By places: the first one at which the four bytes stand. -/
theorem endF_first : ∀ (k : Nat) (l : List UInt8) (i : Nat), (l.drop k).take 4 = cc4 → (∀ j, j < k → (l.drop j).take 4 ≠ cc4) → endF i l = some (i + k + 4)
  | 0, l, i, h, _ => by
    have hl : 4 ≤ l.length := by have := congrArg List.length h; rw [List.length_take, List.drop_zero] at this; simp [cc4] at this; omega
    rw [endF_step hl, if_pos (by simpa using h)]
  | k + 1, l, i, h, hn => by
    have hl : 4 ≤ l.length := by have := congrArg List.length h; rw [List.length_take, List.length_drop] at this; simp [cc4] at this; omega
    rw [endF_step hl, if_neg (by simpa using hn 0 (by omega)), endF_first k (l.drop 1) (i + 1) (by rw [List.drop_drop, Nat.add_comm]; exact h) (fun j hj => by rw [List.drop_drop, Nat.add_comm]; exact hn (j + 1) (by omega))]
    exact congrArg some (by omega)
theorem endF_none : ∀ (l : List UInt8) (i : Nat), (∀ j, (l.drop j).take 4 ≠ cc4) → endF i l = none
  | [], i, _ => rfl
  | c :: l, i, h => by
    by_cases hl : 4 ≤ (c :: l).length
    · rw [endF_step hl, if_neg (by simpa using h 0)]
      exact endF_none l (i + 1) (fun j => h (j + 1))
    · exact endF_short (by omega) i
/-- What the whole's first place says of the first 4,096 bytes. -/
theorem endL_whole (b : List UInt8) : endL b = (endF 0 b).filter (fun k => decide (k ≤ 4096)) := by
  cases h : endL b with
  | some k =>
    have hb := endL_bound h
    have e : b = b.take 4096 ++ b.drop 4096 := (List.take_append_drop 4096 b).symm
    have := endF_app (b.drop 4096) (b.take 4096) 0 k h
    rw [← e] at this
    rw [this, Option.filter_some, if_pos (by simp; omega)]
  | none =>
    symm
    rw [Option.filter_eq_none_iff]
    intro k hk hk2
    have hk2 : k ≤ 4096 := by simpa using hk2
    have hb := endF_bound _ _ _ hk
    -- the four bytes lie within the first 4,096
    have hc : ∀ (l : List UInt8) (i n : Nat), endF i l = some n → ∀ m, n ≤ i + m → endF i (l.take m) = some n := by
      intro l
      induction l with
      | nil => intro i n h; simp [endF] at h
      | cons c l ih =>
        intro i n h m hm
        have hbn := endF_bound _ _ _ h
        have hl : 4 ≤ (c :: l).length := by
          by_cases h4 : 4 ≤ (c :: l).length
          · exact h4
          · rw [endF_short (by omega)] at h; cases h
        obtain ⟨m, rfl⟩ : ∃ m', m = m' + 1 := ⟨m - 1, by omega⟩
        have hlm : 4 ≤ ((c :: l).take (m + 1)).length := by rw [List.length_take]; omega
        rw [endF_step hl] at h
        rw [endF_step hlm, List.take_take, Nat.min_eq_left (by omega)]
        split at h
        · rename_i h1; rw [if_pos h1]; exact h
        · rename_i h1; rw [if_neg h1]; exact ih (i + 1) n h m (by omega)
    have := hc b 0 k hk 4096 (by omega)
    unfold endL at h
    rw [h] at this
    cases this

/-! ### one request -/
structure Ih where
  st : Int
  h : Hd
  b : List UInt8
  k : Bool
def sta (n : Int) : Ih := ⟨n, z0, [], false⟩
def nExp : List UInt8 := [101, 120, 112, 101, 99, 116]
def mPost : List UInt8 := [80, 79, 83, 84]
/-- What a head asks for: a status, how long the body is, the head. -/
def askH (hb : List UInt8) : Int × Nat × Hd :=
  if (parH hb).2 ≠ 200 then ((parH hb).2, 0, z0) else if vals (parH hb).1.fs nExp ≠ [] then (417, 0, z0) else if (lenH (parH hb).1.fs).2 ≠ 200 then ((lenH (parH hb).1.fs).2, 0, z0) else
  if (lenH (parH hb).1.fs).1 < 0 ∧ (parH hb).1.m = mPost then (411, 0, z0) else (200, (lenH (parH hb).1.fs).1.toNat, (parH hb).1)
/-- The request that stands ahead, and how many bytes it has; or none, if it is not whole. -/
def oneH (b : List UInt8) : Option (Ih × Nat) :=
  match endL b with
  | none => if 4096 < b.length then some (sta 431, 0) else none
  | some k =>
    if (askH (b.take k)).1 ≠ 200 then some (sta (askH (b.take k)).1, 0) else if b.length < k + (askH (b.take k)).2.1 then none else
    some (⟨200, (askH (b.take k)).2.2, (b.drop k).take (askH (b.take k)).2.1, keepH (askH (b.take k)).2.2.v (askH (b.take k)).2.2.fs⟩, k + (askH (b.take k)).2.1)
def lastH (x : Ih) : Bool := x.st != 200 || !x.k
theorem one_app {a : List UInt8} {y : Ih × Nat} (h : oneH a = some y) (t : List UInt8) : oneH (a ++ t) = some y := by
  unfold oneH at h ⊢
  cases he : endL a with
  | none =>
    rw [he] at h
    simp only at h
    split at h
    · rename_i hl
      rw [endL_long he hl t]
      simp only
      rw [if_pos (by rw [List.length_append]; omega)]
      exact h
    · cases h
  | some k =>
    rw [he] at h
    rw [endL_app he t]
    simp only at h ⊢
    have hk := endL_bound he
    rw [List.take_append_of_le_length hk.2.1]
    split at h
    · rename_i h1; rw [if_pos h1]; exact h
    · rename_i h1
      rw [if_neg h1]
      split at h
      · cases h
      · rename_i h2
        rw [if_neg (by rw [List.length_append]; omega)]
        rw [List.drop_append_of_le_length hk.2.1, List.take_append_of_le_length (by rw [List.length_drop]; omega)]
        exact h
theorem one_some {b : List UInt8} {x : Ih} {n : Nat} (h : oneH b = some (x, n)) : n ≤ b.length ∧ (x.st = 200 → 4 ≤ n) := by
  unfold oneH at h
  split at h
  · split at h
    · injection h with h; injection h with h1 h2; subst h1; subst h2
      exact ⟨by omega, fun h => by simp [sta] at h⟩
    · cases h
  · rename_i k he
    have hk := endL_bound he
    split at h
    · rename_i h1
      injection h with h; injection h with h3 h2; subst h3; subst h2
      exact ⟨by omega, fun h => absurd h h1⟩
    · split at h
      · cases h
      · injection h with h; injection h with h3 h2; subst h3; subst h2
        exact ⟨by omega, fun _ => by omega⟩
theorem last_no {x : Ih} (h : lastH x = false) : x.st = 200 ∧ x.k = true := by
  unfold lastH at h
  rw [Bool.or_eq_false_iff] at h
  exact ⟨by simpa using h.1, by simpa using h.2⟩

/-! ### a stream -/
/-- The requests that are whole, what is left behind them, and whether the reader is over; n: at most so many. -/
def runN : Nat → List UInt8 → List Ih × List UInt8 × Bool
  | 0, b => ([], b, false)
  | n + 1, b => match oneH b with
    | none => ([], b, false)
    | some (x, k) => if lastH x then ([x], [], true) else (x :: (runN n (b.drop k)).1, (runN n (b.drop k)).2)
def runH (b : List UInt8) : List Ih × List UInt8 × Bool := runN (b.length + 1) b
theorem runN_more : ∀ (n m : Nat) (b : List UInt8), b.length < n → n ≤ m → runN m b = runN n b
  | 0, _, _, h, _ => by omega
  | n + 1, 0, _, _, h => by omega
  | n + 1, m + 1, b, h1, h2 => by
    rw [runN, runN]
    cases ho : oneH b with
    | none => rfl
    | some y =>
      obtain ⟨x, k⟩ := y
      have hk := one_some ho
      simp only
      cases hl : lastH x with
      | true => rfl
      | false =>
        have := hk.2 (last_no hl).1
        have e := runN_more n m (b.drop k) (by rw [List.length_drop]; omega) (by omega)
        rw [e]
theorem run_eq {n : Nat} {b : List UInt8} (h : b.length < n) : runN n b = runH b := runN_more _ _ _ (Nat.lt_succ_self _) h
theorem run_none {b : List UInt8} (h : oneH b = none) : runH b = ([], b, false) := by rw [runH, runN, h]
theorem run_last {b : List UInt8} {x : Ih} {k : Nat} (h : oneH b = some (x, k)) (hl : lastH x = true) : runH b = ([x], [], true) := by
  rw [runH, runN, h]; simp only; rw [if_pos hl]
theorem run_go {b : List UInt8} {x : Ih} {k : Nat} (h : oneH b = some (x, k)) (hl : lastH x = false) : runH b = (x :: (runH (b.drop k)).1, (runH (b.drop k)).2) := by
  have hk := one_some h
  have := hk.2 (last_no hl).1
  rw [runH, runN, h]
  simp only
  rw [if_neg (by rw [hl]; simp), run_eq (by rw [List.length_drop]; omega)]
theorem run_ind {C : List UInt8 → Prop} (h : ∀ b, (∀ x k, oneH b = some (x, k) → lastH x = false → C (b.drop k)) → C b) (b : List UInt8) : C b := by
  obtain ⟨n, hn⟩ : ∃ n, b.length = n := ⟨_, rfl⟩
  induction n using Nat.strongRecOn generalizing b with
  | _ n ih =>
    refine h b fun x k ho hl => ?_
    have hk := one_some ho
    have := hk.2 (last_no hl).1
    exact ih (b.drop k).length (by rw [List.length_drop]; omega) _ rfl
/-- What is left stays as it is: it is not whole, and is empty if the reader is over. -/
theorem run_rest (b : List UInt8) : ((runH b).2.2 = true → (runH b).2.1 = []) ∧ ((runH b).2.2 = false → oneH (runH b).2.1 = none ∧ ∀ x ∈ (runH b).1, lastH x = false) := by
  refine run_ind (C := fun b => ((runH b).2.2 = true → (runH b).2.1 = []) ∧ ((runH b).2.2 = false → oneH (runH b).2.1 = none ∧ ∀ x ∈ (runH b).1, lastH x = false)) (fun b ih => ?_) b
  cases ho : oneH b with
  | none => rw [run_none ho]; exact ⟨fun h => by simp at h, fun _ => ⟨ho, by simp⟩⟩
  | some y =>
    obtain ⟨x, k⟩ := y
    cases hl : lastH x with
    | true => rw [run_last ho hl]; exact ⟨fun _ => rfl, fun h => by simp at h⟩
    | false =>
      rw [run_go ho hl]
      have h := ih x k ho hl
      refine ⟨h.1, fun hf => ⟨(h.2 hf).1, fun z hz => ?_⟩⟩
      rcases List.mem_cons.mp hz with rfl | hz
      · exact hl
      · exact (h.2 hf).2 z hz
/-- However a stream is cut in two. -/
theorem run_app (b t : List UInt8) : runH (b ++ t) = if (runH b).2.2 then runH b else ((runH b).1 ++ (runH ((runH b).2.1 ++ t)).1, (runH ((runH b).2.1 ++ t)).2) := by
  refine run_ind (C := fun b => runH (b ++ t) = if (runH b).2.2 then runH b else ((runH b).1 ++ (runH ((runH b).2.1 ++ t)).1, (runH ((runH b).2.1 ++ t)).2)) (fun b ih => ?_) b
  cases ho : oneH b with
  | none => rw [run_none ho]; rfl
  | some y =>
    obtain ⟨x, k⟩ := y
    have hk := one_some ho
    cases hl : lastH x with
    | true => rw [run_last ho hl, run_last (one_app ho t) hl]; rfl
    | false =>
      rw [run_go ho hl, run_go (one_app ho t) hl, List.drop_append_of_le_length hk.1, ih x k ho hl]
      simp only
      cases h : (runH (b.drop k)).2.2 with
      | true => rw [if_pos rfl, if_pos rfl]
      | false => rw [if_neg (by simp), if_neg (by simp)]; rfl

/-! ### pieces -/
/-- What a reader that keeps s tells of pieces, till it is over; what it keeps then, and whether it is over. -/
def runP : List UInt8 → List (List UInt8) → List Ih × List UInt8 × Bool
  | s, [] => ([], s, false)
  | s, p :: ps => if (runH (s ++ p)).2.2 then runH (s ++ p) else ((runH (s ++ p)).1 ++ (runP (runH (s ++ p)).2.1 ps).1, (runP (runH (s ++ p)).2.1 ps).2)
theorem runP_flat : ∀ (ps : List (List UInt8)) (s : List UInt8), oneH s = none → runP s ps = runH (s ++ ps.flatten)
  | [], s, h => by rw [runP, List.flatten_nil, List.append_nil, run_none h]
  | p :: ps, s, h => by
    rw [runP, List.flatten_cons, ← List.append_assoc, run_app (s ++ p) ps.flatten]
    cases ho : (runH (s ++ p)).2.2 with
    | true => rfl
    | false =>
      have hr := (run_rest (s ++ p)).2 ho
      rw [if_neg (by simp), if_neg (by simp), runP_flat ps _ hr.1]
theorem one_nil : oneH [] = none := by rfl
theorem pieces_same {l m : List (List UInt8)} (h : l.flatten = m.flatten) : runP [] l = runP [] m := by rw [runP_flat l [] one_nil, runP_flat m [] one_nil, h]

/-! ### how much is kept -/
theorem lenV_most (l : List (List UInt8)) (h : (lenV l).2 = 200) : (lenV l).1 ≤ 65535 := by
  cases l with
  | nil => simp [lenV]
  | cons f r =>
    rw [lenV] at h ⊢
    split at h
    · simp at h
    · rename_i h1
      rw [if_neg h1]
      split at h
      · simp at h
      · rename_i h2
        rw [if_neg h2]
        simp only
        omega
theorem ask_most (hb : List UInt8) : (askH hb).2.1 ≤ 65535 := by
  unfold askH
  split
  · simp
  · split
    · simp
    · split
      · simp
      · rename_i h
        split
        · simp
        · simp only
          have h : (lenH (parH hb).1.fs).2 = 200 := by simpa using h
          unfold lenH at h ⊢
          split at h
          · rename_i ht
            rw [if_pos ht]
            have := lenV_most _ h
            omega
          · simp at h
theorem kept_most {b : List UInt8} (h : oneH b = none) : b.length ≤ 4096 + 65535 := by
  unfold oneH at h
  split at h
  · split at h
    · cases h
    · omega
  · rename_i k he
    have hk := endL_bound he
    split at h
    · cases h
    · split at h
      · rename_i h2
        have := ask_most (b.take k)
        omega
      · cases h
theorem run_most (b : List UInt8) : (runH b).2.1.length ≤ 4096 + 65535 := by
  have h := run_rest b
  cases ho : (runH b).2.2 with
  | true => rw [h.1 ho]; simp
  | false => exact kept_most (h.2 ho).1
end Go.Proofs.YtkoohdacneflfaaGreatDoor

/-
  Places of bytes in lists; lists cut at them; blanks at both ends.
-/
namespace Go.Proofs.YtkoohdacneflfaaGreatDoor
open Go.Lib
set_option linter.unusedVariables false
set_option linter.unusedSimpArgs false

/-! ### one byte -/
theorem occ1 (l : List UInt8) (c : UInt8) (i : Nat) : occAt l [c] i = true ↔ l[i]? = some c := by
  unfold occAt
  rw [← List.head?_drop]
  cases h : l.drop i with
  | nil => simp
  | cons x r =>
    show (c == x && ([] : List UInt8).isPrefixOf r) = true ↔ some x = some c
    simp only [List.isPrefixOf, Bool.and_true, beq_iff_eq, Option.some.injEq]
    exact eq_comm
theorem tw_at (l : List UInt8) (c : UInt8) (h : c ∈ l) : l[(l.takeWhile (· != c)).length]? = some c ∧ (l.takeWhile (· != c)).length < l.length := by
  induction l with
  | nil => simp at h
  | cons x r ih =>
    by_cases e : x = c
    · subst e; simp [List.takeWhile_cons]
    · have := ih (by simpa [Ne.symm e] using h)
      have e' : (x != c) = true := by simpa using e
      rw [List.takeWhile_cons, if_pos e']
      simp only [List.length_cons, List.getElem?_cons_succ]
      exact ⟨this.1, by omega⟩
theorem tw_before (c : UInt8) : ∀ (l : List UInt8) (j : Nat), j < (l.takeWhile (· != c)).length → l[j]? ≠ some c
  | [], j, h => by simp at h
  | x :: r, j, h => by
    by_cases e : x = c
    · subst e; simp [List.takeWhile_cons] at h
    · have e' : (x != c) = true := by simpa using e
      rw [List.takeWhile_cons, if_pos e', List.length_cons] at h
      cases j with
      | zero => simpa using e
      | succ j => rw [List.getElem?_cons_succ]; exact tw_before c r j (by omega)
theorem index1 (l : List UInt8) (c : UInt8) : index l [c] = if c ∈ l then ((l.takeWhile (· != c)).length : Int) else -1 := by
  split
  · rename_i h
    have := tw_at l c h
    exact index_first (by omega) ((occ1 _ _ _).2 this.1) fun j hj => by
      rw [← Bool.not_eq_true, occ1]; exact tw_before c l j hj
  · rename_i h
    exact index_none fun j _ => by
      rw [← Bool.not_eq_true, occ1]
      intro he; exact h (List.mem_of_getElem? he)
theorem tw_take (l : List UInt8) (c : UInt8) : l.take (l.takeWhile (· != c)).length = l.takeWhile (· != c) := by
  have h := List.takeWhile_append_dropWhile (p := (· != c)) (l := l)
  have := List.take_left (l₁ := l.takeWhile (· != c)) (l₂ := l.dropWhile (· != c))
  rwa [h] at this
theorem tw_drop (l : List UInt8) (c : UInt8) : l.drop (l.takeWhile (· != c)).length = l.dropWhile (· != c) := by
  have h := List.takeWhile_append_dropWhile (p := (· != c)) (l := l)
  have := List.drop_left (l₁ := l.takeWhile (· != c)) (l₂ := l.dropWhile (· != c))
  rwa [h] at this
theorem tw_not (l : List UInt8) (c : UInt8) : c ∉ l.takeWhile (· != c) := by
  intro h
  obtain ⟨j, hj, e⟩ := List.getElem_of_mem h
  have h1 := tw_before c l j hj
  have h2 : (l.take (l.takeWhile (· != c)).length)[j]? = some c := by rw [tw_take, List.getElem?_eq_getElem hj, e]
  rw [List.getElem?_take, if_pos hj] at h2
  exact h1 h2
theorem tw_all (l : List UInt8) (c : UInt8) (h : c ∉ l) : l.takeWhile (· != c) = l ∧ l.dropWhile (· != c) = [] := by
  induction l with
  | nil => exact ⟨rfl, rfl⟩
  | cons x r ih =>
    have h' : x ≠ c ∧ c ∉ r := ⟨fun e => h (by simp [e]), fun e => h (by simp [e])⟩
    have e' : (x != c) = true := by simpa using h'.1
    rw [List.takeWhile_cons, if_pos e', List.dropWhile_cons, if_pos e', (ih h'.2).1, (ih h'.2).2]
    exact ⟨rfl, rfl⟩
/-- strings.Cut at a colon. -/
theorem cut_colon (l : List UInt8) : cut l [58] = (ahd l, bhd l, l.contains 58) := by
  unfold cut ahd bhd
  rw [index1]
  by_cases h : (58 : UInt8) ∈ l
  · rw [if_pos h, if_pos (by omega), Int.toNat_natCast, tw_take, ← List.drop_drop, tw_drop]
    simp [h]
  · rw [if_neg h, if_neg (by omega), (tw_all l 58 h).1, (tw_all l 58 h).2]
    simp [h]

/-! ### words -/
theorem spl_ne (c : UInt8) (l : List UInt8) : spl c l ≠ [] := by
  cases l with
  | nil => simp [spl]
  | cons x r => unfold spl; split <;> (try split) <;> simp
theorem spl_no (c : UInt8) : ∀ l : List UInt8, c ∉ l → spl c l = [l]
  | [], _ => rfl
  | x :: r, h => by
    have h' : x ≠ c ∧ c ∉ r := ⟨fun e => h (by simp [e]), fun e => h (by simp [e])⟩
    unfold spl
    rw [if_neg h'.1, spl_no c r h'.2]
theorem spl_app (c : UInt8) (r : List UInt8) : ∀ a : List UInt8, c ∉ a → spl c (a ++ c :: r) = a :: spl c r
  | [], _ => by rw [List.nil_append, spl, if_pos rfl]
  | x :: a, h => by
    have h' : x ≠ c ∧ c ∉ a := ⟨fun e => h (by simp [e]), fun e => h (by simp [e])⟩
    rw [List.cons_append, spl, if_neg h'.1, spl_app c r a h'.2]
theorem spl_cut (c : UInt8) (l : List UInt8) (h : c ∈ l) : spl c l = l.takeWhile (· != c) :: spl c (l.drop ((l.takeWhile (· != c)).length + 1)) := by
  have h1 := List.takeWhile_append_dropWhile (p := (· != c)) (l := l)
  have h2 := tw_at l c h
  have h3 : l.dropWhile (· != c) = c :: l.drop ((l.takeWhile (· != c)).length + 1) := by
    rw [← tw_drop, List.drop_eq_getElem_cons h2.2]
    congr 1
    have := h2.1
    rw [List.getElem?_eq_getElem h2.2] at this
    exact Option.some.inj this
  conv => lhs; rw [← h1, h3]
  rw [spl_app _ _ _ (tw_not l c)]
theorem spl_split (c : UInt8) : ∀ (k : Nat) (l : List UInt8), count l [c] = k → splitK [c] 0 k l = spl c l
  | 0, l, h => by
    by_cases hm : c ∈ l
    · have hi := index1 l c
      rw [if_pos hm] at hi
      have := count_hit (by simp) hi
      omega
    · rw [spl_no c l hm]; rfl
  | k + 1, l, h => by
    have hi := index1 l c
    by_cases hm : c ∈ l
    · rw [if_pos hm] at hi
      have hc := count_hit (by simp) hi
      rw [splitK, hi, if_neg (by simp), Int.toNat_natCast, Nat.add_zero, tw_take, spl_cut c l hm]
      congr 1
      exact spl_split c k _ (by simp only [List.length_cons, List.length_nil] at hc ⊢; omega)
    · rw [if_neg hm] at hi
      have := count_miss hi
      omega
theorem spl_len (c : UInt8) (l : List UInt8) : (spl c l).length = count l [c] + 1 := by
  rw [← spl_split c _ l rfl]
  have : ∀ (k : Nat) (l : List UInt8), count l [c] = k → (splitK [c] 0 k l).length = k + 1 := by
    intro k
    induction k with
    | zero => intro l _; rfl
    | succ k ih =>
      intro l h
      have hi := index1 l c
      by_cases hm : c ∈ l
      · rw [if_pos hm] at hi
        have hc := count_hit (by simp) hi
        rw [splitK, hi, if_neg (by simp), List.length_cons, Int.toNat_natCast]
        rw [ih _ (by simp only [List.length_cons, List.length_nil] at hc ⊢; omega)]
      · rw [if_neg hm] at hi
        have := count_miss hi
        omega
  exact this _ l rfl
/-- The words, when some of the bytes have been looked at. -/
def splA (c : UInt8) (out : List (List UInt8)) (w r : List UInt8) : List (List UInt8) := out ++ (w ++ (spl c r).headD []) :: (spl c r).tail
theorem splA_nil (c : UInt8) (out : List (List UInt8)) (w : List UInt8) : splA c out w [] = out ++ [w] := by simp [splA, spl]
theorem splA_sep (c : UInt8) (out : List (List UInt8)) (w r : List UInt8) : splA c out w (c :: r) = splA c (out ++ [w]) [] r := by
  unfold splA
  rw [spl, if_pos rfl]
  have := spl_ne c r
  cases h : spl c r with
  | nil => exact absurd h this
  | cons x y => simp
theorem splA_go (c x : UInt8) (out : List (List UInt8)) (w r : List UInt8) (h : x ≠ c) : splA c out w (x :: r) = splA c out (w ++ [x]) r := by
  unfold splA
  rw [spl, if_neg h]
  have := spl_ne c r
  cases h : spl c r with
  | nil => exact absurd h this
  | cons x y => simp
theorem splA_0 (c : UInt8) (l : List UInt8) : splA c [] [] l = spl c l := by
  unfold splA
  have := spl_ne c l
  cases h : spl c l with
  | nil => exact absurd h this
  | cons x y => simp

/-! ### blanks -/
section
variable (p : UInt8 → Bool)
def rdW (l : List UInt8) : List UInt8 := (l.reverse.dropWhile p).reverse
theorem rdW_snoc (l : List UInt8) (x : UInt8) : rdW p (l ++ [x]) = if p x then rdW p l else l ++ [x] := by
  unfold rdW
  rw [List.reverse_append]
  simp only [List.reverse_cons, List.reverse_nil, List.nil_append, List.singleton_append, List.dropWhile_cons]
  split
  · rfl
  · simp
theorem rdW_all (a b : List UInt8) (hb : ∀ x ∈ b, p x = true) : rdW p (a ++ b) = rdW p a := by
  unfold rdW
  rw [List.reverse_append]
  congr 1
  have : ∀ (u v : List UInt8), (∀ x ∈ u, p x = true) → (u ++ v).dropWhile p = v.dropWhile p := by
    intro u v
    induction u with
    | nil => intro _; rfl
    | cons x r ih =>
      intro h
      rw [List.cons_append, List.dropWhile_cons, if_pos (h x (by simp))]
      exact ih fun y hy => h y (by simp [hy])
  exact this _ _ fun x hx => hb x (by simpa using hx)
theorem dW_all (a b : List UInt8) (ha : ∀ x ∈ a, p x = true) : (a ++ b).dropWhile p = b.dropWhile p := by
  induction a with
  | nil => rfl
  | cons x r ih =>
    rw [List.cons_append, List.dropWhile_cons, if_pos (ha x (by simp))]
    exact ih fun y hy => ha y (by simp [hy])
theorem rdW_cons (x : UInt8) (r : List UInt8) : rdW p (x :: r) = if rdW p r = [] then (if p x then [] else [x]) else x :: rdW p r := by
  have h : ∀ r r' : List UInt8, r = r'.reverse → rdW p (x :: r) = if rdW p r = [] then (if p x then [] else [x]) else x :: rdW p r := by
    intro r r'
    induction r' generalizing r with
    | nil => rintro rfl; simp [rdW, List.dropWhile_cons]; split <;> simp
    | cons y t ih =>
      intro e
      have e' : r = t.reverse ++ [y] := by rw [e]; simp
      subst e'
      rw [← List.cons_append, rdW_snoc, rdW_snoc]
      by_cases hy : p y = true
      · rw [if_pos hy, if_pos hy]; exact ih _ rfl
      · rw [if_neg hy, if_neg hy, if_neg (by simp)]; rfl
  exact h r r.reverse (by simp)
theorem dW_rdW (l : List UInt8) : (rdW p l).dropWhile p = rdW p (l.dropWhile p) := by
  induction l with
  | nil => rfl
  | cons x r ih =>
    by_cases hx : p x = true
    · have e : (x :: r).dropWhile p = r.dropWhile p := by rw [List.dropWhile_cons, if_pos hx]
      rw [e, rdW_cons, ← ih, if_pos hx]
      by_cases h : rdW p r = []
      · rw [if_pos h, h]
      · rw [if_neg h, List.dropWhile_cons, if_pos hx]
    · have e : ∀ r, (x :: r).dropWhile p = x :: r := fun r => by rw [List.dropWhile_cons, if_neg hx]
      rw [e, rdW_cons]
      by_cases h : rdW p r = []
      · rw [if_pos h, if_neg hx, e]
      · rw [if_neg h, e]
end
def blk (c : UInt8) : Bool := [9, 32].contains c
theorem blk_iff (c : UInt8) : blk c = true ↔ c = 9 ∨ c = 32 := by simp [blk]
theorem trimB_eq (l : List UInt8) : trimB l = (rdW blk l).dropWhile blk := rfl
theorem trimB_eq' (l : List UInt8) : trimB l = rdW blk (l.dropWhile blk) := by rw [trimB_eq, dW_rdW]
theorem trimB_mid (a v b : List UInt8) (ha : ∀ x ∈ a, blk x = true) (hb : ∀ x ∈ b, blk x = true) : trimB (a ++ v ++ b) = trimB v := by
  rw [trimB_eq, rdW_all _ _ _ hb, dW_rdW, dW_all _ _ _ ha, ← dW_rdW, ← trimB_eq]
theorem trimB_len (l : List UInt8) : (trimB l).length ≤ l.length := by
  rw [trimB_eq]
  have h1 : ((rdW blk l).dropWhile blk).length ≤ (rdW blk l).length := (List.dropWhile_sublist blk).length_le
  have h2 : (rdW blk l).length ≤ l.length := by
    unfold rdW
    rw [List.length_reverse]
    have := (List.dropWhile_sublist (l := l.reverse) blk).length_le
    simpa using this
  omega
end Go.Proofs.YtkoohdacneflfaaGreatDoor

/-
  Lines: as the landed text cuts them, as the document's text does.
-/
namespace Go.Proofs.YtkoohdacneflfaaGreatDoor
open Go.Lib
set_option linter.unusedVariables false
set_option linter.unusedSimpArgs false

theorem scan_go (l r : List UInt8) (c : UInt8) (h : c ≠ 13 ∧ c ≠ 10) : scan false l (c :: r) = scan false (l ++ [c]) r := by rw [scan, if_neg h.1, if_neg h.2]
theorem scan_end (l r : List UInt8) : scan false l (13 :: 10 :: r) = if l = [] then (if r = [] then some [] else none) else (scan false [] r).map (l :: ·) := by
  rw [scan, if_pos rfl, scan, if_pos rfl]
def clean (a : List UInt8) : Prop := ∀ x ∈ a, x ≠ 13 ∧ x ≠ 10
theorem scan_clean (r : List UInt8) : ∀ (a l : List UInt8), clean a → scan false l (a ++ r) = scan false (l ++ a) r
  | [], l, _ => by simp
  | x :: a, l, h => by
    rw [List.cons_append, scan_go _ _ _ (h x (by simp)), scan_clean r a _ fun y hy => h y (by simp [hy])]
    simp
theorem occ_succ (x : UInt8) (s sub : List UInt8) (j : Nat) : occAt (x :: s) sub (j + 1) = occAt s sub j := rfl
theorem scan_cr (l r : List UInt8) (h : r.head? ≠ some 10) : scan true l r = none := by
  cases r with
  | nil => rfl
  | cons c r => rw [scan, if_neg (by simpa using h)]
theorem occ_crlf (s : List UInt8) : occAt (13 :: s) crlf 0 = false → s.head? ≠ some 10 := by
  intro h e
  cases s with
  | nil => simp at e
  | cons c r =>
    have : c = 10 := by simpa using e
    subst this
    simp [occAt, crlf, List.isPrefixOf] at h
theorem scan_bad (r : List UInt8) : ∀ (a l : List UInt8), ¬ clean a → (∀ j, j < a.length → occAt (a ++ 13 :: 10 :: r) crlf j = false) → scan false l (a ++ 13 :: 10 :: r) = none
  | [], _, h, _ => absurd (fun x hx => by simp at hx) h
  | x :: a, l, h, ho => by
    rw [List.cons_append]
    by_cases h1 : x = 13
    · subst h1
      rw [scan, if_pos rfl]
      exact scan_cr _ _ (occ_crlf _ (ho 0 (by simp)))
    · by_cases h2 : x = 10
      · rw [scan, if_neg h1, if_pos h2]
      · rw [scan_go _ _ _ ⟨h1, h2⟩]
        refine scan_bad r a _ (fun hc => h fun y hy => ?_) fun j hj => ?_
        · rcases List.mem_cons.mp hy with rfl | hy
          · exact ⟨h1, h2⟩
          · exact hc y hy
        · have := ho (j + 1) (by simpa using hj)
          rwa [List.cons_append, occ_succ] at this
theorem scan_none : ∀ (b l : List UInt8), (∀ j, j ≤ b.length → occAt b crlf j = false) → scan false l b = none
  | [], _, _ => rfl
  | x :: b, l, h => by
    by_cases h1 : x = 13
    · subst h1
      rw [scan, if_pos rfl]
      exact scan_cr _ _ (occ_crlf _ (h 0 (by simp)))
    · by_cases h2 : x = 10
      · rw [scan, if_neg h1, if_pos h2]
      · rw [scan_go _ _ _ ⟨h1, h2⟩]
        exact scan_none b _ fun j hj => by
          have := h (j + 1) (by simpa using hj)
          rwa [occ_succ] at this

/-! ### line by line, by the first end of a line -/
def linA (acc : List (List UInt8)) (b : List UInt8) : List (List UInt8) := ((scan false [] b).map (acc ++ ·)).getD []
theorem linA_0 (b : List UInt8) : linA [] b = linesB b := by
  unfold linA linesB
  cases scan false [] b <;> simp
def brk (l : List UInt8) : Bool := l.any fun c => c == 13 || c == 10
theorem brk_iff (l : List UInt8) : brk l = false ↔ clean l := by
  unfold brk clean
  simp
theorem cut_at (b : List UInt8) (i : Nat) (h : index b crlf = i) : b = b.take i ++ 13 :: 10 :: b.drop (i + 2) ∧ i + 2 ≤ b.length ∧ ∀ j, j < i → occAt b crlf j = false := by
  rcases index_spec b crlf with ⟨h1, _⟩ | ⟨k, h1, h2, h3, h4⟩
  · omega
  · obtain rfl : i = k := by omega
    have hr := index_room b crlf (by omega)
    rw [h] at hr
    have hr : i + 2 ≤ b.length := by simp [crlf] at hr; omega
    refine ⟨?_, hr, h4⟩
    have e := (occAt_iff_take b crlf i (by simpa [crlf] using hr)).symm.trans h3
    have e : (b.drop i).take 2 = [13, 10] := by simpa [crlf] using e
    have h5 : b.drop i = 13 :: 10 :: b.drop (i + 2) := by
      have := List.take_append_drop 2 (b.drop i)
      rw [e, List.drop_drop] at this
      exact this.symm
    conv => lhs; rw [← List.take_append_drop i b, h5]
theorem linA_no {acc : List (List UInt8)} {b : List UInt8} (h : index b crlf = -1) : linA acc b = [] := by
  rcases index_spec b crlf with ⟨_, h1⟩ | ⟨k, h1, _⟩
  · unfold linA; rw [scan_none b [] h1]; rfl
  · omega
theorem linA_empty {acc : List (List UInt8)} {b : List UInt8} (h : index b crlf = (0 : Nat)) : linA acc b = if b.drop 2 = [] then acc else [] := by
  obtain ⟨e, _, _⟩ := cut_at b 0 h
  rw [List.take_zero, List.nil_append, Nat.zero_add] at e
  unfold linA
  rw [e, scan_end, if_pos rfl]
  simp only [List.drop_succ_cons, List.drop_zero]
  split <;> simp
theorem linA_bad {acc : List (List UInt8)} {b : List UInt8} {i : Nat} (h : index b crlf = i) (hb : brk (b.take i) = true) : linA acc b = [] := by
  obtain ⟨e, hl, ho⟩ := cut_at b i h
  unfold linA
  rw [e] at ho
  conv => lhs; rw [e]
  rw [scan_bad _ _ _ (fun hc => by rw [(brk_iff _).2 hc] at hb; cases hb) fun j hj => ho j (by rw [List.length_take] at hj; omega)]
  rfl
theorem linA_go {acc : List (List UInt8)} {b : List UInt8} {i : Nat} (h : index b crlf = i) (h0 : 0 < i) (hb : brk (b.take i) = false) : linA acc b = linA (acc ++ [b.take i]) (b.drop (i + 2)) := by
  obtain ⟨e, hl, ho⟩ := cut_at b i h
  have hne : b.take i ≠ [] := fun e => by have := congrArg List.length e; rw [List.length_take, List.length_nil] at this; omega
  unfold linA
  conv => lhs; rw [e]
  rw [scan_clean _ _ _ ((brk_iff _).1 hb), List.nil_append, scan_end, if_neg hne]
  cases scan false [] (b.drop (i + 2)) <;> simp

/-! ### byte by byte -/
def rawS : Bool → List (List UInt8) → List UInt8 → List UInt8 → Option (List (List UInt8))
  | true, _, _, [] => none
  | false, o, l, [] => if l = [] ∧ o ≠ [] then some o else none
  | false, o, l, c :: r => if c = 13 then rawS true o l r else if c = 10 then none else rawS false o (l ++ [c]) r
  | true, o, l, c :: r => if c = 10 then rawS false (o ++ [l]) [] r else none
def fineR : List (List UInt8) → Bool
  | [] => true
  | [x] => x == []
  | x :: y :: r => x != [] && fineR (y :: r)
theorem raw_go (o : List (List UInt8)) (l r : List UInt8) (c : UInt8) (h : c ≠ 13 ∧ c ≠ 10) : rawS false o l (c :: r) = rawS false o (l ++ [c]) r := by rw [rawS, if_neg h.1, if_neg h.2]
theorem raw_end (o : List (List UInt8)) (l r : List UInt8) : rawS false o l (13 :: 10 :: r) = rawS false (o ++ [l]) [] r := by rw [rawS, if_pos rfl, rawS, if_pos rfl]
theorem raw_lf (o : List (List UInt8)) (l r : List UInt8) : rawS false o l (10 :: r) = none := by rw [rawS, if_neg (by decide), if_pos rfl]
theorem raw_cr (o : List (List UInt8)) (l r : List UInt8) (h : r.head? ≠ some 10) : rawS false o l (13 :: r) = none := by
  rw [rawS, if_pos rfl]
  cases r with
  | nil => rfl
  | cons c r => rw [rawS, if_neg (by simpa using h)]
theorem fine_app : ∀ (o m : List (List UInt8)), (∀ x ∈ o, x ≠ []) → m ≠ [] → fineR (o ++ m) = fineR m
  | [], _, _, _ => rfl
  | x :: o, m, h, hm => by
    have ih := fine_app o m (fun y hy => h y (by simp [hy])) hm
    have hx : (x != []) = true := by simpa using h x (by simp)
    rw [List.cons_append]
    cases e : o ++ m with
    | nil => simp at e; exact absurd e.2 hm
    | cons y r => rw [e] at ih; rw [fineR, hx, Bool.true_and, ih]
theorem fine_not : ∀ (o : List (List UInt8)), (∀ x ∈ o, x ≠ []) → o ≠ [] → fineR o = false
  | [], _, h => absurd rfl h
  | [x], h, _ => by simpa [fineR] using h x (by simp)
  | x :: y :: r, h, _ => by rw [fineR, fine_not (y :: r) (fun z hz => h z (by simp [hz])) (by simp), Bool.and_false]
theorem raw_more : ∀ (b : List UInt8) (cr : Bool) (o : List (List UInt8)) (l : List UInt8) (z : List (List UInt8)), rawS cr o l b = some z → ∃ m, z = o ++ m ∧ (b ≠ [] → m ≠ [])
  | [], true, _, _, _, h => by cases h
  | [], false, o, l, z, h => by
    rw [rawS] at h
    split at h
    · exact ⟨[], by simpa using (Option.some.inj h).symm, fun h => absurd rfl h⟩
    · cases h
  | c :: r, false, o, l, z, h => by
    rw [rawS] at h
    split at h
    · obtain ⟨m, h1, h2⟩ := raw_more r _ _ _ _ h
      refine ⟨m, h1, fun _ => h2 fun e => ?_⟩
      subst e; cases h
    · split at h
      · cases h
      · obtain ⟨m, h1, h2⟩ := raw_more r _ _ _ _ h
        refine ⟨m, h1, fun _ => h2 fun e => ?_⟩
        subst e
        rw [rawS, if_neg (by simp)] at h
        cases h
  | c :: r, true, o, l, z, h => by
    rw [rawS] at h
    split at h
    · obtain ⟨m, h1, h2⟩ := raw_more r _ _ _ _ h
      exact ⟨l :: m, by rw [h1]; simp, fun _ => by simp⟩
    · cases h
theorem raw_scan : ∀ (b : List UInt8) (cr : Bool) (o : List (List UInt8)) (l : List UInt8), (∀ x ∈ o, x ≠ []) → (rawS cr o l b).filter fineR = (scan cr l b).map fun ls => o ++ ls ++ [[]]
  | [], true, _, _, _ => rfl
  | [], false, o, l, h => by
    rw [rawS]
    split
    · rename_i h1
      simp [fine_not o h h1.2, scan]
    · rfl
  | c :: r, false, o, l, h => by
    rw [rawS, scan]
    split
    · exact raw_scan r _ _ _ h
    · split
      · rfl
      · exact raw_scan r _ _ _ h
  | c :: r, true, o, l, h => by
    rw [rawS, scan]
    split
    · by_cases hl : l = []
      · subst hl
        rw [if_pos rfl]
        by_cases hr : r = []
        · subst hr
          rw [if_pos rfl, rawS, if_pos ⟨rfl, by simp⟩]
          have e := fine_app o [[]] h (by simp)
          rw [Option.filter_some, e]
          simp [fineR]
        · rw [if_neg hr]
          cases e : rawS false (o ++ [[]]) [] r with
          | none => rfl
          | some z =>
            obtain ⟨m, h1, h2⟩ := raw_more r _ _ _ _ e
            have hm := h2 hr
            have e2 : fineR z = false := by
              rw [h1, List.append_assoc, fine_app _ _ h (by simp)]
              cases m with
              | nil => exact absurd rfl hm
              | cons y t => simp [fineR]
            simp [e2]
      · rw [if_neg hl, raw_scan r _ _ _ (fun x hx => by
          rcases List.mem_append.mp hx with hx | hx
          · exact h x hx
          · simp at hx; subst hx; exact hl)]
        cases scan false [] r <;> simp
    · rfl
/-- The document's lines. -/
def docL (b : List UInt8) : Option (List (List UInt8)) := (rawS false [] [] b).filter fineR
theorem docL_eq (b : List UInt8) : docL b = (scan false [] b).map (· ++ [[]]) := by
  unfold docL
  rw [raw_scan b _ _ _ (fun x hx => by simp at hx)]
  simp
theorem docL_cases (b : List UInt8) : (docL b = none ∧ linesB b = []) ∨ (docL b = some [[]] ∧ linesB b = []) ∨ ∃ l ls, docL b = some (l :: ls ++ [[]]) ∧ linesB b = l :: ls := by
  rw [docL_eq]
  unfold linesB
  cases scan false [] b with
  | none => exact .inl ⟨rfl, rfl⟩
  | some x => cases x with
    | nil => exact .inr (.inl ⟨rfl, rfl⟩)
    | cons l ls => exact .inr (.inr ⟨l, ls, rfl, rfl⟩)
end Go.Proofs.YtkoohdacneflfaaGreatDoor
