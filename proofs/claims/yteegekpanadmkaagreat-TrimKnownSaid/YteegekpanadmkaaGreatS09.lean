/-
  A message with so many entries left out, plainly; by places, and one by one.
-/
import Derived.Test.YteegekpanadmkaaGreatS08
import Derived.Test.YteegekpanadmkaaGreatS07
import Derived.Laws.OwnMore
import Derived.Test.YteegekpanadmkaaGreatS01
import Derived.Test.YteegekpanadmkaaGreatS06
import Derived.Test.YteegekpanadmkaaGreatS03
import Derived.Test.YteegekpanadmkaaGreatS05
import Derived.Outline
import Derived.Test.YteegekpanadmkaaGreatS02
import Derived.Deep.RegionHeld3
import Derived.Test.YteegekpanadmkaaGreatS00
namespace Go.Proofs.YteegekpanadmkaaGreat
open Go.RowKit Go.Shelf
set_option linter.unusedVariables false
set_option linter.unusedSimpArgs false
set_option maxRecDepth 100000

section
variable {α : Type}
/-- A list less those of which, by what is behind them, it is said. -/
def kept (f : α → List α → Bool) : List α → List α
  | [] => []
  | x :: l => if f x l then kept f l else x :: kept f l
/-- A list less those at places of which it is said. -/
def selL (out : Nat → Bool) : Nat → List α → List α
  | _, [] => []
  | s, x :: l => if out s then selL out (s + 1) l else x :: selL out (s + 1) l
theorem selL_kept {f : α → List α → Bool} {out : Nat → Bool} : ∀ {l : List α} {s : Nat}, (∀ j (h : j < l.length), out (s + j) = f l[j] (l.drop (j + 1))) → selL out s l = kept f l
  | [], s, _ => rfl
  | x :: l, s, h => by
    have h0 := h 0 (by simp)
    rw [Nat.add_zero] at h0
    have ih : selL out (s + 1) l = kept f l := selL_kept (s := s + 1) fun j hj => by
      have := h (j + 1) (by simpa using hj)
      rw [Nat.add_assoc, Nat.add_comm 1 j]
      exact this
    unfold selL kept
    rw [h0, ih]
    rfl
theorem kept_congr {f g : α → List α → Bool} : ∀ {l : List α}, (∀ j (h : j < l.length), f l[j] (l.drop (j + 1)) = g l[j] (l.drop (j + 1))) → kept f l = kept g l
  | [], _ => rfl
  | x :: l, h => by
    have h0 : f x l = g x l := h 0 (by simp)
    have ih : kept f l = kept g l := kept_congr fun j hj => h (j + 1) (by simpa using hj)
    unfold kept
    rw [h0, ih]
/-- By how many are behind: the first ones stay. -/
theorem kept_take (s n : Nat) : ∀ (l : List α), kept (fun _ t => decide (s + t.length < n)) l = l.take (l.length - (n - s))
  | [] => by simp [kept]
  | x :: l => by
    unfold kept
    rw [kept_take s n l]
    by_cases h : s + l.length < n
    · rw [if_pos (by simpa using h), List.length_cons, show l.length + 1 - (n - s) = 0 by omega, show l.length - (n - s) = 0 by omega, List.take_zero, List.take_zero]
    · rw [if_neg (by simpa using h), List.length_cons, show l.length + 1 - (n - s) = (l.length - (n - s)) + 1 by omega, List.take_succ_cons]
/-- A list less the last so many of a kind. -/
def lop (p : α → Bool) (k : Nat) (l : List α) : List α := kept (fun x t => p x && decide (t.countP p < k)) l
theorem lop_cons (p : α → Bool) (k : Nat) (x : α) (l : List α) : lop p k (x :: l) = if p x = true ∧ l.countP p < k then lop p k l else x :: lop p k l := by
  unfold lop
  rw [kept]
  by_cases h : p x = true ∧ l.countP p < k
  · rw [if_pos h, if_pos (by simp [h])]
  · rw [if_neg h, if_neg (by simpa using h)]
theorem lop_nil (p : α → Bool) (k : Nat) : lop p k [] = [] := rfl
theorem lop_count (p : α → Bool) (k : Nat) : ∀ (l : List α), (lop p k l).countP p = l.countP p - k
  | [] => by simp [lop_nil]
  | x :: l => by
    rw [lop_cons]
    by_cases h : p x = true
    · by_cases h2 : l.countP p < k
      · rw [if_pos ⟨h, h2⟩, lop_count p k l, List.countP_cons, if_pos h]; omega
      · rw [if_neg (by omega), List.countP_cons, List.countP_cons, if_pos h, lop_count p k l]; omega
    · rw [if_neg (by simp [h]), List.countP_cons, List.countP_cons, if_neg h, lop_count p k l, Nat.add_zero, Nat.add_zero]
theorem lop_filter (p : α → Bool) (k : Nat) : ∀ (l : List α), (lop p k l).filter p = (l.filter p).take (l.countP p - k)
  | [] => by simp [lop_nil]
  | x :: l => by
    rw [lop_cons]
    by_cases h : p x = true
    · by_cases h2 : l.countP p < k
      · rw [if_pos ⟨h, h2⟩, lop_filter p k l, List.countP_cons, if_pos h, show l.countP p + 1 - k = 0 by omega, show l.countP p - k = 0 by omega, List.take_zero, List.take_zero]
      · rw [if_neg (by omega), List.filter_cons_of_pos h, List.filter_cons_of_pos h, List.countP_cons, if_pos h, lop_filter p k l, show l.countP p + 1 - k = (l.countP p - k) + 1 by omega, List.take_succ_cons]
    · rw [if_neg (by simp [h]), List.filter_cons_of_neg h, List.filter_cons_of_neg h, List.countP_cons, if_neg h, lop_filter p k l, Nat.add_zero]
theorem lop_other (p : α → Bool) (k : Nat) : ∀ (l : List α), (lop p k l).filter (fun x => !p x) = l.filter (fun x => !p x)
  | [] => rfl
  | x :: l => by
    rw [lop_cons]
    by_cases h : p x = true
    · rw [List.filter_cons_of_neg (by simp [h])]
      by_cases h2 : l.countP p < k
      · rw [if_pos ⟨h, h2⟩, lop_other p k l]
      · rw [if_neg (by omega), List.filter_cons_of_neg (by simp [h]), lop_other p k l]
    · rw [if_neg (by simp [h]), List.filter_cons_of_pos (by simp [h]), List.filter_cons_of_pos (by simp [h]), lop_other p k l]
/-- All of the kind are gone. -/
theorem lop_all (p : α → Bool) (k : Nat) (l : List α) (h : l.countP p ≤ k) : lop p k l = l.filter (fun x => !p x) := by
  have h0 : (lop p k l).filter (fun x => !p x) = lop p k l := by
    rw [List.filter_eq_self]
    intro x hx
    have hc : (lop p k l).countP p = 0 := by rw [lop_count]; omega
    have := List.countP_eq_zero.mp hc x hx
    simpa using this
  rw [← h0, lop_other]
/-- A list less the last one of a kind. -/
theorem lop_one (p : α → Bool) (k : Nat) : ∀ (l : List α), lop p 1 (lop p k l) = lop p (k + 1) l
  | [] => rfl
  | x :: l => by
    have ih := lop_one p k l
    have hc := lop_count p k l
    rw [lop_cons p k, lop_cons p (k + 1)]
    by_cases h : p x = true
    · by_cases h2 : l.countP p < k
      · rw [if_pos ⟨h, h2⟩, if_pos ⟨h, by omega⟩, ih]
      · rw [if_neg (by omega), lop_cons]
        by_cases h3 : l.countP p < k + 1
        · rw [if_pos ⟨h, by omega⟩, if_pos ⟨h, h3⟩, ih]
        · rw [if_neg (by omega), if_neg (by omega), ih]
    · rw [if_neg (by simp [h]), if_neg (by simp [h]), lop_cons, if_neg (by simp [h]), ih]
/-- It is the list but a place, if that is the last one of the kind. -/
theorem lop_at (p : α → Bool) : ∀ (l : List α) (i : Nat) (hi : i < l.length), p l[i] = true → (l.drop (i + 1)).countP p = 0 → lop p 1 l = l.take i ++ l.drop (i + 1)
  | x :: l, 0, _, hp, h0 => by
    have h0 : l.countP p = 0 := h0
    have hp : p x = true := hp
    rw [lop_cons, if_pos ⟨hp, by omega⟩, lop_all p 1 l (by omega), List.filter_eq_self.mpr]
    · rfl
    · intro y hy
      have := List.countP_eq_zero.mp h0 y hy
      simpa using this
  | x :: l, i + 1, hi, hp, h0 => by
    have hi' : i < l.length := by simpa using hi
    have h0' : (l.drop (i + 1)).countP p = 0 := h0
    have hp' : p l[i] = true := hp
    have h1 : 0 < l.countP p := List.countP_pos_iff.mpr ⟨l[i], List.getElem_mem hi', hp'⟩
    rw [lop_cons, if_neg (by omega), lop_at p l i hi' hp' h0']
    rfl
  | [], i, hi, _, _ => by simp at hi
theorem lop_mem (p : α → Bool) (k : Nat) : ∀ (l : List α) {x : α}, x ∈ lop p k l → x ∈ l
  | [], x, h => by simp [lop_nil] at h
  | y :: l, x, h => by
    rw [lop_cons] at h
    split at h
    · exact List.mem_cons_of_mem _ (lop_mem p k l h)
    · rcases List.mem_cons.mp h with rfl | h
      · simp
      · exact List.mem_cons_of_mem _ (lop_mem p k l h)
end

/-! ### entries -/

/-- An entry: its kind, a question or a record. -/
structure En where
  k : Int
  q : Qn
  x : Rc
def q0 : Qn := ⟨[], 0, 0⟩
def x0 : Rc := ⟨[], 0, 0, 0, []⟩
def nO (x : Rc) : Bool := !isO x
def arK (x : Rc) : Int := if isO x then 3 else 0
def enQ (q : Qn) : En := ⟨4, q, x0⟩
def enR (k : Int) (x : Rc) : En := ⟨k, q0, x⟩
def enA (x : Rc) : En := enR (arK x) x
/-- A message's entries, as they stand in it. -/
def ents (m : Ms) : List En := m.q.map enQ ++ (m.an.map (enR 2) ++ (m.ns.map (enR 1) ++ m.ar.map enA))
theorem ents_len (m : Ms) : (ents m).length = m.q.length + m.an.length + m.ns.length + m.ar.length := by unfold ents; simp; omega
/-- The kind at a place. -/
def kOf (E : List En) (i : Nat) : Int := (E.map En.k).getD i 0
theorem kOf_at {E : List En} {i : Nat} (h : i < E.length) : kOf E i = E[i].k := by unfold kOf; simp [h]
/-- An entry is put behind the others of its list. -/
def putEn (m : Ms) (e : En) : Ms :=
  if e.k = 4 then { m with q := m.q ++ [e.q] } else if e.k = 2 then { m with an := m.an ++ [e.x] } else if e.k = 1 then { m with ns := m.ns ++ [e.x] } else { m with ar := m.ar ++ [e.x] }
/-- What entries are put, less those at places of which it is said. -/
def gath (out : Nat → Bool) : Nat → List En → Ms → Ms
  | _, [], m => m
  | s, e :: l, m => gath out (s + 1) l (if out s then m else putEn m e)
theorem gath_app (out : Nat → Bool) : ∀ (E F : List En) (s : Nat) (m : Ms), gath out s (E ++ F) m = gath out (s + E.length) F (gath out s E m)
  | [], F, s, m => rfl
  | e :: E, F, s, m => by
    show gath out (s + 1) (E ++ F) _ = gath out (s + (E.length + 1)) F (gath out (s + 1) E _)
    rw [gath_app out E F (s + 1), show s + 1 + E.length = s + (E.length + 1) by omega]
theorem gath_more (out : Nat → Bool) (E : List En) (i : Nat) (hi : i < E.length) (m : Ms) : gath out 0 (E.take (i + 1)) m = if out i then gath out 0 (E.take i) m else putEn (gath out 0 (E.take i) m) E[i] := by
  rw [List.take_succ_eq_append_getElem hi, gath_app, List.length_take, Nat.min_eq_left (by omega), Nat.zero_add]
  rfl
theorem gath_q (out : Nat → Bool) : ∀ (l : List Qn) (s : Nat) (m : Ms), gath out s (l.map enQ) m = { m with q := m.q ++ selL out s l }
  | [], s, m => by simp [gath, selL]
  | x :: l, s, m => by
    rw [List.map_cons, gath, gath_q out l, selL]
    cases out s <;> simp [putEn, enQ]
theorem gath_an (out : Nat → Bool) : ∀ (l : List Rc) (s : Nat) (m : Ms), gath out s (l.map (enR 2)) m = { m with an := m.an ++ selL out s l }
  | [], s, m => by simp [gath, selL]
  | x :: l, s, m => by
    rw [List.map_cons, gath, gath_an out l, selL]
    cases out s <;> simp [putEn, enR]
theorem gath_ns (out : Nat → Bool) : ∀ (l : List Rc) (s : Nat) (m : Ms), gath out s (l.map (enR 1)) m = { m with ns := m.ns ++ selL out s l }
  | [], s, m => by simp [gath, selL]
  | x :: l, s, m => by
    rw [List.map_cons, gath, gath_ns out l, selL]
    cases out s <;> simp [putEn, enR]
theorem gath_ar (out : Nat → Bool) : ∀ (l : List Rc) (s : Nat) (m : Ms), gath out s (l.map enA) m = { m with ar := m.ar ++ selL out s l }
  | [], s, m => by simp [gath, selL]
  | x :: l, s, m => by
    have hk : (enA x).k = 3 ∨ (enA x).k = 0 := by unfold enA enR arK; split <;> simp
    have hp : putEn m (enA x) = { m with ar := m.ar ++ [x] } := by
      unfold putEn
      rw [if_neg (by omega), if_neg (by omega), if_neg (by omega)]
      rfl
    rw [List.map_cons, gath, gath_ar out l, selL]
    cases out s <;> simp [hp]
theorem gath_tot (out : Nat → Bool) : ∀ (E : List En) (s : Nat) (m : Ms), (gath out s E m).q.length + (gath out s E m).an.length + (gath out s E m).ns.length + (gath out s E m).ar.length ≤ m.q.length + m.an.length + m.ns.length + m.ar.length + E.length
  | [], s, m => by simp [gath]
  | e :: E, s, m => by
    have h1 : ∀ e, (putEn m e).q.length + (putEn m e).an.length + (putEn m e).ns.length + (putEn m e).ar.length = m.q.length + m.an.length + m.ns.length + m.ar.length + 1 := fun e => by
      unfold putEn
      split
      · simp; omega
      · split
        · simp; omega
        · split <;> simp <;> omega
    have ih := gath_tot out E (s + 1) (if out s then m else putEn m e)
    rw [gath, List.length_cons]
    have h2 := h1 e
    by_cases hs : out s = true
    · rw [if_pos hs] at ih ⊢; omega
    · rw [if_neg hs] at ih ⊢; omega
theorem gath_ents (out : Nat → Bool) (m : Ms) (f : Int) : gath out 0 (ents m) ⟨m.id, f, [], [], [], []⟩ =
    ⟨m.id, f, selL out 0 m.q, selL out m.q.length m.an, selL out (m.q.length + m.an.length) m.ns, selL out (m.q.length + m.an.length + m.ns.length) m.ar⟩ := by
  unfold ents
  rw [gath_app, gath_app, gath_app, gath_q, gath_an, gath_ns, gath_ar]
  simp

/-! ### which are left out -/

/-- How many there are of each kind. -/
def nA (m : Ms) : Nat := m.ar.countP nO
def nD (m : Ms) : Nat := m.ar.countP isO
theorem nA_nD (m : Ms) : nA m + nD m = m.ar.length := by
  unfold nA nD
  have := List.length_eq_countP_add_countP isO (l := m.ar)
  have e : m.ar.countP nO = m.ar.countP (fun a => ¬ isO a) := by congr 1; funext x; unfold nO; cases isO x <;> rfl
  rw [e]; omega
/-- The flag that tells it. -/
def tcG (f : Int) : Int := bits .or .i64 f 512
theorem tcG_nat {f : Int} (h0 : 0 ≤ f) (h1 : f ≤ 65535) : tcG f = ((f.toNat ||| 512 : Nat) : Int) ∧ 0 ≤ tcG f ∧ tcG f ≤ 65535 := by
  have e1 : (BitVec.ofInt 64 f).toNat = f.toNat := by rw [BitVec.toNat_ofInt]; omega
  have e2 : (BitVec.ofInt 64 512).toNat = 512 := by decide
  have hl : f.toNat ||| 512 < 2 ^ 16 := Nat.or_lt_two_pow (by omega) (by decide)
  have h : tcG f = ((f.toNat ||| 512 : Nat) : Int) := by
    show IntKind.i64.wrap ((BitVec.ofInt 64 f ||| BitVec.ofInt 64 512).toNat : Nat) = _
    rw [BitVec.toNat_or, e1, e2, IntKind.wrap_i64]
    omega
  exact ⟨h, by omega, by omega⟩
theorem tcG_twice {f : Int} (h0 : 0 ≤ f) (h1 : f ≤ 65535) : tcG (tcG f) = tcG f := by
  obtain ⟨e, l0, l1⟩ := tcG_nat h0 h1
  obtain ⟨e2, _, _⟩ := tcG_nat l0 l1
  rw [e2, e]
  have : (((f.toNat ||| 512 : Nat) : Int)).toNat = f.toNat ||| 512 := by omega
  rw [this, Nat.or_assoc, Nat.or_self]
/-- A message with so many entries left out. -/
def mcut (m : Ms) (n : Nat) : Ms :=
  ⟨m.id, if (nA m < n ∧ 0 < m.ns.length) ∨ (nA m + m.ns.length < n ∧ 0 < m.an.length) ∨ (nA m + m.ns.length + m.an.length + nD m < n ∧ 0 < m.q.length) then tcG m.fl else m.fl,
    m.q.take (m.q.length - (n - (nA m + m.ns.length + m.an.length + nD m))), m.an.take (m.an.length - (n - (nA m + m.ns.length))), m.ns.take (m.ns.length - (n - nA m)),
    (lop nO n m.ar).take ((lop nO n m.ar).length - (n - (nA m + m.ns.length + m.an.length)))⟩
end Go.Proofs.YteegekpanadmkaaGreat

/-
  Rows of pointers at entries: stretches of them change places.
-/
namespace Go.Proofs.YteegekpanadmkaaGreat
open Go.RowKit Go.Shelf
set_option linter.unusedVariables false
set_option linter.unusedSimpArgs false
set_option maxRecDepth 100000

/-- A pointer at an entry of block b. -/
def pe (b i : Nat) : Value := .pointer (some ⟨b, i * 10, none⟩)
/-- The slice of block g, of N pointers at entries of block b, is a row of the call's own: at these places. -/
def Pr (w : World) (B b g c N : Nat) (l : List Nat) : Prop := w.ownsRow B 97 1 (.slice (some ⟨g, 0, none⟩) N c) N (l.map (pe b))
section
variable {w w' : World} {B b g c N : Nat} {l : List Nat}
theorem Pr.len (h : Pr w B b g c N l) : l.length = N := by have := h.1; rw [List.length_map, Nat.mul_one] at this; exact this
theorem Pr.at_ (h : Pr w B b g c N l) (j : Nat) (hj : j < N) (x : Nat) (hx : l[j]? = some x) : w.cell? ⟨g, j, none⟩ = some (pe b x) := by
  rw [World.ownsRow.cellAt h j (by omega), List.getElem?_map, hx]; rfl
theorem Pr.fz (h : Pr w B b g c N l) (j : Nat) : w.frozen? ⟨g, j, none⟩ = false := World.ownsRow.frozenAt h j
theorem Pr.set (h : Pr w B b g c N l) (j x : Nat) : Pr (w.setCell ⟨g, j, none⟩ (pe b x)) B b g c N (l.set j x) := by
  have := (World.ownsRow.stored h j (pe b x)).1
  unfold Pr
  rw [List.map_set]
  exact this
theorem Pr.aside {G : Nat → Prop} (h : Pr w B b g c N l) (ha : Aside G w w') (hG : ¬ G g) : Pr w' B b g c N l := row_aside h ha fun k hk => by
  have : g = k := by simpa [Value.ownBlock] using hk
  rw [← this]; exact hG
theorem Pr.cap (h : Pr w B b g c N l) : N ≤ c := by
  rcases h.2 with ⟨h', _⟩ | ⟨g', cap, cur, h', _, _, h1, _⟩
  · simp at h'
  · injection h' with _ _ h'; omega
theorem Pr.lt (h : Pr w B b g c N l) : B ≤ g ∧ g < w.heap.size := World.ownsRow.lt h g rfl
end
/-- What a call that turns such a row alone comes to. -/
def PrPost (w : World) (B b g c N : Nat) (p : List Nat → Prop) (e : Ending) (w' : World) : Prop := e = .returned (.tuple #[]) ∧ ∃ l, p l ∧ Pr w' B b g c N l ∧ Aside (fun k => k = g) w w'

theorem set_mid {α : Type} (P S : List α) (x y : α) (j : Nat) (hj : P.length = j) : (P ++ x :: S).set j y = P ++ y :: S := by
  subst hj
  rw [List.set_append_right _ _ (Nat.le_refl _), Nat.sub_self]; rfl
theorem get_mid {α : Type} (P S : List α) (x : α) (j : Nat) (hj : P.length = j) : (P ++ x :: S)[j]? = some x := by
  subst hj
  rw [List.getElem?_append_right (Nat.le_refl _), Nat.sub_self]; rfl
/-- Two places of a row change what they hold. -/
theorem swap_two {α : Type} (P M S : List α) (x y : α) (i j : Nat) (hi : P.length = i) (hj : P.length + 1 + M.length = j) : ((P ++ x :: (M ++ y :: S)).set i y).set j x = P ++ y :: (M ++ x :: S) ∧ ((P ++ x :: (M ++ y :: S)).set j x).set i y = P ++ y :: (M ++ x :: S) ∧
    (P ++ x :: (M ++ y :: S))[i]? = some x ∧ (P ++ x :: (M ++ y :: S))[j]? = some y ∧ ((P ++ x :: (M ++ y :: S)).set i y)[j]? = some y := by
  have e1 := set_mid P (M ++ y :: S) x y i hi
  have f : ∀ z, P ++ z :: (M ++ y :: S) = (P ++ z :: M) ++ y :: S := fun z => by simp
  have fl : ∀ z, (P ++ z :: M).length = j := fun z => by simp; omega
  have e2 : ∀ z, (P ++ z :: (M ++ y :: S)).set j x = P ++ z :: (M ++ x :: S) := fun z => by rw [f, set_mid _ _ _ _ _ (fl z)]; simp
  refine ⟨by rw [e1, e2], by rw [e2, set_mid _ _ _ _ _ hi], get_mid _ _ _ _ hi, ?_, ?_⟩
  · rw [f]; exact get_mid _ _ _ _ (fl x)
  · rw [e1, f]; exact get_mid _ _ _ _ (fl y)

set_option maxHeartbeats 2000000 in
/-- Two stretches of as many change places. -/
theorem swapR_any {w : World} {B b g c N : Nat} {P X M Y S : List Nat} (h : Pr w B b g c N (P ++ (X ++ (M ++ (Y ++ S))))) (hN : N ≤ 1000000) (a z n : Nat) (ha : P.length = a) (hz : P.length + X.length + M.length = z) (hx : X.length = n) (hy : Y.length = n) (f : Value) :
    Calls Tryz.prog 100 #[.slice (some ⟨g, 0, none⟩) N c, .int .i64 a, .int .i64 z, .int .i64 n, f] w (PrPost w B b g c N (fun l => l = P ++ (Y ++ (M ++ (X ++ S))))) := by
  have hlen := h.len
  rw [List.length_append, List.length_append, List.length_append, List.length_append] at hlen
  have hcap := h.cap
  have hnN : n ≤ N := by omega
  have H := Lib.hid h
  clear h
  go_enter Tryz.func100, Tryz.ntmps100
  go_wp2
  go_loopg [10] n (fun kx s wr => ∃ (i : Nat) (X1 X2 Y1 Y2 : List Nat), i + kx = n ∧ s = .int .i64 i ∧ Hid (X1.length = i ∧ Y1.length = i ∧ X = X1 ++ X2 ∧ Y = Y1 ++ Y2 ∧ Pr wr B b g c N (P ++ (Y1 ++ X2 ++ (M ++ (X1 ++ Y2 ++ S)))) ∧ Aside (fun k => k = g) w wr))
  case atStart => exact ⟨0, [], X, [], Y, by omega, rfl, Lib.hid ⟨rfl, rfl, rfl, rfl, H.out, Aside.refl _ _⟩⟩
  case round =>
    obtain ⟨i, X1, X2, Y1, Y2, hi, rfl, HH⟩ := hrel
    by_cases hlt : i < n
    · obtain ⟨k1, k2, k3, k4, k5, k6⟩ := HH.out
      obtain ⟨x, X3, rfl⟩ : ∃ x l, X2 = x :: l := by
        cases X2 with
        | nil => rw [k3] at hx; simp at hx; omega
        | cons x l => exact ⟨x, l, rfl⟩
      obtain ⟨y, Y3, rfl⟩ : ∃ x l, Y2 = x :: l := by
        cases Y2 with
        | nil => rw [k4] at hy; simp at hy; omega
        | cons x l => exact ⟨x, l, rfl⟩
      have hXl : X.length = i + (X3.length + 1) := by rw [k3]; simp [k1]
      have eL : P ++ (Y1 ++ x :: X3 ++ (M ++ (X1 ++ y :: Y3 ++ S))) = (P ++ Y1) ++ x :: ((X3 ++ (M ++ X1)) ++ y :: (Y3 ++ S)) := by simp
      have hi1 : (P ++ Y1).length = a + i := by simp [ha, k2]
      have hj1 : (P ++ Y1).length + 1 + (X3 ++ (M ++ X1)).length = z + i := by simp [k1, k2]; omega
      obtain ⟨s1, _, s2, s3, s4⟩ := swap_two (P ++ Y1) (X3 ++ (M ++ X1)) (Y3 ++ S) x y (a + i) (z + i) hi1 hj1
      rw [eL] at k5
      have hR : Pr ((wr.setCell ⟨g, a + i, none⟩ (pe b y)).setCell ⟨g, z + i, none⟩ (pe b x)) B b g c N (P ++ (Y1 ++ [y] ++ X3 ++ (M ++ (X1 ++ [x] ++ Y3 ++ S)))) := by
        have := (k5.set (a + i) y).set (z + i) x
        rw [s1] at this
        simpa using this
      have hA : Aside (fun k => k = g) w ((wr.setCell ⟨g, a + i, none⟩ (pe b y)).setCell ⟨g, z + i, none⟩ (pe b x)) := (k6.trans (Aside.setCell _ _ rfl)).trans (Aside.setCell _ _ rfl)
      have c1 := k5.at_ (a + i) (by omega) x s2
      have c2 := k5.at_ (z + i) (by omega) y s3
      have c3 := (k5.set (a + i) y).at_ (z + i) (by omega) y s4
      have f1 := k5.fz (a + i)
      have f2 := (k5.set (a + i) y).fz (z + i)
      have HR := Lib.hid hR
      have HA := Lib.hid hA
      have HK := Lib.hid (And.intro k1 (And.intro k2 (And.intro k3 k4)))
      obtain ⟨p1, hp1⟩ : ∃ k, a + i = k := ⟨_, rfl⟩
      obtain ⟨p2, hp2⟩ : ∃ k, z + i = k := ⟨_, rfl⟩
      rw [hp1, hp2] at HR HA
      rw [hp1] at c1 f1 f2 c3
      rw [hp2] at c2 c3 f2
      have w1 : IntKind.i64.wrap ((a : Int) + (i : Int)) = (p1 : Int) := by rw [IntWalk.i64_in _ (by omega)]; omega
      have w2 : IntKind.i64.wrap ((z : Int) + (i : Int)) = (p2 : Int) := by rw [IntWalk.i64_in _ (by omega)]; omega
      have b1 : p1 < N := by omega
      have b2 : p2 < N := by omega
      clear hp1 hp2 hlen
      clear HH k1 k2 k3 k4 k5 k6 hR hA s1 s2 s3 s4 eL hi1 hj1 hXl hx hy ha hz
      unfold pe at *
      go_wp2
      go_region
      go_wp2
      go_roundg (n - (i + 1))
      case rel =>
        obtain ⟨k1, k2, k3, k4⟩ := HK.out
        exact ⟨i + 1, X1 ++ [x], X3, Y1 ++ [y], Y3, by omega, by go_num, Lib.hid ⟨by simp [k1], by simp [k2], by rw [k3]; simp, by rw [k4]; simp, HR.out, HA.out.trans (Aside.drewN _ 1)⟩⟩
      case measure => omega
    · go_wp2
      go_end0
      obtain ⟨k1, k2, k3, k4, k5, k6⟩ := HH.out
      have e1 : X2 = [] := List.length_eq_zero_iff.mp (by rw [k3, List.length_append] at hx; omega)
      have e2 : Y2 = [] := List.length_eq_zero_iff.mp (by rw [k4, List.length_append] at hy; omega)
      subst e1; subst e2
      refine ⟨rfl, _, ?_, k5, k6⟩
      rw [k3, k4]
end Go.Proofs.YteegekpanadmkaaGreat

/-
  A row is turned about; two stretches of it that stand side by side change places.
-/
namespace Go.Proofs.YteegekpanadmkaaGreat
open Go.RowKit Go.Shelf
set_option linter.unusedVariables false
set_option linter.unusedSimpArgs false
set_option maxRecDepth 100000

set_option maxHeartbeats 400000 in
theorem rotate_any {w : World} {B b g c N : Nat} {P X Y S : List Nat} (h : Pr w B b g c N (P ++ (X ++ (Y ++ S)))) (hN : N ≤ 1000000) (a m z : Nat) (ha : P.length = a) (hm : a + X.length = m) (hz : m + Y.length = z) (hx0 : 0 < X.length) (hy0 : 0 < Y.length) (f : Value) :
    Calls Tryz.prog 97 #[.slice (some ⟨g, 0, none⟩) N c, .int .i64 a, .int .i64 m, .int .i64 z, f] w (PrPost w B b g c N (fun l => l = P ++ (Y ++ (X ++ S)))) := by
  have hlen := h.len
  rw [List.length_append, List.length_append, List.length_append] at hlen
  obtain ⟨i0, hi0⟩ : ∃ k, X.length = k := ⟨_, rfl⟩
  obtain ⟨j0, hj0⟩ : ∃ k, Y.length = k := ⟨_, rfl⟩
  rw [hi0] at hm hx0 hlen
  rw [hj0] at hz hy0 hlen
  have w1 : IntKind.i64.wrap ((m : Int) - (a : Int)) = (i0 : Int) := by rw [IntWalk.i64_in _ (by omega)]; omega
  have w2 : IntKind.i64.wrap ((z : Int) - (m : Int)) = (j0 : Int) := by rw [IntWalk.i64_in _ (by omega)]; omega
  have v1 : (m : Int) - (a : Int) = (i0 : Int) := by omega
  have v2 : (z : Int) - (m : Int) = (j0 : Int) := by omega
  have H := Lib.hid h
  have HXY := Lib.hid (And.intro hi0 hj0)
  clear h hi0 hj0
  go_enter Tryz.func97, Tryz.ntmps97
  go_wp2
  go_loopg [10, 11] (i0 + j0) (fun kx s t wr => ∃ (i j : Nat) (Y0 X1 Y1 X0 : List Nat), i + j ≤ kx ∧ 0 < i ∧ 0 < j ∧ i ≤ m ∧ m + j ≤ N ∧ s = .int .i64 i ∧ t = .int .i64 j ∧ Hid (X1.length = i ∧ Y1.length = j ∧ P.length + Y0.length + i = m ∧ Y ++ X = Y0 ++ (Y1 ++ (X1 ++ X0)) ∧ Pr wr B b g c N (P ++ (Y0 ++ (X1 ++ (Y1 ++ (X0 ++ S))))) ∧ Aside (fun k => k = g) w wr))
  case atStart => exact ⟨i0, j0, [], X, Y, [], Nat.le_refl _, hx0, hy0, by omega, by omega, rfl, rfl, Lib.hid ⟨HXY.out.1, HXY.out.2, by simp; omega, by simp, by simpa using H.out, Aside.refl _ _⟩⟩
  case round =>
    obtain ⟨i, j, Y0, X1, Y1, X0, hk, hi, hj, him, hmj, rfl, rfl, HH⟩ := hrel
    clear w1 w2 v1 v2
    obtain ⟨q1, hq1⟩ : ∃ q, q + i = m := ⟨m - i, by omega⟩
    have w1 : IntKind.i64.wrap ((m : Int) - (i : Int)) = (q1 : Int) := by rw [IntWalk.i64_in _ (by omega)]; omega
    have v1 : (m : Int) - (i : Int) = (q1 : Int) := by omega
    rcases Nat.lt_trichotomy i j with hlt | rfl | hlt
    · obtain ⟨k1, k2, k3, k4, k5, k6⟩ := HH.out
      obtain ⟨d, hd⟩ : ∃ d, j = i + d := ⟨j - i, by omega⟩
      obtain ⟨q2, hq2⟩ : ∃ q, q = m + d := ⟨_, rfl⟩
      obtain ⟨q3, hq3⟩ : ∃ q, q = m + j := ⟨_, rfl⟩
      have w2 : IntKind.i64.wrap ((m : Int) + (j : Int)) = (q3 : Int) := by rw [IntWalk.i64_in _ (by omega)]; omega
      have v2 : (m : Int) + (j : Int) = (q3 : Int) := by omega
      have w3 : IntKind.i64.wrap ((q3 : Int) - (i : Int)) = (q2 : Int) := by rw [IntWalk.i64_in _ (by omega)]; omega
      have v3 : (q3 : Int) - (i : Int) = (q2 : Int) := by omega
      have w4 : IntKind.i64.wrap ((j : Int) - (i : Int)) = (d : Int) := by rw [IntWalk.i64_in _ (by omega)]; omega
      have v4 : (j : Int) - (i : Int) = (d : Int) := by omega
      obtain ⟨Y2, Y3, rfl, hY2⟩ : ∃ U V, Y1 = U ++ V ∧ U.length = d := ⟨Y1.take d, Y1.drop d, (List.take_append_drop _ _).symm, by simp; omega⟩
      rw [List.length_append] at k2
      have HC := Lib.hid (swapR_any (P := P ++ Y0) (X := X1) (M := Y2) (Y := Y3) (S := X0 ++ S) (by simpa using k5) hN q1 q2 i (by rw [List.length_append]; omega) (by rw [List.length_append]; omega) k1 (by omega) f)
      have hne : ¬ (i : Int) = j := by omega
      have hg : ¬ (j : Int) < i := by omega
      clear hq2 hd hq3
      go_wp2_with fail
      refine HC.out.mono ?_; rintro e w1 ⟨rfl, l, rfl, hp, hs⟩
      have HP := Lib.hid (And.intro hp hs)
      clear hp hs
      go_wp2_with fail
      go_roundg (i + d)
      case rel => exact ⟨i, d, Y0, Y3, Y2, X1 ++ X0, Nat.le_refl _, hi, by omega, him, by omega, rfl, rfl, Lib.hid ⟨by omega, hY2, k3, by rw [k4]; simp, by simpa using HP.out.1, k6.trans HP.out.2⟩⟩
      case measure => omega
    · obtain ⟨k1, k2, k3, k4, k5, k6⟩ := HH.out
      have HC := Lib.hid (swapR_any (P := P ++ Y0) (X := X1) (M := []) (Y := Y1) (S := X0 ++ S) (by simpa using k5) hN q1 m i (by rw [List.length_append]; omega) (by rw [List.length_append]; simp; omega) k1 k2 f)
      clear hq1
      go_wp2_with fail
      refine HC.out.mono ?_; rintro e w1 ⟨rfl, l, rfl, hp, hs⟩
      have HP := Lib.hid (And.intro hp hs)
      clear hp hs
      go_wp2_with fail
      go_end0
      refine ⟨rfl, _, rfl, ?_, k6.trans HP.out.2⟩
      have := HP.out.1
      rw [← List.append_assoc Y X, k4]
      simpa using this
    · obtain ⟨k1, k2, k3, k4, k5, k6⟩ := HH.out
      obtain ⟨d, hd⟩ : ∃ d, i = j + d := ⟨i - j, by omega⟩
      have w4 : IntKind.i64.wrap ((i : Int) - (j : Int)) = (d : Int) := by rw [IntWalk.i64_in _ (by omega)]; omega
      have v4 : (i : Int) - (j : Int) = (d : Int) := by omega
      obtain ⟨X2, X3, rfl, hX2⟩ : ∃ U V, X1 = U ++ V ∧ U.length = j := ⟨X1.take j, X1.drop j, (List.take_append_drop _ _).symm, by simp; omega⟩
      rw [List.length_append] at k1
      have HC := Lib.hid (swapR_any (P := P ++ Y0) (X := X2) (M := X3) (Y := Y1) (S := X0 ++ S) (by simpa using k5) hN q1 m j (by rw [List.length_append]; omega) (by rw [List.length_append]; omega) hX2 k2 f)
      clear hd hq1
      go_wp2_with fail
      refine HC.out.mono ?_; rintro e w1 ⟨rfl, l, rfl, hp, hs⟩
      have HP := Lib.hid (And.intro hp hs)
      clear hp hs
      go_wp2_with fail
      go_roundg (d + j)
      case rel => exact ⟨d, j, Y0 ++ Y1, X3, X2, X0, Nat.le_refl _, by omega, hj, by omega, by omega, rfl, rfl, Lib.hid ⟨by omega, hX2, by rw [List.length_append]; omega, by rw [k4]; simp, by simpa using HP.out.1, k6.trans HP.out.2⟩⟩
      case measure => omega

set_option maxHeartbeats 400000 in
theorem revP_any {w : World} {B b g c N : Nat} {l : List Nat} (h : Pr w B b g c N l) (hN : N ≤ 1000000) (h0 : 0 < N) :
    Calls Tryz.prog 57 #[.slice (some ⟨g, 0, none⟩) N c] w (PrPost w B b g c N (fun m => m = l.reverse)) := by
  have hlen := h.len
  have hcap := h.cap
  obtain ⟨n1, hn1⟩ : ∃ k, k + 1 = N := ⟨N - 1, by omega⟩
  have w1 : IntKind.i64.wrap ((N : Int) - 1) = (n1 : Int) := by rw [IntWalk.i64_in _ (by omega)]; omega
  have v1 : (N : Int) - 1 = (n1 : Int) := by omega
  have H := Lib.hid h
  clear h
  go_enter Tryz.func57, Tryz.ntmps57
  go_wp2
  go_loopg [2, 3] N (fun kx s t wr => ∃ (i j : Nat) (U M V : List Nat), M.length ≤ kx ∧ i + j = n1 ∧ i ≤ j + 1 ∧ s = .int .i64 i ∧ t = .int .i64 j ∧ Hid (l = U ++ (M ++ V) ∧ U.length = i ∧ V.length = i ∧ Pr wr B b g c N (V.reverse ++ (M ++ U.reverse)) ∧ Aside (fun k => k = g) w wr))
  case atStart => exact ⟨0, n1, [], l, [], by omega, by omega, by omega, rfl, rfl, Lib.hid ⟨by simp, rfl, rfl, by simpa using H.out, Aside.refl _ _⟩⟩
  case round =>
    obtain ⟨i, j, U, M, V, hk, hij, hi1, rfl, rfl, HH⟩ := hrel
    clear w1 v1
    obtain ⟨k1, k2, k3, k4, k5⟩ := HH.out
    have hM : M.length + (i + i) = N := by rw [k1, List.length_append, List.length_append] at hlen; omega
    by_cases hlt : i < j
    · obtain ⟨x, M1, rfl⟩ : ∃ x l, M = x :: l := by
        cases M with
        | nil => simp at hM; omega
        | cons x l => exact ⟨x, l, rfl⟩
      obtain ⟨M2, y, rfl⟩ : ∃ l x, M1 = l ++ [x] := by
        rcases List.eq_nil_or_concat M1 with rfl | ⟨l, x, rfl⟩
        · simp at hM; omega
        · exact ⟨l, x, by simp⟩
      have hM2 : M2.length + 2 + (i + i) = N := by simp at hM; omega
      have eL : V.reverse ++ (x :: (M2 ++ [y]) ++ U.reverse) = V.reverse ++ x :: (M2 ++ y :: U.reverse) := by simp
      obtain ⟨s1, _, s2, s3, s4⟩ := swap_two V.reverse M2 U.reverse x y i j (by simp [k3]) (by simp [k3]; omega)
      rw [eL] at k4
      have hR : Pr ((wr.setCell ⟨g, i, none⟩ (pe b y)).setCell ⟨g, j, none⟩ (pe b x)) B b g c N (V.reverse ++ y :: (M2 ++ x :: U.reverse)) := by
        have := (k4.set i y).set j x
        rwa [s1] at this
      have hA : Aside (fun k => k = g) w ((wr.setCell ⟨g, i, none⟩ (pe b y)).setCell ⟨g, j, none⟩ (pe b x)) := (k5.trans (Aside.setCell _ _ rfl)).trans (Aside.setCell _ _ rfl)
      have c1 := k4.at_ i (by omega) x s2
      have c2 := k4.at_ j (by omega) y s3
      have c3 := (k4.set i y).at_ j (by omega) y s4
      have f1 := k4.fz i
      have f2 := (k4.set i y).fz j
      have b1 : i < N := by omega
      have b2 : j < N := by omega
      have HR := Lib.hid hR
      have HA := Lib.hid hA
      have HK := Lib.hid (And.intro k1 (And.intro k2 k3))
      have HM := Lib.hid (And.intro hM2 (And.intro hij hk))
      obtain ⟨j1, hj1⟩ : ∃ k, k + 1 = j := ⟨j - 1, by omega⟩
      have v2 : (j : Int) - 1 = (j1 : Int) := by omega
      have HJ := Lib.hid hj1
      clear HH k1 k2 k3 k4 k5 hR hA s1 s2 s3 s4 eL hM hM2 hlen hij hk hj1 hi1 hn1
      unfold pe at *
      go_wp2
      go_region
      go_wp2
      go_roundg M2.length
      case rel =>
        obtain ⟨k1, k2, k3⟩ := HK.out
        have := HM.out
        have := HJ.out
        exact ⟨i + 1, j1, U ++ [x], M2, y :: V, Nat.le_refl _, by omega, by omega, by go_num, rfl, Lib.hid ⟨by rw [k1]; simp, by simp [k2], by simp [k3], by rw [show (y :: V).reverse ++ (M2 ++ (U ++ [x]).reverse) = V.reverse ++ y :: (M2 ++ x :: U.reverse) by simp]; exact HR.out, HA.out.trans (Aside.drewN _ 1)⟩⟩
      case measure => have := HM.out.2.2; simp at this; omega
    · go_wp2
      go_end0
      refine ⟨rfl, _, ?_, k4, k5⟩
      rw [k1]
      have : M.reverse = M := by
        match M, hM with
        | [], _ => rfl
        | [x], _ => rfl
        | x :: y :: r, hM => simp at hM; omega
      simp [this]
end Go.Proofs.YteegekpanadmkaaGreat

/-
  How two entries are compared, by their kinds.
-/
namespace Go.Proofs.YteegekpanadmkaaGreat
open Go.RowKit Go.Shelf
set_option linter.unusedVariables false
set_option linter.unusedSimpArgs false
set_option maxRecDepth 100000

/-- What comparing two numbers tells. -/
def cmpV (a b : Int) : Int := if a < b then -1 else if b < a then 1 else 0
theorem cmpV_neg (a b : Int) : cmpV a b < 0 ↔ a < b := by
  unfold cmpV
  split
  · omega
  · split <;> omega

set_option maxHeartbeats 400000 in
theorem nanI_any (w : World) (a : Int) : Calls Tryz.prog 71 #[.int .i64 a] w fun e w' => e = .returned (.bool false) ∧ w' = w := by
  go_enter Tryz.func71, Tryz.ntmps71
  go_wp2
  go_ret
  exact ⟨rfl, rfl⟩

set_option maxHeartbeats 400000 in
theorem cmp_any (w : World) (a b : Int) : Calls Tryz.prog 42 #[.int .i64 a, .int .i64 b] w fun e w' => e = .returned (.int .i64 (cmpV a b)) ∧ w' = w := by
  rcases Int.lt_trichotomy a b with h | h | h
  · rw [show cmpV a b = -1 by unfold cmpV; rw [if_pos h]]
    go_enter Tryz.func42, Tryz.ntmps42
    go_wp2_with (go_at_call 71; refine (nanI_any _ _).mono ?_; rintro e w1 ⟨rfl, rfl⟩)
    go_ret
    exact ⟨rfl, rfl⟩
  · rw [show cmpV a b = 0 by unfold cmpV; rw [if_neg (by omega), if_neg (by omega)]]
    subst h
    go_enter Tryz.func42, Tryz.ntmps42
    go_wp2_with (go_at_call 71; refine (nanI_any _ _).mono ?_; rintro e w1 ⟨rfl, rfl⟩)
    go_ret
    exact ⟨rfl, rfl⟩
  · rw [show cmpV a b = 1 by unfold cmpV; rw [if_neg (by omega), if_pos h]]
    have h2 : ¬ a < b := by omega
    go_enter Tryz.func42, Tryz.ntmps42
    go_wp2_with (go_at_call 71; refine (nanI_any _ _).mono ?_; rintro e w1 ⟨rfl, rfl⟩)
    go_ret
    exact ⟨rfl, rfl⟩

/-- The entries of block b have these kinds. -/
def Kn (w : World) (b N : Nat) (κ : Nat → Int) : Prop := ∀ i, i < N → w.cell? ⟨b, i * 10, none⟩ = some (.int .i64 (κ i))
theorem Kn.aside {G : Nat → Prop} {w w' : World} {b N : Nat} {κ : Nat → Int} (h : Kn w b N κ) (ha : Aside G w w') (hG : ¬ G b) : Kn w' b N κ := fun i hi => ha.cell_lt (h i hi) hG

set_option maxHeartbeats 400000 in
theorem less_any {w : World} {b N : Nat} {κ : Nat → Int} (h : Kn w b N κ) (i j : Nat) (hi : i < N) (hj : j < N) :
    Calls Tryz.prog 59 #[pe b i, pe b j] w fun e w' => e = .returned (.int .i64 (cmpV (κ i) (κ j))) ∧ ∃ q, w' = w.drewN q := by
  have c1 := h i hi
  have c2 := h j hj
  obtain ⟨a1, ha1⟩ : ∃ k, i * 10 = k := ⟨_, rfl⟩
  obtain ⟨a2, ha2⟩ : ∃ k, j * 10 = k := ⟨_, rfl⟩
  obtain ⟨k1, hk1⟩ : ∃ k, κ i = k := ⟨_, rfl⟩
  obtain ⟨k2, hk2⟩ : ∃ k, κ j = k := ⟨_, rfl⟩
  unfold pe
  rw [ha1, hk1] at c1
  rw [ha2, hk2] at c2
  rw [ha1, ha2, hk1, hk2]
  clear ha1 ha2 hk1 hk2 h
  obtain ⟨r, hr⟩ : ∃ r, cmpV k1 k2 = r := ⟨_, rfl⟩
  have hc : ∀ wx, Calls Tryz.prog 42 #[.int .i64 k1, .int .i64 k2] wx fun e w' => e = .returned (.int .i64 r) ∧ w' = wx := fun wx => by rw [← hr]; exact cmp_any wx k1 k2
  rw [hr]
  clear hr
  go_enter Tryz.func59, Tryz.ntmps59
  go_wp2
  go_quiet ((go_at_call 42; exact Calls.quiet_of_same (hc _)))
  go_wp2
  go_ret
  exact ⟨rfl, nq, rfl⟩
end Go.Proofs.YteegekpanadmkaaGreat

/-
  Two readings of the same message are told the same.
-/
namespace Go.Proofs.YteegekpanadmkaaGreat
open Go.RowKit Go.Shelf
set_option linter.unusedVariables false
set_option linter.unusedSimpArgs false
set_option maxRecDepth 100000

theorem cel_new6 (w : World) (a b c d e f : Value) (T : TypeId) : Cel (w.alloc (.cells #[a, b, c, d, e, f] T)) w.heap.size [a, b, c, d, e, f] := ⟨fun j hj => by
    match j, hj with
    | 0, _ => simp [go_sem]
    | 1, _ => simp [go_sem]
    | 2, _ => simp [go_sem]
    | 3, _ => simp [go_sem]
    | 4, _ => simp [go_sem]
    | 5, _ => simp [go_sem], fun j => by simp [go_sem]⟩
theorem Cel.six {w : World} {q : Nat} {a b c d e f : Value} (h : Cel w q [a, b, c, d, e, f]) : w.cell? ⟨q, 0, none⟩ = some a ∧ w.cell? ⟨q, 1, none⟩ = some b ∧ w.cell? ⟨q, 2, none⟩ = some c ∧ w.cell? ⟨q, 3, none⟩ = some d ∧ w.cell? ⟨q, 4, none⟩ = some e ∧ w.cell? ⟨q, 5, none⟩ = some f :=
  ⟨h.c 0 (by simp), h.c 1 (by simp), h.c 2 (by simp), h.c 3 (by simp), h.c 4 (by simp), h.c 5 (by simp)⟩

end Go.Proofs.YteegekpanadmkaaGreat

/-
  What the program writes and what the document's own text writes: the walk.
-/
namespace Go.Proofs.YteegekpanadmkaaGreat
open Go.RowKit Go.Shelf
set_option linter.unusedVariables false
set_option linter.unusedSimpArgs false
set_option maxRecDepth 100000

theorem wrL_next (a : Int) : ∀ (L : List Pc) (K : KK) (e : Nat) (acc : List UInt8), GoodK K → e ≤ 66000 → GoodK (wrL a L K e acc).K ∧ (wrL a L K e acc).K.length ≤ K.length + 127 * L.length ∧ (wrL a L K e acc).e ≤ 66000
  | [], K, e, acc, hG, he => ⟨hG, by simp [wrL], he⟩
  | x :: L, K, e, acc, hG, he => by
    rw [wrL]
    split
    · split
      · exact ⟨hG, by simp, he⟩
      · have h1 := nameK_good (e := e) (a := wrap64 (a + acc.length)) (n := x.1) hG
        obtain ⟨g1, g2, g3⟩ := wrL_next a L (nameK K e (wrap64 (a + acc.length)) x.1) (nameE K e (wrap64 (a + acc.length)) x.1) (acc ++ nameB K e (wrap64 (a + acc.length)) x.1) h1.1 (by omega)
        exact ⟨g1, by rw [List.length_cons]; omega, g3⟩
    · obtain ⟨g1, g2, g3⟩ := wrL_next a L K e (acc ++ x.1) hG he
      exact ⟨g1, by rw [List.length_cons]; omega, g3⟩

theorem wrR_next {K : KK} {e : Nat} (a t : Int) (d : List UInt8) (hG : GoodK K) (he : e ≤ 66000) : GoodK (wrR a t d K e).K ∧ (wrR a t d K e).K.length ≤ K.length + 400 ∧ (wrR a t d K e).e ≤ 66000 := by
  unfold wrR
  rcases hs : spl t d with L | ⟨c, aa⟩
  · obtain ⟨_, _, _, hf, _⟩ := spl_ok hs
    have h1 := fits_len hf
    have h2 := (kinds_small t).1
    obtain ⟨g1, g2, g3⟩ := wrL_next a L K e [] hG he
    exact ⟨g1, by simp only; omega, g3⟩
  · exact ⟨hG, by simp, he⟩

end Go.Proofs.YteegekpanadmkaaGreat

/-
  What the program writes of records and questions and what the document's own text writes: the walk.
-/
namespace Go.Proofs.YteegekpanadmkaaGreat
open Go.RowKit Go.Shelf
set_option linter.unusedVariables false
set_option linter.unusedSimpArgs false
set_option maxRecDepth 100000

theorem wrT_K (T : List UInt8) (t c l : Int) (R : WR) : (wrT T t c l R).K = R.K ∧ (wrT T t c l R).e = R.e := by
  unfold wrT; split <;> exact ⟨rfl, rfl⟩

theorem wrC_next {K : KK} {e : Nat} (a : Int) (x : Rc) (hG : GoodK K) (he : e ≤ 66000) : GoodK (wrC a x K e).K ∧ (wrC a x K e).K.length ≤ K.length + 600 ∧ (wrC a x K e).e ≤ 66000 := by
  unfold wrC
  split
  · exact ⟨hG, by simp, he⟩
  · split
    · exact ⟨hG, by simp, he⟩
    · obtain ⟨h1, h2, h3⟩ := nameK_good (e := e) (a := a) (n := x.n) hG
      obtain ⟨g1, g2, g3⟩ := wrR_next (e := nameE K e a x.n) (a + (nameB K e a x.n).length + 10) x.t x.d h1 (by omega)
      rw [(wrT_K _ _ _ _ _).1, (wrT_K _ _ _ _ _).2]
      exact ⟨g1, by omega, g3⟩

end Go.Proofs.YteegekpanadmkaaGreat

/-
  A pointer to a list of a message: how many entries there are, why one may not be, its bytes.
-/
namespace Go.Proofs.YteegekpanadmkaaGreat
open Go.RowKit Go.Shelf
set_option linter.unusedVariables false
set_option linter.unusedSimpArgs false
set_option maxRecDepth 100000

theorem mbound_yes (n : Int) (h : 0 ≤ n ∧ n ≤ 65535) (w : World) : Calls Tryz.prog 45 #[.int .i64 n] w fun e w' => e = .returned (.bool true) ∧ w = w' := by
  obtain ⟨h0, h1⟩ := h
  go_enter Tryz.func45, Tryz.ntmps45
  go_wp2
  go_ret
  exact ⟨rfl, rfl⟩

theorem mbound_no (n : Int) (h : n < 0 ∨ 65535 < n) (w : World) : Calls Tryz.prog 45 #[.int .i64 n] w fun e w' => e = .returned (.bool false) ∧ w = w' := by
  by_cases h0 : 0 ≤ n
  · have h1 : ¬ n ≤ 65535 := by omega
    go_enter Tryz.func45, Tryz.ntmps45
    go_wp2
    go_ret
    exact ⟨rfl, rfl⟩
  · go_enter Tryz.func45, Tryz.ntmps45
    go_wp2
    go_ret
    exact ⟨rfl, rfl⟩

/-- bounded, whatever the number. -/
theorem mbound_any (n : Int) (w : World) : Calls Tryz.prog 45 #[.int .i64 n] w fun e w' => e = .returned (.bool (decide (0 ≤ n ∧ n ≤ 65535))) ∧ w = w' := by
  by_cases h : 0 ≤ n ∧ n ≤ 65535
  · rw [decide_eq_true h]; exact mbound_yes n h w
  · rw [decide_eq_false h]; exact mbound_no n (by omega) w

theorem countQ_any {w : World} {M o hi : Nat} {v : Value} {l : List Qn} (hc : w.cell? ⟨M, o, none⟩ = some v) (hv : SQ w hi v l) :
    Calls Tryz.prog 119 #[.agg #[.pointer (some ⟨M, o, none⟩)]] w (Tells w (.int .i64 l.length)) := by
  obtain ⟨a, c, rfl⟩ := Lst.shape hv
  have hb := (Below.refl w.heap.size w).alloc (Nat.le_refl _) (.cells #[.pointer (some ⟨M, o, none⟩)] 117)
  have c0 := (hb.cell (p := ⟨M, o, none⟩) (World.block_lt_of_cell? w _ hc)).trans hc
  have HB := Lib.hid hb
  clear hb hc hv
  go_enter Tryz.func119, Tryz.ntmps119
  go_wp2_with fail
  go_ret
  exact ⟨rfl, HB.out⟩

theorem countR_any {w : World} {M o hi : Nat} {v : Value} {l : List Rc} (hc : w.cell? ⟨M, o, none⟩ = some v) (hv : SR w hi v l) :
    Calls Tryz.prog 152 #[.agg #[.pointer (some ⟨M, o, none⟩)]] w (Tells w (.int .i64 l.length)) := by
  obtain ⟨a, c, rfl⟩ := Lst.shape hv
  have hb := (Below.refl w.heap.size w).alloc (Nat.le_refl _) (.cells #[.pointer (some ⟨M, o, none⟩)] 120)
  have c0 := (hb.cell (p := ⟨M, o, none⟩) (World.block_lt_of_cell? w _ hc)).trans hc
  have HB := Lib.hid hb
  clear hb hc hv
  go_enter Tryz.func152, Tryz.ntmps152
  go_wp2_with fail
  go_ret
  exact ⟨rfl, HB.out⟩

set_option maxHeartbeats 2000000 in
theorem checkR_any {w : World} {M o hi : Nat} {v : Value} {l : List Rc} (hc : w.cell? ⟨M, o, none⟩ = some v) (hv : SR w hi v l) (hhi : hi ≤ w.heap.size) (j : Nat) (hj : j < l.length) (hn : l[j].n.length ≤ 1000000) (hd : l[j].d.length ≤ 1000000) :
    Calls Tryz.prog 151 #[.agg #[.pointer (some ⟨M, o, none⟩)], .int .i64 j] w (Tells w (.int .i64 (It.r l[j]).err)) := by
  obtain ⟨b, off, c, rfl, hb, hat⟩ := hv.at_ j hj
  have hlen := Lst.len hv
  have hbl := (Below.refl w.heap.size w).alloc (Nat.le_refl _) (.cells #[.pointer (some ⟨M, o, none⟩)] 120)
  have c0 := (hbl.cell (p := ⟨M, o, none⟩) (World.block_lt_of_cell? w _ hc)).trans hc
  have hat2 := hat.keep fun o => hbl.cell (p := ⟨b, o, none⟩) (Nat.lt_of_lt_of_le hb hhi)
  obtain ⟨d0, d1, d2, d3, d4⟩ := hat2
  have HB := Lib.hid hbl
  have HC := Lib.hid (fun wx => checkC_any l[j].n l[j].t l[j].c l[j].l l[j].d hn hd wx)
  have e : (It.r l[j]).err = chkC ⟨l[j].n, l[j].t, l[j].c, l[j].l, l[j].d⟩ := rfl
  rw [e]
  obtain ⟨E, hE⟩ : ∃ E, chkC ⟨l[j].n, l[j].t, l[j].c, l[j].l, l[j].d⟩ = E := ⟨_, rfl⟩
  rw [hE] at HC ⊢
  obtain ⟨x, hx⟩ : ∃ x, l[j] = x := ⟨_, rfl⟩
  rw [hx] at d0 d1 d2 d3 d4 HC
  clear hbl hc hv hat hE hx e hn hd
  go_enter Tryz.func151, Tryz.ntmps151
  go_wp2_with fail
  refine (tell_on HB (HC.out _)).mono ?_; rintro e w1 ⟨rfl, HB2⟩
  go_wp2_with fail
  go_ret
  exact ⟨rfl, HB2.out⟩

theorem mask_eq {n : List UInt8} {t c : Int} : askE n t c = if chk n ≠ 0 then chk n else if decide (0 ≤ t ∧ t ≤ 65535) = true ∧ decide (0 ≤ c ∧ c ≤ 65535) = true then 0 else 5 := by
  unfold askE
  split
  · rfl
  · simp only [decide_eq_true_eq]
    split <;> split <;> first | rfl | omega

set_option maxHeartbeats 4000000 in
theorem checkQ_any {w : World} {M o hi : Nat} {v : Value} {l : List Qn} (hc : w.cell? ⟨M, o, none⟩ = some v) (hv : SQ w hi v l) (hhi : hi ≤ w.heap.size) (j : Nat) (hj : j < l.length) (hn : l[j].n.length ≤ 1000000) :
    Calls Tryz.prog 118 #[.agg #[.pointer (some ⟨M, o, none⟩)], .int .i64 j] w (Tells w (.int .i64 (It.q l[j]).err)) := by
  obtain ⟨b, off, c, rfl, hb, hat⟩ := hv.at_ j hj
  have hlen := Lst.len hv
  have hbl := (Below.refl w.heap.size w).alloc (Nat.le_refl _) (.cells #[.pointer (some ⟨M, o, none⟩)] 117)
  have c0 := (hbl.cell (p := ⟨M, o, none⟩) (World.block_lt_of_cell? w _ hc)).trans hc
  have hat2 := hat.keep fun o => hbl.cell (p := ⟨b, o, none⟩) (Nat.lt_of_lt_of_le hb hhi)
  obtain ⟨d0, d1, d2⟩ := hat2
  obtain ⟨g, hg⟩ : ∃ g, w.heap.size = g := ⟨_, rfl⟩
  obtain ⟨W, hW⟩ : ∃ W, w.alloc (.cells #[.pointer (some ⟨M, o, none⟩)] 117) = W := ⟨_, rfl⟩
  have hWs : W.heap.size = g + 1 := by rw [← hW, World.size_alloc, hg]
  have k0 : W.cell? ⟨g, 0, none⟩ = some (.pointer (some ⟨M, o, none⟩)) := by rw [← hW, ← hg]; simp [go_sem]
  have HB := Lib.hid (bel_alloc hbl (.cells #[.string (bs l[j].n), .int .i64 l[j].t, .int .i64 l[j].c] 56))
  have HX := Lib.hid (cel_new3 W (.string (bs l[j].n)) (.int .i64 l[j].t) (.int .i64 l[j].c) 56)
  rw [hWs] at HX
  rw [hW] at HB c0 d0 d1 d2
  have HC := Lib.hid (fun wx => check_any l[j].n (by omega) wx)
  have HBT := Lib.hid (fun wx => mbound_any l[j].t wx)
  have HBC := Lib.hid (fun wx => mbound_any l[j].c wx)
  have e : (It.q l[j]).err = askE l[j].n l[j].t l[j].c := rfl
  rw [e, mask_eq]
  obtain ⟨E, hE⟩ : ∃ E, chk l[j].n = E := ⟨_, rfl⟩
  obtain ⟨B1, hB1⟩ : ∃ x, decide (0 ≤ l[j].t ∧ l[j].t ≤ 65535) = x := ⟨_, rfl⟩
  obtain ⟨B2, hB2⟩ : ∃ x, decide (0 ≤ l[j].c ∧ l[j].c ≤ 65535) = x := ⟨_, rfl⟩
  rw [hE] at HC ⊢
  rw [hB1] at HBT ⊢
  rw [hB2] at HBC ⊢
  obtain ⟨x, hx⟩ : ∃ x, l[j] = x := ⟨_, rfl⟩
  rw [hx] at d0 d1 d2 HX HC HBT HBC HB
  obtain ⟨x0, x1, x2⟩ := x
  simp only at d0 d1 d2 HX HC HBT HBC HB
  have HX0 := HX
  clear hbl hc hv hat hE hx e hn hB1 hB2 HX0
  have fin : ∀ R : Int, (if E ≠ 0 then E else if B1 = true ∧ B2 = true then 0 else 5) = R → Calls Tryz.prog 118 #[.agg #[.pointer (some ⟨M, o, none⟩)], .int .i64 j] w (Tells w (.int .i64 R)) := by
    intro R hR
    have HR := Lib.hid hR
    clear hR
    by_cases hE0 : E = 0
    · subst hE0
      cases B1 with
      | false =>
        have HR2 := Lib.hid (show (5 : Int) = R by rw [← HR.out]; simp)
        clear HR
        go_enter Tryz.func118, Tryz.ntmps118
        go_wp2_with fail
        refine (HC.out _).mono ?_; rintro e w1 ⟨rfl, hh⟩
        have HH := Lib.hid hh
        have HB2 := Lib.hid (bel_call HB.out hh)
        clear hh
        replace HX := Lib.hid (HX.out.below (by simp) HH.out)
        have e1 : w1.cell? ⟨g + 1, 1, none⟩ = some (.int .i64 x1) := HX.out.c 1 (by simp)
        have e2 : w1.cell? ⟨g + 1, 2, none⟩ = some (.int .i64 x2) := HX.out.c 2 (by simp)
        go_wp2_with fail
        refine (HBT.out _).mono ?_; rintro e w2 ⟨rfl, rfl⟩
        go_wp2_with fail
        go_ret
        exact ⟨by rw [← HR2.out]; rfl, HB2.out⟩
      | true =>
        cases B2 with
        | false =>
          have HR2 := Lib.hid (show (5 : Int) = R by rw [← HR.out]; simp)
          clear HR
          go_enter Tryz.func118, Tryz.ntmps118
          go_wp2_with fail
          refine (HC.out _).mono ?_; rintro e w1 ⟨rfl, hh⟩
          have HH := Lib.hid hh
          have HB2 := Lib.hid (bel_call HB.out hh)
          clear hh
          replace HX := Lib.hid (HX.out.below (by simp) HH.out)
          have e1 : w1.cell? ⟨g + 1, 1, none⟩ = some (.int .i64 x1) := HX.out.c 1 (by simp)
          have e2 : w1.cell? ⟨g + 1, 2, none⟩ = some (.int .i64 x2) := HX.out.c 2 (by simp)
          go_wp2_with fail
          refine (HBT.out _).mono ?_; rintro e w2 ⟨rfl, rfl⟩
          go_wp2_with fail
          refine (HBC.out _).mono ?_; rintro e w2 ⟨rfl, rfl⟩
          go_wp2_with fail
          go_ret
          exact ⟨by rw [← HR2.out]; rfl, HB2.out⟩
        | true =>
          have HR2 := Lib.hid (show (0 : Int) = R by rw [← HR.out]; simp)
          clear HR
          go_enter Tryz.func118, Tryz.ntmps118
          go_wp2_with fail
          refine (HC.out _).mono ?_; rintro e w1 ⟨rfl, hh⟩
          have HH := Lib.hid hh
          have HB2 := Lib.hid (bel_call HB.out hh)
          clear hh
          replace HX := Lib.hid (HX.out.below (by simp) HH.out)
          have e1 : w1.cell? ⟨g + 1, 1, none⟩ = some (.int .i64 x1) := HX.out.c 1 (by simp)
          have e2 : w1.cell? ⟨g + 1, 2, none⟩ = some (.int .i64 x2) := HX.out.c 2 (by simp)
          go_wp2_with fail
          refine (HBT.out _).mono ?_; rintro e w2 ⟨rfl, rfl⟩
          go_wp2_with fail
          refine (HBC.out _).mono ?_; rintro e w2 ⟨rfl, rfl⟩
          go_wp2_with fail
          go_ret
          exact ⟨by rw [← HR2.out]; rfl, HB2.out⟩
    · have tE : (E != 0) = true := by simpa using hE0
      have HR2 := Lib.hid (show E = R by rw [← HR.out, if_pos hE0])
      clear HR
      go_enter Tryz.func118, Tryz.ntmps118
      go_wp2_with fail
      refine (HC.out _).mono ?_; rintro e w1 ⟨rfl, hh⟩
      have HH := Lib.hid hh
      have HB2 := Lib.hid (bel_call HB.out hh)
      clear hh
      replace HX := Lib.hid (HX.out.below (by simp) HH.out)
      have e1 : w1.cell? ⟨g + 1, 1, none⟩ = some (.int .i64 x1) := HX.out.c 1 (by simp)
      have e2 : w1.cell? ⟨g + 1, 2, none⟩ = some (.int .i64 x2) := HX.out.c 2 (by simp)
      go_wp2_with fail
      go_ret
      exact ⟨by rw [← HR2.out]; rfl, HB2.out⟩
  exact fin _ rfl
end Go.Proofs.YteegekpanadmkaaGreat

/-
  The bytes of an entry of a list.
-/
namespace Go.Proofs.YteegekpanadmkaaGreat
open Go.RowKit Go.Shelf
set_option linter.unusedVariables false
set_option linter.unusedSimpArgs false
set_option maxRecDepth 100000

set_option maxHeartbeats 4000000 in
theorem writeQ_any {w : World} {M o hi p bm e : Nat} {v : Value} {l : List Qn} {K : KK} (hc : w.cell? ⟨M, o, none⟩ = some v) (hv : SQ w hi v l) (hhi : hi ≤ w.heap.size) (h : Pk w p bm K e) (hG : GoodK K) (hK : K.length ≤ 700000) (he : e ≤ 900000) (a : Int) (j : Nat) (hj : j < l.length) (hn : l[j].n.length ≤ 1000000) :
    Calls Tryz.prog 121 #[.agg #[.pointer (some ⟨M, o, none⟩)], .pointer (some ⟨p, 0, none⟩), .int .i64 a, .int .i64 j] w (WrPost w p bm (askW a l[j].n l[j].t l[j].c K e)) := by
  obtain ⟨b, off, c, rfl, hb, hat⟩ := hv.at_ j hj
  have hlen := Lst.len hv
  obtain ⟨W, hW⟩ : ∃ W, w.alloc (.cells #[.pointer (some ⟨M, o, none⟩)] 117) = W := ⟨_, rfl⟩
  have hbl : Below w.heap.size w W := by rw [← hW]; exact (Below.refl w.heap.size w).alloc (Nat.le_refl _) _
  have c0 := (hbl.cell (p := ⟨M, o, none⟩) (World.block_lt_of_cell? w _ hc)).trans hc
  have k0 : W.cell? ⟨w.heap.size, 0, none⟩ = some (.pointer (some ⟨M, o, none⟩)) := by rw [← hW]; simp [go_sem]
  obtain ⟨d0, d1, d2⟩ := hat.keep fun o => hbl.cell (p := ⟨b, o, none⟩) (Nat.lt_of_lt_of_le hb hhi)
  have HB := Lib.hid hbl
  have HP := h.later hbl
  have HC := Lib.hid (askC_any HP hG (by omega) he a l[j].n hn l[j].t l[j].c)
  have eR : askW a l[j].n l[j].t l[j].c K e = askW a l[j].n l[j].t l[j].c K e := rfl
  rw [eR]
  obtain ⟨R, hR⟩ : ∃ R, askW a l[j].n l[j].t l[j].c K e = R := ⟨_, rfl⟩
  rw [hR] at HC ⊢
  obtain ⟨x, hx⟩ : ∃ x, l[j] = x := ⟨_, rfl⟩
  rw [hx] at d0 d1 d2 HC
  clear hbl hc hv hat hR hx eR hn HP h 
  go_enter Tryz.func121, Tryz.ntmps121
  go_wp2_with fail
  refine HC.out.mono ?_; rintro e0 w1 ⟨v1, rfl, h1, h2, h3⟩
  have HQ := Lib.hid (show WrPost w p bm R (.returned (.tuple #[v1, .int .i64 R.code])) w1 from ⟨v1, rfl, h1.mono HB.out.size, h2, (Aside.of_all HB.out).trans h3⟩)
  clear h1 h2 h3
  go_wp2_with fail
  go_ret2
  exact HQ.out

set_option maxHeartbeats 4000000 in
theorem writeR_any {w : World} {M o hi p bm e : Nat} {v : Value} {l : List Rc} {K : KK} (hc : w.cell? ⟨M, o, none⟩ = some v) (hv : SR w hi v l) (hhi : hi ≤ w.heap.size) (h : Pk w p bm K e) (hG : GoodK K) (hK : K.length ≤ 700000) (he : e ≤ 900000) (a : Int) (j : Nat) (hj : j < l.length) (hn : l[j].n.length ≤ 1000000) (hd : l[j].d.length ≤ 1000000) :
    Calls Tryz.prog 154 #[.agg #[.pointer (some ⟨M, o, none⟩)], .pointer (some ⟨p, 0, none⟩), .int .i64 a, .int .i64 j] w (WrPost w p bm (wrC a l[j] K e)) := by
  obtain ⟨b, off, c, rfl, hb, hat⟩ := hv.at_ j hj
  have hlen := Lst.len hv
  obtain ⟨W, hW⟩ : ∃ W, w.alloc (.cells #[.pointer (some ⟨M, o, none⟩)] 120) = W := ⟨_, rfl⟩
  have hbl : Below w.heap.size w W := by rw [← hW]; exact (Below.refl w.heap.size w).alloc (Nat.le_refl _) _
  have c0 := (hbl.cell (p := ⟨M, o, none⟩) (World.block_lt_of_cell? w _ hc)).trans hc
  have k0 : W.cell? ⟨w.heap.size, 0, none⟩ = some (.pointer (some ⟨M, o, none⟩)) := by rw [← hW]; simp [go_sem]
  obtain ⟨d0, d1, d2, d3, d4⟩ := hat.keep fun o => hbl.cell (p := ⟨b, o, none⟩) (Nat.lt_of_lt_of_le hb hhi)
  have HB := Lib.hid hbl
  have HP := h.later hbl
  have HC := Lib.hid (writeC_any HP hG (by omega) he a l[j].n l[j].t l[j].c l[j].l l[j].d hn hd)
  have eR : wrC a l[j] K e = wrC a ⟨l[j].n, l[j].t, l[j].c, l[j].l, l[j].d⟩ K e := rfl
  rw [eR]
  obtain ⟨R, hR⟩ : ∃ R, wrC a ⟨l[j].n, l[j].t, l[j].c, l[j].l, l[j].d⟩ K e = R := ⟨_, rfl⟩
  rw [hR] at HC ⊢
  obtain ⟨x, hx⟩ : ∃ x, l[j] = x := ⟨_, rfl⟩
  rw [hx] at d0 d1 d2 d3 d4 HC
  clear hbl hc hv hat hR hx eR hn HP h hd
  go_enter Tryz.func154, Tryz.ntmps154
  go_wp2_with fail
  refine HC.out.mono ?_; rintro e0 w1 ⟨v1, rfl, h1, h2, h3⟩
  have HQ := Lib.hid (show WrPost w p bm R (.returned (.tuple #[v1, .int .i64 R.code])) w1 from ⟨v1, rfl, h1.mono HB.out.size, h2, (Aside.of_all HB.out).trans h3⟩)
  clear h1 h2 h3
  go_wp2_with fail
  go_ret2
  exact HQ.out

end Go.Proofs.YteegekpanadmkaaGreat

/-
  The pointers to the lists of a message.
-/
namespace Go.Proofs.YteegekpanadmkaaGreat
open Go.RowKit Go.Shelf
set_option linter.unusedVariables false
set_option linter.unusedSimpArgs false
set_option maxRecDepth 100000

/-- A pointer to the questions of the message in block M. -/
def lq (M : Nat) : Value := .iface 117 (.agg #[.pointer (some ⟨M, 2, none⟩)])
/-- A pointer to one of its lists of records. -/
def lr (M o : Nat) : Value := .iface 120 (.agg #[.pointer (some ⟨M, o, none⟩)])
/-- All of them. -/
def lall (M : Nat) : Array Value := #[lq M, lr M 3, lr M 4, lr M 5]

theorem cel_new4 (w : World) (a b c d : Value) (T : TypeId) : Cel (w.alloc (.cells #[a, b, c, d] T)) w.heap.size [a, b, c, d] := ⟨fun j hj => by
    match j, hj with
    | 0, _ => simp [go_sem]
    | 1, _ => simp [go_sem]
    | 2, _ => simp [go_sem]
    | 3, _ => simp [go_sem], fun j => by simp [go_sem]⟩

set_option maxHeartbeats 4000000 in
theorem lists_any (M : Nat) (w : World) (hM : M < w.heap.size) : Calls Tryz.prog 46 #[.pointer (some ⟨M, 0, none⟩)] w (Tells w (.agg (lall M))) := by
  obtain ⟨W, hW⟩ : ∃ W, w.alloc (.cells #[.nilIface, .nilIface, .nilIface, .nilIface] 79) = W := ⟨_, rfl⟩
  have hbl : Below w.heap.size w W := by rw [← hW]; exact (Below.refl w.heap.size w).alloc (Nat.le_refl _) _
  have HB := Lib.hid hbl
  obtain ⟨g, hg⟩ : ∃ g, w.heap.size = g := ⟨_, rfl⟩
  have hx : Cel W g [.nilIface, .nilIface, .nilIface, .nilIface] := by rw [← hW, ← hg]; exact cel_new4 w _ _ _ _ _
  have HX := Lib.hid hx
  have c0 : W.cell? ⟨g, 0, none⟩ = some .nilIface := hx.c 0 (by simp)
  have c1 : W.cell? ⟨g, 1, none⟩ = some .nilIface := hx.c 1 (by simp)
  have c2 : W.cell? ⟨g, 2, none⟩ = some .nilIface := hx.c 2 (by simp)
  have c3 : W.cell? ⟨g, 3, none⟩ = some .nilIface := hx.c 3 (by simp)
  have fz : ∀ j, W.frozen? ⟨g, j, none⟩ = false := hx.fz
  clear hx
  clear hbl
  go_enter Tryz.func46, Tryz.ntmps46
  go_wp2_with fail
  refine wp_region_held_drew (S := (fun wx => True)) (by kernel_rfl) trivial (fun hHeld => ?_)
  refine wpAnyH_take (i := 0) (oi := { dst := some 3, op := Op.move (Operand.tmp 0), type := 81, pos := "list.go:32", after := #[], guard := none }) (v := ?_) rfl (by kernel_rfl) (by kernel_rfl) (by kernel_rfl) (fun _ _ _ h => h) (Or.inl ⟨by rfl, ?_⟩) (by assumption) ?_
  rotate_left 1
  · intro w hSw; (try dsimp only at hSw); go_simp; try (with_reducible rfl)
  try simp only [Act.put, List.setIfInBounds_toArray, List.set_cons_zero, List.set_cons_succ]
  refine wpAnyH_take (i := 1) (oi := { dst := some 4, op := Op.nilCheck (Operand.tmp 3), type := 0, pos := "list.go:32", after := #[{ on := 0, ground := Ground.data }], guard := none }) (v := ?_) rfl (by kernel_rfl) (by kernel_rfl) (by kernel_rfl) (fun _ _ _ h => h) (Or.inl ⟨by rfl, ?_⟩) (by assumption) ?_
  rotate_left 1
  · intro w hSw; (try dsimp only at hSw); go_simp; try (with_reducible rfl)
  try simp only [Act.put, List.setIfInBounds_toArray, List.set_cons_zero, List.set_cons_succ]
  refine wpAnyH_take (i := 2) (oi := { dst := some 5, op := Op.fieldAddr 25 (Operand.tmp 4) 2, type := 0, pos := "list.go:32", after := #[{ on := 1, ground := Ground.data }], guard := none }) (v := ?_) rfl (by kernel_rfl) (by kernel_rfl) (by kernel_rfl) (fun _ _ _ h => h) (Or.inl ⟨by rfl, ?_⟩) (by assumption) ?_
  rotate_left 1
  · intro w hSw; (try dsimp only at hSw); go_simp; try (with_reducible rfl)
  try simp only [Act.put, List.setIfInBounds_toArray, List.set_cons_zero, List.set_cons_succ]
  refine wpAnyH_take (i := 3) (oi := { dst := some 6, op := Op.build 117 #[(0, Operand.tmp 5)], type := 117, pos := "list.go:32", after := #[{ on := 2, ground := Ground.data }], guard := none }) (v := ?_) rfl (by kernel_rfl) (by kernel_rfl) (by kernel_rfl) (fun _ _ _ h => h) (Or.inl ⟨by rfl, ?_⟩) (by assumption) ?_
  rotate_left 1
  · intro w hSw; (try dsimp only at hSw); go_simp; try (with_reducible rfl)
  try simp only [Act.put, List.setIfInBounds_toArray, List.set_cons_zero, List.set_cons_succ]
  refine wpAnyH_take (i := 4) (oi := { dst := some 7, op := Op.makeInterface 117 (Operand.tmp 6), type := 78, pos := "list.go:32", after := #[{ on := 3, ground := Ground.data }], guard := none }) (v := ?_) rfl (by kernel_rfl) (by kernel_rfl) (by kernel_rfl) (fun _ _ _ h => h) (Or.inl ⟨by rfl, ?_⟩) (by assumption) ?_
  rotate_left 1
  · intro w hSw; (try dsimp only at hSw); go_simp; try (with_reducible rfl)
  try simp only [Act.put, List.setIfInBounds_toArray, List.set_cons_zero, List.set_cons_succ]
  refine wpAnyH_take (i := 5) (oi := { dst := some 8, op := Op.move (Operand.tmp 0), type := 81, pos := "list.go:32", after := #[], guard := none }) (v := ?_) rfl (by kernel_rfl) (by kernel_rfl) (by kernel_rfl) (fun _ _ _ h => h) (Or.inl ⟨by rfl, ?_⟩) (by assumption) ?_
  rotate_left 1
  · intro w hSw; (try dsimp only at hSw); go_simp; try (with_reducible rfl)
  try simp only [Act.put, List.setIfInBounds_toArray, List.set_cons_zero, List.set_cons_succ]
  refine wpAnyH_take (i := 6) (oi := { dst := some 9, op := Op.nilCheck (Operand.tmp 8), type := 0, pos := "list.go:32", after := #[{ on := 5, ground := Ground.data }], guard := none }) (v := ?_) rfl (by kernel_rfl) (by kernel_rfl) (by kernel_rfl) (fun _ _ _ h => h) (Or.inl ⟨by rfl, ?_⟩) (by assumption) ?_
  rotate_left 1
  · intro w hSw; (try dsimp only at hSw); go_simp; try (with_reducible rfl)
  try simp only [Act.put, List.setIfInBounds_toArray, List.set_cons_zero, List.set_cons_succ]
  refine wpAnyH_take (i := 7) (oi := { dst := some 10, op := Op.fieldAddr 25 (Operand.tmp 9) 3, type := 0, pos := "list.go:32", after := #[{ on := 6, ground := Ground.data }], guard := none }) (v := ?_) rfl (by kernel_rfl) (by kernel_rfl) (by kernel_rfl) (fun _ _ _ h => h) (Or.inl ⟨by rfl, ?_⟩) (by assumption) ?_
  rotate_left 1
  · intro w hSw; (try dsimp only at hSw); go_simp; try (with_reducible rfl)
  try simp only [Act.put, List.setIfInBounds_toArray, List.set_cons_zero, List.set_cons_succ]
  refine wpAnyH_take (i := 8) (oi := { dst := some 11, op := Op.build 120 #[(0, Operand.tmp 10)], type := 120, pos := "list.go:32", after := #[{ on := 7, ground := Ground.data }], guard := none }) (v := ?_) rfl (by kernel_rfl) (by kernel_rfl) (by kernel_rfl) (fun _ _ _ h => h) (Or.inl ⟨by rfl, ?_⟩) (by assumption) ?_
  rotate_left 1
  · intro w hSw; (try dsimp only at hSw); go_simp; try (with_reducible rfl)
  try simp only [Act.put, List.setIfInBounds_toArray, List.set_cons_zero, List.set_cons_succ]
  refine wpAnyH_take (i := 9) (oi := { dst := some 12, op := Op.makeInterface 120 (Operand.tmp 11), type := 78, pos := "list.go:32", after := #[{ on := 8, ground := Ground.data }], guard := none }) (v := ?_) rfl (by kernel_rfl) (by kernel_rfl) (by kernel_rfl) (fun _ _ _ h => h) (Or.inl ⟨by rfl, ?_⟩) (by assumption) ?_
  rotate_left 1
  · intro w hSw; (try dsimp only at hSw); go_simp; try (with_reducible rfl)
  try simp only [Act.put, List.setIfInBounds_toArray, List.set_cons_zero, List.set_cons_succ]
  refine wpAnyH_take (i := 10) (oi := { dst := some 13, op := Op.move (Operand.tmp 0), type := 81, pos := "list.go:32", after := #[], guard := none }) (v := ?_) rfl (by kernel_rfl) (by kernel_rfl) (by kernel_rfl) (fun _ _ _ h => h) (Or.inl ⟨by rfl, ?_⟩) (by assumption) ?_
  rotate_left 1
  · intro w hSw; (try dsimp only at hSw); go_simp; try (with_reducible rfl)
  try simp only [Act.put, List.setIfInBounds_toArray, List.set_cons_zero, List.set_cons_succ]
  refine wpAnyH_take (i := 11) (oi := { dst := some 14, op := Op.nilCheck (Operand.tmp 13), type := 0, pos := "list.go:32", after := #[{ on := 10, ground := Ground.data }], guard := none }) (v := ?_) rfl (by kernel_rfl) (by kernel_rfl) (by kernel_rfl) (fun _ _ _ h => h) (Or.inl ⟨by rfl, ?_⟩) (by assumption) ?_
  rotate_left 1
  · intro w hSw; (try dsimp only at hSw); go_simp; try (with_reducible rfl)
  try simp only [Act.put, List.setIfInBounds_toArray, List.set_cons_zero, List.set_cons_succ]
  refine wpAnyH_take (i := 12) (oi := { dst := some 15, op := Op.fieldAddr 25 (Operand.tmp 14) 4, type := 0, pos := "list.go:32", after := #[{ on := 11, ground := Ground.data }], guard := none }) (v := ?_) rfl (by kernel_rfl) (by kernel_rfl) (by kernel_rfl) (fun _ _ _ h => h) (Or.inl ⟨by rfl, ?_⟩) (by assumption) ?_
  rotate_left 1
  · intro w hSw; (try dsimp only at hSw); go_simp; try (with_reducible rfl)
  try simp only [Act.put, List.setIfInBounds_toArray, List.set_cons_zero, List.set_cons_succ]
  refine wpAnyH_take (i := 13) (oi := { dst := some 16, op := Op.build 120 #[(0, Operand.tmp 15)], type := 120, pos := "list.go:32", after := #[{ on := 12, ground := Ground.data }], guard := none }) (v := ?_) rfl (by kernel_rfl) (by kernel_rfl) (by kernel_rfl) (fun _ _ _ h => h) (Or.inl ⟨by rfl, ?_⟩) (by assumption) ?_
  rotate_left 1
  · intro w hSw; (try dsimp only at hSw); go_simp; try (with_reducible rfl)
  try simp only [Act.put, List.setIfInBounds_toArray, List.set_cons_zero, List.set_cons_succ]
  refine wpAnyH_take (i := 14) (oi := { dst := some 17, op := Op.makeInterface 120 (Operand.tmp 16), type := 78, pos := "list.go:32", after := #[{ on := 13, ground := Ground.data }], guard := none }) (v := ?_) rfl (by kernel_rfl) (by kernel_rfl) (by kernel_rfl) (fun _ _ _ h => h) (Or.inl ⟨by rfl, ?_⟩) (by assumption) ?_
  rotate_left 1
  · intro w hSw; (try dsimp only at hSw); go_simp; try (with_reducible rfl)
  try simp only [Act.put, List.setIfInBounds_toArray, List.set_cons_zero, List.set_cons_succ]
  refine wpAnyH_take (i := 15) (oi := { dst := some 18, op := Op.move (Operand.tmp 0), type := 81, pos := "list.go:32", after := #[], guard := none }) (v := ?_) rfl (by kernel_rfl) (by kernel_rfl) (by kernel_rfl) (fun _ _ _ h => h) (Or.inl ⟨by rfl, ?_⟩) (by assumption) ?_
  rotate_left 1
  · intro w hSw; (try dsimp only at hSw); go_simp; try (with_reducible rfl)
  try simp only [Act.put, List.setIfInBounds_toArray, List.set_cons_zero, List.set_cons_succ]
  refine wpAnyH_take (i := 16) (oi := { dst := some 19, op := Op.nilCheck (Operand.tmp 18), type := 0, pos := "list.go:32", after := #[{ on := 15, ground := Ground.data }], guard := none }) (v := ?_) rfl (by kernel_rfl) (by kernel_rfl) (by kernel_rfl) (fun _ _ _ h => h) (Or.inl ⟨by rfl, ?_⟩) (by assumption) ?_
  rotate_left 1
  · intro w hSw; (try dsimp only at hSw); go_simp; try (with_reducible rfl)
  try simp only [Act.put, List.setIfInBounds_toArray, List.set_cons_zero, List.set_cons_succ]
  refine wpAnyH_take (i := 17) (oi := { dst := some 20, op := Op.fieldAddr 25 (Operand.tmp 19) 5, type := 0, pos := "list.go:32", after := #[{ on := 16, ground := Ground.data }], guard := none }) (v := ?_) rfl (by kernel_rfl) (by kernel_rfl) (by kernel_rfl) (fun _ _ _ h => h) (Or.inl ⟨by rfl, ?_⟩) (by assumption) ?_
  rotate_left 1
  · intro w hSw; (try dsimp only at hSw); go_simp; try (with_reducible rfl)
  try simp only [Act.put, List.setIfInBounds_toArray, List.set_cons_zero, List.set_cons_succ]
  refine wpAnyH_take (i := 18) (oi := { dst := some 21, op := Op.build 120 #[(0, Operand.tmp 20)], type := 120, pos := "list.go:32", after := #[{ on := 17, ground := Ground.data }], guard := none }) (v := ?_) rfl (by kernel_rfl) (by kernel_rfl) (by kernel_rfl) (fun _ _ _ h => h) (Or.inl ⟨by rfl, ?_⟩) (by assumption) ?_
  rotate_left 1
  · intro w hSw; (try dsimp only at hSw); go_simp; try (with_reducible rfl)
  try simp only [Act.put, List.setIfInBounds_toArray, List.set_cons_zero, List.set_cons_succ]
  refine wpAnyH_take (i := 19) (oi := { dst := some 22, op := Op.makeInterface 120 (Operand.tmp 21), type := 78, pos := "list.go:32", after := #[{ on := 18, ground := Ground.data }], guard := none }) (v := ?_) rfl (by kernel_rfl) (by kernel_rfl) (by kernel_rfl) (fun _ _ _ h => h) (Or.inl ⟨by rfl, ?_⟩) (by assumption) ?_
  rotate_left 1
  · intro w hSw; (try dsimp only at hSw); go_simp; try (with_reducible rfl)
  try simp only [Act.put, List.setIfInBounds_toArray, List.set_cons_zero, List.set_cons_succ]
  refine wpAnyH_take (i := 20) (oi := { dst := some 23, op := Op.build 79 #[(0, Operand.tmp 7), (1, Operand.tmp 12), (2, Operand.tmp 17), (3, Operand.tmp 22)], type := 79, pos := "list.go:32", after := #[{ on := 4, ground := Ground.data }, { on := 9, ground := Ground.data }, { on := 14, ground := Ground.data }, { on := 19, ground := Ground.data }], guard := none }) (v := ?_) rfl (by kernel_rfl) (by kernel_rfl) (by kernel_rfl) (fun _ _ _ h => h) (Or.inl ⟨by rfl, ?_⟩) (by assumption) ?_
  rotate_left 1
  · intro w hSw; (try dsimp only at hSw); go_simp; try (with_reducible rfl)
  try simp only [Act.put, List.setIfInBounds_toArray, List.set_cons_zero, List.set_cons_succ]
  refine wpAnyH_ready (rs := [21]) (by kernel_rfl) (by simp) ?_
  refine AllReadyH.cons (o := { dst := none, op := Op.store 79 (Operand.tmp 2) (Operand.tmp 23), type := 0, pos := "list.go:32", after := #[{ on := 20, ground := Ground.data }, { on := 0, ground := Ground.phase }, { on := 1, ground := Ground.phase }, { on := 2, ground := Ground.phase }, { on := 3, ground := Ground.phase }, { on := 4, ground := Ground.phase }, { on := 5, ground := Ground.phase }, { on := 6, ground := Ground.phase }, { on := 7, ground := Ground.phase }, { on := 8, ground := Ground.phase }, { on := 9, ground := Ground.phase }, { on := 10, ground := Ground.phase }, { on := 11, ground := Ground.phase }, { on := 12, ground := Ground.phase }, { on := 13, ground := Ground.phase }, { on := 14, ground := Ground.phase }, { on := 15, ground := Ground.phase }, { on := 16, ground := Ground.phase }, { on := 17, ground := Ground.phase }, { on := 18, ground := Ground.phase }, { on := 19, ground := Ground.phase }, { on := 20, ground := Ground.phase }], guard := none }) rfl (fun K hK => ?_) (AllReadyH.nil)
  go_simp
  refine hK.out _ _ trivial (fun hHeld => ?_)
  clear hK K
  try simp only [Act.put, List.setIfInBounds_toArray, List.set_cons_zero, List.set_cons_succ]
  refine wpAnyH_done (by kernel_rfl) ?_ _
  clear hHeld
  go_wp2_with fail
  have h4 := (((HX.out.set (o := 0) (by simp) (lq M)).set (o := 1) (by simp) (lr M 3)).set (o := 2) (by simp) (lr M 4)).set (o := 3) (by simp) (lr M 5)
  simp only [List.set_cons_zero, List.set_cons_succ] at h4
  have y0 := h4.c 0 (by simp)
  have y1 := h4.c 1 (by simp)
  have y2 := h4.c 2 (by simp)
  have y3 := h4.c 3 (by simp)
  simp only [List.getElem_cons_zero, List.getElem_cons_succ] at y0 y1 y2 y3
  clear h4 c0 c1 c2 c3 fz
  unfold lq lr at y0 y1 y2 y3
  refine bodyPost_ret (by simp [results, Tryz.results46, go_sem, y0, y1, y2, y3]; rfl) rfl ⟨rfl, ?_⟩
  rw [hg]
  have hb := HB.out
  rw [hg] at hb
  exact ((((hb.setCell (by simp) _).setCell (by simp) _).setCell (by simp) _).setCell (by simp) _).drew
end Go.Proofs.YteegekpanadmkaaGreat
