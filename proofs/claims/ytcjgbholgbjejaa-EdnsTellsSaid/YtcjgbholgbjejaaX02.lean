/-
  What was written and its reading: rows, round for round.
-/
import Derived.Test.YtcjgbholgbjejaaX01
import Derived.Maps.AppendAt
import Derived.Lib.FrozenHead
import Derived.Outline
import Derived.Laws.OwnMore
import Derived.BigRegion
import Derived.RegionTactic
import Derived.Recover
import Derived.Defers
import Derived.BigQuiet
import Derived.WalkLawsBesides
import Derived.Deep.LoopGhost
import Derived.Deep.RegionLaw
import Derived.Test.YtcjgbholgbjejaaX00
import Derived.Test.YtcjgbholgbjejaaShelf
import Derived.Laws.MakeOwn
import Derived.Deep.Slices
import Derived.ChangeArms
import Derived.Laws.StructEq
import Derived.Deep.RegionHeld3
import Derived.Laws.Bits128
namespace Go.Proofs.Ytcjgbholgbjejaa
open Go.RowKit Go.Shelf
set_option linter.unusedVariables false
set_option linter.unusedSimpArgs false
set_option maxRecDepth 100000

section
variable {w w' : World} {B B' : Nat} {e e' : TypeId} {k k' n n' : Nat} {v v' : Value} {xs ys : List Value} {G : Nat → Prop}
theorem row_aside (h : w.ownsRow B e k v n xs) (ha : Aside G w w') (hG : ∀ b, v.ownBlock = some b → ¬ G b) : w'.ownsRow B e k v n xs := by
  have hlt := World.ownsRow.lt h
  refine ⟨h.1, ?_⟩
  rcases h.2 with h2 | ⟨g, cap, cur, hv, hg, hh, r⟩
  · exact .inl h2
  · exact .inr ⟨g, cap, cur, hv, hg, (ha.block g (by subst hv; exact (hlt g rfl).2) (hG g (by rw [hv]; rfl))).trans hh, r⟩
theorem row_below (h : w.ownsRow B e k v n xs) (hb : Below w.heap.size w w') : w'.ownsRow B e k v n xs := row_aside (G := fun _ => False) h (Aside.of_all hb) fun _ _ h => h
theorem row_shape (h : w.ownsRow B e k v n xs) : ∃ a c, v = .slice a n c := by
  rcases h.2 with ⟨rfl, h0⟩ | ⟨g, cap, cur, rfl, _⟩
  · exact ⟨none, 0, by rw [h0]⟩
  · exact ⟨_, cap, rfl⟩
end

/-- v is a row of numbers of the call's own. -/
def OwnJ (w : World) (B : Nat) (v : Value) (l : List Nat) : Prop := w.ownsRow B 3 1 v l.length (iv l)
theorem OwnJ.at_ {w : World} {B : Nat} {v : Value} {l : List Nat} (h : OwnJ w B v l) (j : Nat) (hj : j < l.length) : ∃ g c, v = .slice (some ⟨g, 0, none⟩) l.length c ∧ w.cell? ⟨g, j, none⟩ = some (.int .i64 (l[j] : Int)) := by
  have hc := fun g hg => World.ownsRow.cells h (g := g) hg
  rcases h.2 with ⟨rfl, h0⟩ | ⟨g, cap, cur, rfl, _⟩
  · omega
  · have e1 := hc g rfl j (.int .i64 (l[j] : Int)) (by unfold iv; rw [List.getElem?_map, List.getElem?_eq_getElem hj]; rfl)
    rw [WideShapes.add_plain, Nat.zero_add] at e1
    exact ⟨g, cap, rfl, e1⟩
section
variable {w wr w' : World} {p bm B0 e : Nat} {v7 v8 v9 v10 : Value} {b : List UInt8} {q s : List Nat} {n : List AQ} {K : KK}

end

end Go.Proofs.Ytcjgbholgbjejaa

/-
  What is written is read as it was; plainly.
-/
namespace Go.Proofs.Ytcjgbholgbjejaa
open Go.RowKit Go.Shelf
set_option linter.unusedVariables false
set_option linter.unusedSimpArgs false
set_option maxRecDepth 100000

theorem getD_ahead (b c : List UInt8) (k : Nat) (h : k < b.length) : (iz (b ++ c)).getD k 0 = (iz b).getD k 0 := by
  rw [iz_app, List.getD, List.getD, List.getElem?_append_left (by rw [iz_len]; exact h)]
theorem at2_more {b : List UInt8} {i : Nat} (c : List UInt8) (h : i + 2 ≤ b.length) : nAt2 (iz (b ++ c)) i = nAt2 (iz b) i := by
  unfold nAt2
  rw [getD_ahead b c i (by omega), getD_ahead b c (i + 1) (by omega)]
theorem at4_more {b : List UInt8} {i : Nat} (c : List UInt8) (h : i + 4 ≤ b.length) : nAt4 (iz (b ++ c)) i = nAt4 (iz b) i := by
  unfold nAt4
  rw [getD_ahead b c i (by omega), getD_ahead b c (i + 1) (by omega), getD_ahead b c (i + 2) (by omega), getD_ahead b c (i + 3) (by omega)]

/-- A question stands at p; its name ends at i. -/
def LiesQ (b : List UInt8) (p : Nat) (x : Rc) (i : Nat) : Prop :=
  ∃ ls, Shorts ls ∧ x.n = nm ls ∧ StandE b p p ls i ∧ i + 4 ≤ b.length ∧ nAt2 (iz b) i = x.t ∧ nAt2 (iz b) (i + 2) = x.c

/-- A record stands from p up to en. -/
def LiesR (b : List UInt8) (p : Nat) (x : Rc) (i en : Nat) : Prop :=
  i + 10 ≤ b.length ∧ nAt4 (iz b) (i + 4) = x.l ∧ ∃ (m : Nat) (L : List Pc), nAt2 (iz b) (i + 8) = m ∧ m ≤ 65535 ∧ spl x.t x.d = .ok L ∧ Lies b (i + 10) L (i + 10 + m) ∧ en = i + 10 + m

theorem LiesQ.more {b : List UInt8} {p : Nat} {x : Rc} {i : Nat} (h : LiesQ b p x i) (c : List UInt8) : LiesQ (b ++ c) p x i := by
  obtain ⟨ls, h1, h2, h3, h4, h5, h6⟩ := h
  exact ⟨ls, h1, h2, h3.more c, by rw [List.length_append]; omega, by rw [at2_more c (by omega)]; exact h5, by rw [at2_more c (by omega)]; exact h6⟩
theorem LiesR.more {b : List UInt8} {p : Nat} {x : Rc} {i en : Nat} (h : LiesR b p x i en) (c : List UInt8) : LiesR (b ++ c) p x i en := by
  obtain ⟨h1, h2, m, L, h3, h4, h5, h6, h7⟩ := h
  exact ⟨by rw [List.length_append]; omega, by rw [at4_more c (by omega)]; exact h2, m, L, by rw [at2_more c (by omega)]; exact h3, h4, h5, h6.more c, h7⟩

end Go.Proofs.Ytcjgbholgbjejaa

/-
  Messages, plainly: whether one may be, its bytes, and that what is written stands.
-/
namespace Go.Proofs.Ytcjgbholgbjejaa
open Go.RowKit Go.Shelf
set_option linter.unusedVariables false
set_option linter.unusedSimpArgs false
set_option maxRecDepth 100000

/-- A question. -/
structure Qn where
  n : List UInt8
  t : Int
  c : Int

/-- What stands in a message, one behind the other: questions, records. -/
inductive It where
  | q (x : Qn)
  | r (x : Rc)

def Qn.rc (x : Qn) : Rc := ⟨x.n, x.t, x.c, 0, []⟩

/-- A message. -/
structure Ms where
  id : Int
  fl : Int
  q : List Qn
  an : List Rc
  ns : List Rc
  ar : List Rc

/-- All that stands in a message. -/
def Ms.its (m : Ms) : List It := m.q.map .q ++ (m.an.map .r ++ (m.ns.map .r ++ m.ar.map .r))

/-- One of these stands from p up to en. -/
def LiesI (b : List UInt8) (p : Nat) : It → Nat → Prop
  | .q x, en => ∃ i, LiesQ b p x.rc i ∧ en = i + 4
  | .r x, en => ∃ i, LiesQ b p x i ∧ LiesR b p x i en

inductive LiesIs (b : List UInt8) : Nat → List It → Nat → Prop
  | nil {p : Nat} : LiesIs b p [] p
  | cons {p q en : Nat} {it : It} {l : List It} (h : LiesI b p it q) (r : LiesIs b q l en) : LiesIs b p (it :: l) en

theorem LiesI.more {b : List UInt8} {p : Nat} {it : It} {en : Nat} (h : LiesI b p it en) (c : List UInt8) : LiesI (b ++ c) p it en := by
  cases it with
  | q x => obtain ⟨i, h1, h2⟩ := h; exact ⟨i, h1.more c, h2⟩
  | r x => obtain ⟨i, h1, h2⟩ := h; exact ⟨i, h1.more c, h2.more c⟩

theorem LiesIs.more {b : List UInt8} {p : Nat} {l : List It} {en : Nat} (h : LiesIs b p l en) (c : List UInt8) : LiesIs (b ++ c) p l en := by
  induction h with
  | nil => exact .nil
  | cons h _ ih => exact .cons (h.more c) ih

theorem LiesIs.app {b : List UInt8} : ∀ {l l' : List It} {p en : Nat}, LiesIs b p (l ++ l') en → ∃ q, LiesIs b p l q ∧ LiesIs b q l' en
  | [], l', p, en, h => ⟨p, .nil, h⟩
  | it :: l, l', p, en, h => by
    cases h with
    | cons h r =>
      obtain ⟨q, h1, h2⟩ := LiesIs.app r
      exact ⟨q, .cons h h1, h2⟩

end Go.Proofs.Ytcjgbholgbjejaa

/-
  Rows of cells in memory: what a slice reads as, and append of it to a row of the call's own.
-/
namespace Go.Proofs.Ytcjgbholgbjejaa
open Go.RowKit Go.Shelf
set_option linter.unusedVariables false
set_option linter.unusedSimpArgs false
set_option maxRecDepth 100000

section
variable {α : Type} {f : α → List Value} {k : Nat}
theorem flat_len (hf : ∀ x, (f x).length = k) (l : List α) : (l.flatMap f).length = l.length * k := by
  induction l with
  | nil => simp
  | cons x r ih => rw [List.flatMap_cons, List.length_append, ih, hf, List.length_cons, Nat.add_mul, Nat.one_mul, Nat.add_comm]
theorem flat_at (hf : ∀ x, (f x).length = k) : ∀ (l : List α) (j : Nat) (h : j < l.length) (i : Nat) (u : Value), (f l[j])[i]? = some u → (l.flatMap f)[j * k + i]? = some u
  | [], j, h, _, _, _ => by simp at h
  | x :: r, 0, h, i, u, hu => by
    have hi : i < k := by have := (List.getElem?_eq_some_iff.mp hu).1; simpa [hf] using this
    rw [List.flatMap_cons, Nat.zero_mul, Nat.zero_add, List.getElem?_append_left (by rw [hf]; exact hi)]
    exact hu
  | x :: r, j + 1, h, i, u, hu => by
    have ih := flat_at hf r j (by simpa using h) i u hu
    rw [List.flatMap_cons, List.getElem?_append_right (by rw [hf, Nat.add_mul]; omega)]
    rw [hf, show (j + 1) * k + i - k = j * k + i by rw [Nat.add_mul]; omega]
    exact ih
theorem flat_one (h1 : ∀ x, ∀ u ∈ f x, u.oneCell' = true) (l : List α) : ∀ u ∈ l.flatMap f, u.oneCell' = true := by
  intro u hu
  obtain ⟨x, _, hx⟩ := List.mem_flatMap.mp hu
  exact h1 x u hx
end

/-- The slice v, of n entries, reads as these cells; what it leads to lies in a block below hi. -/
def Lst (w : World) (hi : Nat) (v : Value) (n : Nat) (xs : List Value) : Prop :=
  ∃ a c, v = .slice a n c ∧ n ≤ 140737488351232 ∧ (a = none → n = 0 ∧ c = 0) ∧ (0 < n → ∃ b off, a = some ⟨b, off, none⟩ ∧ b < hi ∧ ∀ i u, xs[i]? = some u → w.cell? ⟨b, off + i, none⟩ = some u)

section
variable {w w' : World} {hi n : Nat} {v : Value} {xs : List Value}
theorem Lst.keep (h : Lst w hi v n xs) (hk : ∀ b o, b < hi → w'.cell? ⟨b, o, none⟩ = w.cell? ⟨b, o, none⟩) : Lst w' hi v n xs := by
  obtain ⟨a, c, rfl, hn, h0, hx⟩ := h
  refine ⟨a, c, rfl, hn, h0, fun hp => ?_⟩
  obtain ⟨b, off, rfl, h1, h2⟩ := hx hp
  exact ⟨b, off, rfl, h1, fun i u hu => (hk b _ h1).trans (h2 i u hu)⟩
theorem Lst.below {B : Nat} (h : Lst w hi v n xs) (hb : Below B w w') (hB : hi ≤ B) : Lst w' hi v n xs :=
  h.keep fun b o h1 => hb.cell (p := ⟨b, o, none⟩) (Nat.lt_of_lt_of_le h1 hB)
theorem Lst.wide {hi' : Nat} (h : Lst w hi v n xs) (hh : hi ≤ hi') : Lst w hi' v n xs := by
  obtain ⟨a, c, rfl, hn, h0, hx⟩ := h
  refine ⟨a, c, rfl, hn, h0, fun hp => ?_⟩
  obtain ⟨b, off, rfl, h1, h2⟩ := hx hp
  exact ⟨b, off, rfl, Nat.lt_of_lt_of_le h1 hh, h2⟩
theorem Lst.later (h : Lst w w.heap.size v n xs) (hb : Below w.heap.size w w') : Lst w' w'.heap.size v n xs := (h.below hb (Nat.le_refl _)).wide hb.size
theorem Lst.shape (h : Lst w hi v n xs) : ∃ a c, v = .slice a n c := by obtain ⟨a, c, rfl, _⟩ := h; exact ⟨a, c, rfl⟩
theorem Lst.len (h : Lst w hi v n xs) : n ≤ 140737488351232 := by obtain ⟨_, _, _, hn, _⟩ := h; exact hn
theorem Lst.nil (w : World) (hi : Nat) : Lst w hi (.slice none 0 0) 0 [] := ⟨none, 0, rfl, by omega, fun _ => ⟨rfl, rfl⟩, fun h => by omega⟩
theorem Lst.own {B k : Nat} {e : TypeId} (h : w.ownsRow B e k v n xs) (hn : n ≤ 1000000) : Lst w w.heap.size v n xs := by
  have hc := fun g hg => World.ownsRow.cells h (g := g) hg
  have hl := fun b hb => (World.ownsRow.lt h b hb).2
  rcases h.2 with ⟨rfl, h0⟩ | ⟨g, cap, cur, rfl, _⟩
  · subst h0
    exact ⟨none, 0, rfl, by omega, fun _ => ⟨rfl, rfl⟩, fun h => by omega⟩
  · refine ⟨_, cap, rfl, by omega, fun h => by simp at h, fun _ => ⟨g, 0, rfl, hl g rfl, fun i u hu => ?_⟩⟩
    have := hc g rfl i u hu
    rwa [WideShapes.add_plain] at this
/-- A shorter part of a row. -/
theorem Lst.part {m c : Nat} {a : Option Addr} {ys : List Value} (h : Lst w hi (.slice a n c) n (ys ++ xs)) (hm : m ≤ n) : Lst w hi (.slice a m c) m ys := by
  obtain ⟨a', c', he, hn, h0, hx⟩ := h
  injection he with e1 e2 e3
  subst e1; subst e3
  refine ⟨_, _, rfl, by omega, fun h => ⟨by have := (h0 h).1; omega, (h0 h).2⟩, fun hp => ?_⟩
  obtain ⟨b, off, h1, h2, h3⟩ := hx (by omega)
  exact ⟨b, off, h1, h2, fun i u hu => h3 i u (by rw [List.getElem?_append_left (List.getElem?_eq_some_iff.mp hu).1]; exact hu)⟩
end

/-- append of what a slice reads as to a row of the call's own. -/
theorem row_more {w : World} {B hi n m k : Nat} {t ty e : TypeId} {i : TypeInfo} {z v u : Value} {xs ys : List Value} (bytes : Nat) (ht : Try.prog.underlying t = some (.slice e)) (hti : Try.prog.info? e = some i) (hz : i.zero = some z)
    (hsize : i.size = k) (hby : i.bytes = bytes) (hzs : z.cells.size = k) (hk : 0 < k) (hb1 : bytes ≤ 1000)
    (hown : w.ownsRow B e k v n xs) (hx : Lst w hi u m ys) (hl : ys.length = m * k) (h1 : ∀ u ∈ ys, u.oneCell' = true) (hnm : n + m ≤ 1000000) (hB : B ≤ w.heap.size) :
    ∃ a' c' w', (Builtin.append_ #[t, t] ty #[v, u]).run Try.prog w = .ok (.slice a' (n + m) c') w' ∧ w'.ownsRow B e k (.slice a' (n + m) c') (n + m) (xs ++ ys) ∧ Aside (fun b => v.ownBlock = some b) w w' ∧
      ((Value.slice a' (n + m) c').ownBlock = v.ownBlock ∨ (Value.slice a' (n + m) c').ownBlock = some w.heap.size) := by
  obtain ⟨a, c, rfl, _, h0, hx⟩ := hx
  cases a with
  | none =>
    obtain ⟨hm0, hc⟩ := h0 rfl
    subst hm0; subst hc
    have hy : ys = [] := by rw [Nat.zero_mul] at hl; exact List.length_eq_zero_iff.mp hl
    subst hy
    have hr := run_append_owned_none (P := Try.prog) (w := w) B t ty e i k ht hti v n xs hown
    obtain ⟨a', c', rfl⟩ := row_shape hown
    exact ⟨a', c', w, by rw [Nat.add_zero]; exact hr, by rw [Nat.add_zero, List.append_nil]; exact hown, Aside.refl _ _, .inl rfl⟩
  | some a =>
    have hnews : ∀ j u, ys[j]? = some u → w.cell? (a.add j) = some u := by
      intro j u hu
      have hp : 0 < m := by
        rcases Nat.eq_zero_or_pos m with h | h
        · subst h; rw [Nat.zero_mul] at hl; rw [List.length_eq_zero_iff.mp hl] at hu; simp at hu
        · exact h
      obtain ⟨b, off, h2, _, h3⟩ := hx hp
      injection h2 with h2
      subst h2
      rw [WideShapes.add_plain]
      exact h3 j u hu
    have hbb : (n + m) * bytes ≤ 140737488355328 := Nat.le_trans (Nat.mul_le_mul hnm hb1) (by decide)
    obtain ⟨v', w', r1, r2, r3, _, r5⟩ := run_append_own_at (P := Try.prog) (w := w) B t ty e i z k bytes ht hti hz hsize hby hzs hk v n xs hown a m c ys hl hnews h1 (by unfold maxLen; omega) hbb hB
    obtain ⟨a', c', hv⟩ := row_shape r2
    subst hv
    exact ⟨a', c', w', r1, r2, Aside.grown r3 fun _ h => h, r5⟩
end Go.Proofs.Ytcjgbholgbjejaa

/-
  Acts that came in: records, whether they are asked alone, places.
-/
namespace Go.Proofs.Ytcjgbholgbjejaa
open Go.RowKit Go.Shelf
set_option linter.unusedVariables false
set_option linter.unusedSimpArgs false
set_option maxRecDepth 100000

/-- The cells of a record. -/
def AtR (w : World) (b o : Nat) (x : Rc) : Prop :=
  w.cell? ⟨b, o, none⟩ = some (.string (bs x.n)) ∧ w.cell? ⟨b, o + 1, none⟩ = some (.int .i64 x.t) ∧ w.cell? ⟨b, o + 2, none⟩ = some (.int .i64 x.c) ∧ w.cell? ⟨b, o + 3, none⟩ = some (.int .i64 x.l) ∧ w.cell? ⟨b, o + 4, none⟩ = some (.string (bs x.d))

theorem AtR.keep {w w' : World} {b o : Nat} {x : Rc} (h : AtR w b o x) (hk : ∀ o, w'.cell? ⟨b, o, none⟩ = w.cell? ⟨b, o, none⟩) : AtR w' b o x :=
  ⟨(hk _).trans h.1, (hk _).trans h.2.1, (hk _).trans h.2.2.1, (hk _).trans h.2.2.2.1, (hk _).trans h.2.2.2.2⟩

/-- A record, whether its question alone is asked, whether the place is one as it is, the place. -/
structure AR where
  x : Rc
  k : Bool
  r : Bool
  a : Int

/-- The cells of an act. -/
def AtA (w : World) (b o : Nat) (y : AR) : Prop :=
  AtR w b o y.x ∧ w.cell? ⟨b, o + 5, none⟩ = some (.bool y.k) ∧ w.cell? ⟨b, o + 6, none⟩ = some (.bool y.r) ∧ w.cell? ⟨b, o + 7, none⟩ = some (.int .i64 y.a)

/-- The slice v reads as these acts; what it leads to lies in blocks below hi. -/
def Ar (w : World) (hi : Nat) (v : Value) (l : List AR) : Prop :=
  ∃ a c, v = .slice a l.length c ∧ (0 < l.length → ∃ b off, a = some ⟨b, off, none⟩ ∧ b < hi ∧ ∀ j (h : j < l.length), AtA w b (off + j * 8) l[j])

theorem AtA.keep {w w' : World} {b o : Nat} {y : AR} (h : AtA w b o y) (hk : ∀ o, w'.cell? ⟨b, o, none⟩ = w.cell? ⟨b, o, none⟩) : AtA w' b o y :=
  ⟨h.1.keep hk, (hk _).trans h.2.1, (hk _).trans h.2.2.1, (hk _).trans h.2.2.2⟩

theorem Ar.below {w w' : World} {hi B : Nat} {v : Value} {l : List AR} (h : Ar w hi v l) (hb : Below B w w') (hB : hi ≤ B) : Ar w' hi v l := by
  obtain ⟨a, c, rfl, hx⟩ := h
  refine ⟨a, c, rfl, fun h0 => ?_⟩
  obtain ⟨b, off, rfl, h1, h2⟩ := hx h0
  exact ⟨b, off, rfl, h1, fun j hj => (h2 j hj).keep fun o => hb.cell (p := ⟨b, o, none⟩) (Nat.lt_of_lt_of_le h1 hB)⟩

theorem cells_rec : Try.prog.cellsOf 48 = 5 := by kernel_rfl
theorem cellsC_str : Try.prog.cellsOf 9 = 1 := by kernel_rfl
theorem cellsC_int : Try.prog.cellsOf 3 = 1 := by kernel_rfl
/-- What a record's cells are. -/
theorem open_rec {H : Type} {enc : TypeId × Value → H} {w : World} {base fuel : Nat} {spare : Nat → Bool} {held : Bool} {cs : List Value} {x : DataW H × List MemPlace}
    (h : DataW.trod enc Try.prog w base spare held fuel 48 cs = some x) (hl : cs.length = 5) : ∃ (s : ByteArray) (t c l : Int) (d : ByteArray), cs = [.string s, .int .i64 t, .int .i64 c, .int .i64 l, .string d] := by
  cases fuel with
  | zero => simp [DataW.trod] at h
  | succ fuel =>
    obtain ⟨xs, k, _, _, _, h9, h10⟩ := DataW.trod_struct Try.underlying48 h
    match cs, hl with
    | [v0, v1, v2, v3, v4], _ =>
      have g0 := h10 0 _ rfl
      have g1 := h10 1 _ rfl
      have g2 := h10 2 _ rfl
      have g3 := h10 3 _ rfl
      have g4 := h10 4 _ rfl
      match xs, h9 with
      | [y0, y1, y2, y3, y4], _ =>
        simp [cellsC_str, cellsC_int] at g0 g1 g2 g3 g4
        obtain ⟨s, k0, _, _⟩ := DataW.trod_string Try.underlying9 g0
        obtain ⟨t, k1, _, _⟩ := DataW.trod_int Try.underlying3 g1
        obtain ⟨c, k2, _, _⟩ := DataW.trod_int Try.underlying3 g2
        obtain ⟨l, k3, _, _⟩ := DataW.trod_int Try.underlying3 g3
        obtain ⟨d, k4, _, _⟩ := DataW.trod_string Try.underlying9 g4
        injection k0 with k0 _
        injection k1 with k1 _
        injection k2 with k2 _
        injection k3 with k3 _
        injection k4 with k4 _
        subst k0; subst k1; subst k2; subst k3; subst k4
        exact ⟨s, t, c, l, d, rfl⟩

end Go.Proofs.Ytcjgbholgbjejaa

/-
  Questions, records, messages in memory; the same ones are told the same.
-/
namespace Go.Proofs.Ytcjgbholgbjejaa
open Go.RowKit Go.Shelf
set_option linter.unusedVariables false
set_option linter.unusedSimpArgs false
set_option maxRecDepth 100000

/-- The cells of a question. -/
def cq (x : Qn) : List Value := [.string (bs x.n), .int .i64 x.t, .int .i64 x.c]
/-- The cells of a record. -/
def cr (x : Rc) : List Value := [.string (bs x.n), .int .i64 x.t, .int .i64 x.c, .int .i64 x.l, .string (bs x.d)]
def acq (l : List Qn) : List Value := l.flatMap cq
def acr (l : List Rc) : List Value := l.flatMap cr
theorem acq_len (l : List Qn) : (acq l).length = l.length * 3 := flat_len (f := cq) (k := 3) (fun _ => rfl) l
theorem acr_len (l : List Rc) : (acr l).length = l.length * 5 := flat_len (f := cr) (k := 5) (fun _ => rfl) l
theorem acq_app (l m : List Qn) : acq (l ++ m) = acq l ++ acq m := List.flatMap_append
theorem acr_app (l m : List Rc) : acr (l ++ m) = acr l ++ acr m := List.flatMap_append
theorem acq_one (l : List Qn) : ∀ u ∈ acq l, u.oneCell' = true := flat_one (fun x u hu => by
  simp only [cq, List.mem_cons, List.mem_nil_iff, or_false] at hu
  rcases hu with rfl | rfl | rfl <;> rfl) l
theorem acr_one (l : List Rc) : ∀ u ∈ acr l, u.oneCell' = true := flat_one (fun x u hu => by
  simp only [cr, List.mem_cons, List.mem_nil_iff, or_false] at hu
  rcases hu with rfl | rfl | rfl | rfl | rfl <;> rfl) l

/-- The cells of a question stand at a place. -/
def AtQn (w : World) (b o : Nat) (x : Qn) : Prop := w.cell? ⟨b, o, none⟩ = some (.string (bs x.n)) ∧ w.cell? ⟨b, o + 1, none⟩ = some (.int .i64 x.t) ∧ w.cell? ⟨b, o + 2, none⟩ = some (.int .i64 x.c)
theorem AtQn.keep {w w' : World} {b o : Nat} {x : Qn} (h : AtQn w b o x) (hk : ∀ o, w'.cell? ⟨b, o, none⟩ = w.cell? ⟨b, o, none⟩) : AtQn w' b o x := ⟨(hk _).trans h.1, (hk _).trans h.2.1, (hk _).trans h.2.2⟩

/-- The slice v reads as these questions. -/
def SQ (w : World) (hi : Nat) (v : Value) (l : List Qn) : Prop := Lst w hi v l.length (acq l)
/-- The slice v reads as these records. -/
def SR (w : World) (hi : Nat) (v : Value) (l : List Rc) : Prop := Lst w hi v l.length (acr l)
/-- A row of questions of the call's own. -/
def OwnQn (w : World) (B : Nat) (v : Value) (l : List Qn) : Prop := w.ownsRow B 50 3 v l.length (acq l)
/-- A row of records of the call's own. -/
def OwnRc (w : World) (B : Nat) (v : Value) (l : List Rc) : Prop := w.ownsRow B 48 5 v l.length (acr l)

theorem SQ.at_ {w : World} {hi : Nat} {v : Value} {l : List Qn} (h : SQ w hi v l) (j : Nat) (hj : j < l.length) : ∃ b off c, v = .slice (some ⟨b, off, none⟩) l.length c ∧ b < hi ∧ AtQn w b (off + j * 3) l[j] := by
  obtain ⟨a, c, rfl, _, _, hx⟩ := h
  obtain ⟨b, off, rfl, h1, h2⟩ := hx (by omega)
  have e := fun i u hu => h2 _ _ (flat_at (f := cq) (k := 3) (fun _ => rfl) l j hj i u hu)
  simp only [← Nat.add_assoc] at e
  exact ⟨b, off, c, rfl, h1, e 0 _ rfl, e 1 _ rfl, e 2 _ rfl⟩
theorem SR.at_ {w : World} {hi : Nat} {v : Value} {l : List Rc} (h : SR w hi v l) (j : Nat) (hj : j < l.length) : ∃ b off c, v = .slice (some ⟨b, off, none⟩) l.length c ∧ b < hi ∧ AtR w b (off + j * 5) l[j] := by
  obtain ⟨a, c, rfl, _, _, hx⟩ := h
  obtain ⟨b, off, rfl, h1, h2⟩ := hx (by omega)
  have e := fun i u hu => h2 _ _ (flat_at (f := cr) (k := 5) (fun _ => rfl) l j hj i u hu)
  simp only [← Nat.add_assoc] at e
  exact ⟨b, off, c, rfl, h1, e 0 _ rfl, e 1 _ rfl, e 2 _ rfl, e 3 _ rfl, e 4 _ rfl⟩

/-- The value v reads as this message. -/
def Mg (w : World) (hi : Nat) (v : Value) (m : Ms) : Prop := ∃ q a n r, v = .agg #[.int .i64 m.id, .int .i64 m.fl, q, a, n, r] ∧ SQ w hi q m.q ∧ SR w hi a m.an ∧ SR w hi n m.ns ∧ SR w hi r m.ar
theorem Mg.below {w w' : World} {hi B : Nat} {v : Value} {m : Ms} (h : Mg w hi v m) (hb : Below B w w') (hB : hi ≤ B) : Mg w' hi v m := by
  obtain ⟨q, a, n, r, rfl, h1, h2, h3, h4⟩ := h
  exact ⟨q, a, n, r, rfl, Lst.below h1 hb hB, Lst.below h2 hb hB, Lst.below h3 hb hB, Lst.below h4 hb hB⟩
theorem Mg.wide {w : World} {hi hi' : Nat} {v : Value} {m : Ms} (h : Mg w hi v m) (hh : hi ≤ hi') : Mg w hi' v m := by
  obtain ⟨q, a, n, r, rfl, h1, h2, h3, h4⟩ := h
  exact ⟨q, a, n, r, rfl, Lst.wide h1 hh, Lst.wide h2 hh, Lst.wide h3 hh, Lst.wide h4 hh⟩
theorem Mg.later {w w' : World} {v : Value} {m : Ms} (h : Mg w w.heap.size v m) (hb : Below w.heap.size w w') : Mg w' w'.heap.size v m := (h.below hb (Nat.le_refl _)).wide hb.size

theorem neqQ (x : Qn) (w : World) : (binOp .neq 50 (.agg #[.string (bs x.n), .int .i64 x.t, .int .i64 x.c]) (.agg #[.string (bs x.n), .int .i64 x.t, .int .i64 x.c])).run Try.prog w = .ok (.bool false) w := by
  have hS : Try.prog.underlying 50 = some (.struct (Try.prog.fieldsOf 50)) := by kernel_rfl
  have hI : Try.prog.stoodInHeld 50 = false := by kernel_rfl
  have u3 := Try.underlying3
  have u9 := Try.underlying9
  have a3 := Try.isAgg3
  have z3 := Try.sizeOf3
  have a9 := Try.isAgg9
  have z9 := Try.sizeOf9
  rw [run_neq_struct, run_equalIn_agg _ _ _ _ _ hS hI]
  simp only [Program.fieldsOf, Try.underlying50]
  go_simp
theorem neqR (x : Rc) (w : World) : (binOp .neq 48 (.agg #[.string (bs x.n), .int .i64 x.t, .int .i64 x.c, .int .i64 x.l, .string (bs x.d)]) (.agg #[.string (bs x.n), .int .i64 x.t, .int .i64 x.c, .int .i64 x.l, .string (bs x.d)])).run Try.prog w = .ok (.bool false) w := by
  have hS : Try.prog.underlying 48 = some (.struct (Try.prog.fieldsOf 48)) := by kernel_rfl
  have hI : Try.prog.stoodInHeld 48 = false := by kernel_rfl
  have u3 := Try.underlying3
  have u9 := Try.underlying9
  have a3 := Try.isAgg3
  have z3 := Try.sizeOf3
  have a9 := Try.isAgg9
  have z9 := Try.sizeOf9
  rw [run_neq_struct, run_equalIn_agg _ _ _ _ _ hS hI]
  simp only [Program.fieldsOf, Try.underlying48]
  go_simp
end Go.Proofs.Ytcjgbholgbjejaa

/-
  What a message says besides, plainly: options as bytes and back, what is told of a message, what is put into it, what is left of it.
-/
namespace Go.Proofs.Ytcjgbholgbjejaa
open Go.RowKit Go.Shelf
set_option linter.unusedVariables false
set_option linter.unusedSimpArgs false
set_option maxRecDepth 100000

/-- An option: its code, its data. -/
structure Ot where
  c : Int
  d : List UInt8
/-- What is said besides: how many bytes, the code's upper part, a version, a flag, options. -/
structure Ed where
  s : Int
  x : Int
  v : Int
  b : Bool
  o : List Ot
def ed0 : Ed := ⟨0, 0, 0, false, []⟩

/-! ### options as bytes, and back -/

def b2 (n : Int) : List UInt8 := [UInt8.ofNat (n / 256).toNat, UInt8.ofNat (n % 256).toNat]
/-- An option's bytes. -/
def otB (x : Ot) : List UInt8 := b2 x.c ++ (b2 x.d.length ++ x.d)
def otsB (l : List Ot) : List UInt8 := l.flatMap otB
/-- The number of two bytes. -/
def n2 (b : List UInt8) (p : Nat) : Nat := (b.getD p 0).toNat * 256 + (b.getD (p + 1) 0).toNat
/-- How an option at a place is read: what it is, and where it ends; or where there is too little. -/
inductive OtR where
  | ok (x : Ot) (q : Nat)
  | bad (a : Nat)
def otR (b : List UInt8) (p : Nat) : OtR :=
  if b.length < p + 4 then .bad b.length
  else if b.length < p + 4 + n2 b (p + 2) then .bad b.length
  else .ok ⟨n2 b p, (b.drop (p + 4)).take (n2 b (p + 2))⟩ (p + 4 + n2 b (p + 2))
/-- The options from a place on; and whether they end in a fault. -/
def otsR (b : List UInt8) : Nat → Nat → List Ot × Bool
  | 0, _ => ([], true)
  | n + 1, p =>
    if b.length ≤ p then ([], true) else
      match otR b p with
      | .bad _ => ([], false)
      | .ok x q => (x :: (otsR b n q).1, (otsR b n q).2)

theorem otR_lt {b : List UInt8} {p : Nat} {x : Ot} {q : Nat} (h : otR b p = .ok x q) : p + 4 ≤ q ∧ q ≤ b.length := by
  unfold otR at h
  split at h
  · cases h
  · split at h
    · cases h
    · injection h with h1 h2
      omega

/-! ### records -/

def isO (x : Rc) : Bool := decide (x.t = 41)
def opL (l : List Rc) : List Rc := l.filter isO
def noL (l : List Rc) : List Rc := l.filter fun x => !isO x
/-- What a record of the type says: what, and the error. -/
def recR (x : Rc) : Ed × Int :=
  if x.n = [0] ∧ (0 ≤ x.c ∧ x.c ≤ 65535) ∧ (0 ≤ x.l ∧ x.l ≤ 2147483647) ∧ (otsR x.d x.d.length 0).2 = true then
    (⟨x.c, x.l / 16777216, x.l / 65536 % 256, decide (x.l / 32768 % 2 = 1), (otsR x.d x.d.length 0).1⟩, 0)
  else (ed0, 4)
/-- What a message says besides: what; whether; the error. -/
def ofM (m : Ms) : Ed × Bool × Int :=
  if (opL m.an).length + (opL m.ns).length = 0 ∧ opL m.ar = [] then (ed0, false, 0)
  else match (opL m.an).length + (opL m.ns).length, opL m.ar with
    | 0, [x] => ((recR x).1, decide ((recR x).2 = 0), (recR x).2)
    | _, _ => (ed0, false, 4)
/-- A message without that. -/
def stM (m : Ms) : Ms := ⟨m.id, m.fl, m.q, noL m.an, noL m.ns, noL m.ar⟩
/-- The record of what is said. -/
def edR (e : Ed) : Rc := ⟨[0], 41, e.s, e.x * 16777216 + e.v * 65536 + (if e.b then 32768 else 0), otsB e.o⟩
/-- May it be said? -/
def bnd (n m : Int) : Bool := decide (0 ≤ n) && decide (n ≤ m)
def szO (l : List Ot) : Nat := (l.map fun x => 4 + x.d.length).sum
def chkE (e : Ed) : Int :=
  if bnd e.s 65535 = true ∧ bnd e.x 127 = true ∧ bnd e.v 255 = true ∧ (e.o.all fun x => bnd x.c 65535) = true then (if 65535 < szO e.o then 2 else 0) else 5
/-- A message that says it. -/
def adM (m : Ms) (e : Ed) : Ms := ⟨m.id, m.fl, m.q, m.an, m.ns, m.ar ++ [edR e]⟩
def puM (m : Ms) (e : Ed) : Ms × Int :=
  if chkE e ≠ 0 then (⟨0, 0, [], [], [], []⟩, chkE e)
  else if 0 < (opL m.an).length + (opL m.ns).length + (opL m.ar).length then (⟨0, 0, [], [], [], []⟩, 7)
  else (adM m e, 0)
def codM (m : Ms) : Int := m.fl % 16 + 16 * (ofM m).1.x
def roM (m : Ms) : Int := if 512 ≤ (ofM m).1.s then (ofM m).1.s else 512

/-! ### in memory -/

/-- The cells of an option. -/
def co (x : Ot) : List Value := [.int .i64 x.c, .string (bs x.d)]
def aco (l : List Ot) : List Value := l.flatMap co
theorem aco_len (l : List Ot) : (aco l).length = l.length * 2 := flat_len (f := co) (k := 2) (fun _ => rfl) l
theorem aco_app (l m : List Ot) : aco (l ++ m) = aco l ++ aco m := List.flatMap_append
theorem aco_one (l : List Ot) : ∀ u ∈ aco l, u.oneCell' = true := flat_one (fun x u hu => by
  simp only [co, List.mem_cons, List.mem_nil_iff, or_false] at hu
  rcases hu with rfl | rfl <;> rfl) l
def AtO (w : World) (b o : Nat) (x : Ot) : Prop := w.cell? ⟨b, o, none⟩ = some (.int .i64 x.c) ∧ w.cell? ⟨b, o + 1, none⟩ = some (.string (bs x.d))
theorem AtO.keep {w w' : World} {b o : Nat} {x : Ot} (h : AtO w b o x) (hk : ∀ o, w'.cell? ⟨b, o, none⟩ = w.cell? ⟨b, o, none⟩) : AtO w' b o x := ⟨(hk _).trans h.1, (hk _).trans h.2⟩
/-- The slice v reads as these options. -/
def SO (w : World) (hi : Nat) (v : Value) (l : List Ot) : Prop := Lst w hi v l.length (aco l)
/-- A row of options of the call's own. -/
def OwnO (w : World) (B : Nat) (v : Value) (l : List Ot) : Prop := w.ownsRow B 61 2 v l.length (aco l)
theorem SO.at_ {w : World} {hi : Nat} {v : Value} {l : List Ot} (h : SO w hi v l) (j : Nat) (hj : j < l.length) : ∃ b off c, v = .slice (some ⟨b, off, none⟩) l.length c ∧ b < hi ∧ AtO w b (off + j * 2) l[j] := by
  obtain ⟨a, c, rfl, _, _, hx⟩ := h
  obtain ⟨b, off, rfl, h1, h2⟩ := hx (by omega)
  have e := fun i u hu => h2 _ _ (flat_at (f := co) (k := 2) (fun _ => rfl) l j hj i u hu)
  simp only [← Nat.add_assoc] at e
  exact ⟨b, off, c, rfl, h1, e 0 _ rfl, e 1 _ rfl⟩
/-- The value v reads as what is said besides. -/
def Eg (w : World) (hi : Nat) (v : Value) (e : Ed) : Prop := ∃ o, v = .agg #[.int .i64 e.s, .int .i64 e.x, .int .i64 e.v, .bool e.b, o] ∧ SO w hi o e.o
theorem Eg.below {w w' : World} {hi B : Nat} {v : Value} {e : Ed} (h : Eg w hi v e) (hb : Below B w w') (hB : hi ≤ B) : Eg w' hi v e := by
  obtain ⟨o, rfl, h1⟩ := h
  exact ⟨o, rfl, Lst.below h1 hb hB⟩
theorem Eg.wide {w : World} {hi hi' : Nat} {v : Value} {e : Ed} (h : Eg w hi v e) (hh : hi ≤ hi') : Eg w hi' v e := by
  obtain ⟨o, rfl, h1⟩ := h
  exact ⟨o, rfl, Lst.wide h1 hh⟩
theorem Eg.later {w w' : World} {v : Value} {e : Ed} (h : Eg w w.heap.size v e) (hb : Below w.heap.size w w') : Eg w' w'.heap.size v e := (h.below hb (Nat.le_refl _)).wide hb.size
/-- The value v is what is said besides, its options in a row of the call's own. -/
def Egw (w : World) (B : Nat) (v : Value) (e : Ed) : Prop := ∃ o, v = .agg #[.int .i64 e.s, .int .i64 e.x, .int .i64 e.v, .bool e.b, o] ∧ OwnO w B o e.o
theorem Egw.eg {w : World} {B : Nat} {v : Value} {e : Ed} (h : Egw w B v e) (hl : e.o.length ≤ 1000000) : Eg w w.heap.size v e := by
  obtain ⟨o, rfl, h1⟩ := h
  exact ⟨o, rfl, Lst.own h1 hl⟩
theorem Egw.aside {G : Nat → Prop} {w w' : World} {B : Nat} {v : Value} {e : Ed} (h : Egw w B v e) (ha : Aside G w w') (hG : ∀ k, B ≤ k → ¬ G k) : Egw w' B v e := by
  obtain ⟨o, rfl, h1⟩ := h
  exact ⟨o, rfl, row_aside h1 ha fun k hk => hG k (World.ownsRow.lt h1 k hk).1⟩
theorem Egw.below {w w' : World} {B : Nat} {v : Value} {e : Ed} (h : Egw w B v e) (hb : Below w.heap.size w w') : Egw w' B v e := h.aside (Aside.of_all hb : Aside (fun _ => False) w w') fun _ _ h => h
theorem Egw.base {w : World} {B B' : Nat} {v : Value} {e : Ed} (h : Egw w B v e) (hB : B' ≤ B) : Egw w B' v e := by
  obtain ⟨o, rfl, h1⟩ := h
  refine ⟨o, rfl, h1.1, ?_⟩
  rcases h1.2 with h2 | ⟨g, cap, cur, h2⟩
  · exact .inl h2
  · exact .inr ⟨g, cap, cur, h2.1, Nat.le_trans hB h2.2.1, h2.2.2⟩
theorem egw_zero (w : World) (B : Nat) : Egw w B (.agg #[.int .i64 0, .int .i64 0, .int .i64 0, .bool false, .slice none 0 0]) ed0 := ⟨_, rfl, World.ownsRow_nil _ _ _ _⟩

theorem neqO (x : Ot) (w : World) : (binOp .neq 61 (.agg #[.int .i64 x.c, .string (bs x.d)]) (.agg #[.int .i64 x.c, .string (bs x.d)])).run Try.prog w = .ok (.bool false) w := by
  have hS : Try.prog.underlying 61 = some (.struct (Try.prog.fieldsOf 61)) := by kernel_rfl
  have hI : Try.prog.stoodInHeld 61 = false := by kernel_rfl
  have u3 := Try.underlying3
  have u9 := Try.underlying9
  have a3 := Try.isAgg3
  have z3 := Try.sizeOf3
  have a9 := Try.isAgg9
  have z9 := Try.sizeOf9
  rw [run_neq_struct, run_equalIn_agg _ _ _ _ _ hS hI]
  simp only [Program.fieldsOf, Try.underlying61]
  go_simp

theorem info_ot : (Try.prog.info? 61).map (fun i => (i.zero, i.size, i.bytes)) = some (some (.agg #[.int .i64 0, .string ⟨#[]⟩]), 2, 24) := by kernel_rfl
end Go.Proofs.Ytcjgbholgbjejaa

/-
  Two readings of the same message are told the same.
-/
namespace Go.Proofs.Ytcjgbholgbjejaa
open Go.RowKit Go.Shelf
set_option linter.unusedVariables false
set_option linter.unusedSimpArgs false
set_option maxRecDepth 100000

set_option maxHeartbeats 1000000 in
theorem sameQ_yes {w : World} {hi hi' : Nat} {u v : Value} {l : List Qn} (h : SQ w hi u l) (h' : SQ w hi' v l) (h1 : hi ≤ w.heap.size) (h2 : hi' ≤ w.heap.size) :
    Calls Try.prog 39 #[u, v] w (Tells w (.bool true)) := by
  have HN := Lib.hid (Lst.len h)
  have HS := Lib.hid h
  have HS' := Lib.hid h'
  obtain ⟨a, c, rfl⟩ := Lst.shape h
  obtain ⟨a', c', rfl⟩ := Lst.shape h'
  have HB0 := Lib.hid (Below.refl w.heap.size w)
  clear h h'
  go_enter Try.func39, Try.ntmps39
  go_wp2
  go_loopg [5] l.length (fun g v5 wr => ∃ k : Nat, k + g = l.length ∧ v5 = .int .i64 k ∧ Hid (Below w.heap.size w wr))
  case atStart => exact ⟨0, by omega, rfl, HB0⟩
  case round =>
    clear HB0
    obtain ⟨k, hk, rfl, HB⟩ := hrel
    have hlen := HN.out
    by_cases hlt : k < l.length
    · obtain ⟨b, off, c2, he, hb, hc⟩ := HS.out.at_ k hlt
      obtain ⟨b', off', c2', he', hb', hc'⟩ := HS'.out.at_ k hlt
      injection he with he hn3 hc3
      injection he' with he' hn3' hc3'
      clear hn3 hc3 hn3' hc3'
      subst he; subst he'
      obtain ⟨c0, c1, c2⟩ := hc.keep fun o => HB.out.cell (p := ⟨b, o, none⟩) (Nat.lt_of_lt_of_le hb h1)
      obtain ⟨d0, d1, d2⟩ := hc'.keep fun o => HB.out.cell (p := ⟨b', o, none⟩) (Nat.lt_of_lt_of_le hb' h2)
      have HE := fun wx => neqQ l[k] wx
      obtain ⟨x, hx⟩ : ∃ x, l[k] = x := ⟨_, rfl⟩
      rw [hx] at c0 c1 c2 d0 d1 d2 HE
      have HB2 := Lib.hid (fun n => below_drewN HB.out n)
      clear hc hc' hx HB
      go_wp2_with fail
      go_quiet (fail)
      go_wp2_with fail
      go_roundg (l.length - (k + 1))
      case measure => omega
      case rel => exact ⟨k + 1, by omega, by go_num, HB2.out _⟩
    · have t1 : ¬ ((k : Int) < l.length) := by omega
      go_wp2_with fail
      go_ret
      exact ⟨rfl, HB.out⟩
set_option maxHeartbeats 1000000 in
theorem sameR_yes {w : World} {hi hi' : Nat} {u v : Value} {l : List Rc} (h : SR w hi u l) (h' : SR w hi' v l) (h1 : hi ≤ w.heap.size) (h2 : hi' ≤ w.heap.size) :
    Calls Try.prog 40 #[u, v] w (Tells w (.bool true)) := by
  have HN := Lib.hid (Lst.len h)
  have HS := Lib.hid h
  have HS' := Lib.hid h'
  obtain ⟨a, c, rfl⟩ := Lst.shape h
  obtain ⟨a', c', rfl⟩ := Lst.shape h'
  have HB0 := Lib.hid (Below.refl w.heap.size w)
  clear h h'
  go_enter Try.func40, Try.ntmps40
  go_wp2
  go_loopg [5] l.length (fun g v5 wr => ∃ k : Nat, k + g = l.length ∧ v5 = .int .i64 k ∧ Hid (Below w.heap.size w wr))
  case atStart => exact ⟨0, by omega, rfl, HB0⟩
  case round =>
    clear HB0
    obtain ⟨k, hk, rfl, HB⟩ := hrel
    have hlen := HN.out
    by_cases hlt : k < l.length
    · obtain ⟨b, off, c9, he, hb, hc⟩ := HS.out.at_ k hlt
      obtain ⟨b', off', c9', he', hb', hc'⟩ := HS'.out.at_ k hlt
      injection he with he hn3 hc3
      injection he' with he' hn3' hc3'
      clear hn3 hc3 hn3' hc3'
      subst he; subst he'
      obtain ⟨c0, c1, c2, c3, c4⟩ := hc.keep fun o => HB.out.cell (p := ⟨b, o, none⟩) (Nat.lt_of_lt_of_le hb h1)
      obtain ⟨d0, d1, d2, d3, d4⟩ := hc'.keep fun o => HB.out.cell (p := ⟨b', o, none⟩) (Nat.lt_of_lt_of_le hb' h2)
      have HE := fun wx => neqR l[k] wx
      obtain ⟨x, hx⟩ : ∃ x, l[k] = x := ⟨_, rfl⟩
      rw [hx] at c0 c1 c2 c3 c4 d0 d1 d2 d3 d4 HE
      have HB2 := Lib.hid (fun n => below_drewN HB.out n)
      clear hc hc' hx HB
      go_wp2_with fail
      go_quiet (fail)
      go_wp2_with fail
      go_roundg (l.length - (k + 1))
      case measure => omega
      case rel => exact ⟨k + 1, by omega, by go_num, HB2.out _⟩
    · have t1 : ¬ ((k : Int) < l.length) := by omega
      go_wp2_with fail
      go_ret
      exact ⟨rfl, HB.out⟩

theorem cel_new6 (w : World) (a b c d e f : Value) (T : TypeId) : Cel (w.alloc (.cells #[a, b, c, d, e, f] T)) w.heap.size [a, b, c, d, e, f] := ⟨fun j hj => by
    match j, hj with
    | 0, _ => simp [go_sem]
    | 1, _ => simp [go_sem]
    | 2, _ => simp [go_sem]
    | 3, _ => simp [go_sem]
    | 4, _ => simp [go_sem]
    | 5, _ => simp [go_sem], fun j => by simp [go_sem]⟩
theorem Cel.six {w : World} {q : Nat} {a b c d e f : Value} (h : Cel w q [a, b, c, d, e, f]) : w.cell? ⟨q, 0, none⟩ = some a ∧ w.cell? ⟨q, 1, none⟩ = some b ∧ w.cell? ⟨q, 2, none⟩ = some c ∧ w.cell? ⟨q, 3, none⟩ = some d ∧ w.cell? ⟨q, 4, none⟩ = some e ∧ w.cell? ⟨q, 5, none⟩ = some f :=
  ⟨h.c 0 (by simp), h.c 1 (by simp), h.c 2 (by simp), h.c 3 (by simp), h.c 4 (by simp), h.c 5 (by simp)⟩

set_option maxHeartbeats 4000000 in
theorem sameM_yes {w : World} {hi hi' : Nat} {u v : Value} {m : Ms} (h : Mg w hi u m) (h' : Mg w hi' v m) (h1 : hi ≤ w.heap.size) (h2 : hi' ≤ w.heap.size) :
    Calls Try.prog 14 #[u, v] w (Tells w (.bool true)) := by
  obtain ⟨q, a, n, r, rfl, k1, k2, k3, k4⟩ := h
  obtain ⟨q', a', n', r', rfl, k1', k2', k3', k4'⟩ := h'
  have HQ := Lib.hid (fun wx (hb : Below w.heap.size w wx) => sameQ_yes (Lst.below k1 hb h1) (Lst.below k1' hb h2) (Nat.le_trans h1 hb.size) (Nat.le_trans h2 hb.size))
  have HA := Lib.hid (fun wx (hb : Below w.heap.size w wx) => sameR_yes (Lst.below k2 hb h1) (Lst.below k2' hb h2) (Nat.le_trans h1 hb.size) (Nat.le_trans h2 hb.size))
  have HN := Lib.hid (fun wx (hb : Below w.heap.size w wx) => sameR_yes (Lst.below k3 hb h1) (Lst.below k3' hb h2) (Nat.le_trans h1 hb.size) (Nat.le_trans h2 hb.size))
  have HR := Lib.hid (fun wx (hb : Below w.heap.size w wx) => sameR_yes (Lst.below k4 hb h1) (Lst.below k4' hb h2) (Nat.le_trans h1 hb.size) (Nat.le_trans h2 hb.size))
  obtain ⟨i0, hi0⟩ : ∃ i, m.id = i := ⟨_, rfl⟩
  obtain ⟨i1, hi1⟩ : ∃ i, m.fl = i := ⟨_, rfl⟩
  rw [hi0, hi1]
  have HX := Lib.hid ((cel_new6 w (.int .i64 i0) (.int .i64 i1) q a n r 25).below (by simp) ((Below.refl _ _).alloc (Nat.le_refl _) (.cells #[.int .i64 i0, .int .i64 i1, q', a', n', r'] 25)))
  have HY := Lib.hid (cel_new6 (w.alloc (.cells #[.int .i64 i0, .int .i64 i1, q, a, n, r] 25)) (.int .i64 i0) (.int .i64 i1) q' a' n' r' 25)
  have HB := Lib.hid (((Below.refl w.heap.size w).alloc (Nat.le_refl _) (.cells #[.int .i64 i0, .int .i64 i1, q, a, n, r] 25)).alloc (by simp) (.cells #[.int .i64 i0, .int .i64 i1, q', a', n', r'] 25))
  rw [World.size_alloc] at HY
  obtain ⟨c0, c1, c2, c3, c4, c5⟩ := HX.out.six
  obtain ⟨d0, d1, d2, d3, d4, d5⟩ := HY.out.six
  clear k1 k2 k3 k4 k1' k2' k3' k4' hi0 hi1
  go_enter Try.func14, Try.ntmps14
  go_wp2_with fail
  refine (HQ.out _ HB.out).mono ?_; rintro e w1 ⟨rfl, hb⟩
  replace HB := Lib.hid (bel_call HB.out hb)
  replace HX := Lib.hid (HX.out.below (by simp) hb)
  replace HY := Lib.hid (HY.out.below (by simp) hb)
  clear c0 c1 c2 c3 c4 c5 d0 d1 d2 d3 d4 d5 hb
  obtain ⟨c0, c1, c2, c3, c4, c5⟩ := HX.out.six
  obtain ⟨d0, d1, d2, d3, d4, d5⟩ := HY.out.six
  go_wp2_with fail
  refine (HA.out _ HB.out).mono ?_; rintro e w2 ⟨rfl, hb⟩
  replace HB := Lib.hid (bel_call HB.out hb)
  replace HX := Lib.hid (HX.out.below (by simp) hb)
  replace HY := Lib.hid (HY.out.below (by simp) hb)
  clear c0 c1 c2 c3 c4 c5 d0 d1 d2 d3 d4 d5 hb
  obtain ⟨c0, c1, c2, c3, c4, c5⟩ := HX.out.six
  obtain ⟨d0, d1, d2, d3, d4, d5⟩ := HY.out.six
  go_wp2_with fail
  refine (HN.out _ HB.out).mono ?_; rintro e w3 ⟨rfl, hb⟩
  replace HB := Lib.hid (bel_call HB.out hb)
  replace HX := Lib.hid (HX.out.below (by simp) hb)
  replace HY := Lib.hid (HY.out.below (by simp) hb)
  clear c0 c1 c2 c3 c4 c5 d0 d1 d2 d3 d4 d5 hb
  obtain ⟨c0, c1, c2, c3, c4, c5⟩ := HX.out.six
  obtain ⟨d0, d1, d2, d3, d4, d5⟩ := HY.out.six
  go_wp2_with fail
  refine (HR.out _ HB.out).mono ?_; rintro e w4 ⟨rfl, hb⟩
  replace HB := Lib.hid (bel_call HB.out hb)
  replace HX := Lib.hid (HX.out.below (by simp) hb)
  replace HY := Lib.hid (HY.out.below (by simp) hb)
  clear c0 c1 c2 c3 c4 c5 d0 d1 d2 d3 d4 d5 hb
  obtain ⟨c0, c1, c2, c3, c4, c5⟩ := HX.out.six
  obtain ⟨d0, d1, d2, d3, d4, d5⟩ := HY.out.six
  go_wp2_with fail
  go_ret
  exact ⟨rfl, HB.out⟩
end Go.Proofs.Ytcjgbholgbjejaa

/-
  The document's Name.
-/
namespace Go.Proofs.Ytcjgbholgbjejaa
open Go.RowKit Go.Shelf
set_option linter.unusedVariables false
set_option maxRecDepth 100000

theorem OwnU.sl {w : World} {B : Nat} {v : Value} {l : List UInt8} (h : OwnU w B v l) : Sl w B w.heap.size v (iz l) := by
  have hlt := fun k hk => World.ownsRowF.lt h k hk
  obtain ⟨a, c, hv, hx⟩ := h.shape
  rcases h.2 with ⟨rfl, h0⟩ | ⟨g, cap, cur, fz, rfl, hg, hh, hfz, hcap, _⟩
  · have e : l = [] := List.eq_nil_of_length_eq_zero h0
    subst e
    exact ⟨none, 0, rfl, by simp [iz], fun _ => rfl, fun h => by simp [iz] at h⟩
  · refine ⟨some ⟨g, 0, none⟩, cap, by rw [iz_len], by rw [iz_len]; exact hcap, fun h => by simp at h, fun h0 => ⟨g, 0, rfl, hg, (hlt g rfl).2, fun j hj => ?_⟩⟩
    rw [iz_len] at hj
    obtain ⟨g', he, _, hc⟩ := hx (by omega)
    injection hv with hv
    rw [← hv] at he
    injection he with he
    injection he with he
    subst he
    rw [Nat.zero_add, hc j hj, iz_get l j hj, List.getD, List.getElem?_eq_getElem hj]
    rfl

theorem OwnU.but {w w' : World} {B : Nat} {v : Value} {l : List UInt8} {G : Nat → Prop} (h : OwnU w B v l) (ha : Aside G w w') (hG : ∀ b, v.ownBlock = some b → ¬ G b) : OwnU w' B v l := by
  have hlt := fun k hk => World.ownsRowF.lt h k hk
  refine ⟨h.1, ?_⟩
  rcases h.2 with h2 | ⟨g, cap, cur, fz, hv, hg, hh, r⟩
  · exact .inl h2
  · exact .inr ⟨g, cap, cur, fz, hv, hg, (ha.block g (by subst hv; exact (hlt g rfl).2) (hG g (by rw [hv]; rfl))).trans hh, r⟩

end Go.Proofs.Ytcjgbholgbjejaa

/-
  The document's Put16, Put32, Bytes, Get16, Get32.
-/
namespace Go.Proofs.Ytcjgbholgbjejaa
open Go.RowKit
set_option linter.unusedVariables false
set_option maxRecDepth 100000

/-- Bytes that are told by the document. -/
def RBytesPost (w : World) (L : List Int) (E F A : Int) (e : Ending) (w' : World) : Prop :=
  ∃ v, e = .returned (.tuple #[v, .int .i64 E, .agg #[.int .i64 F, .int .i64 A]]) ∧ OwnR w' w.heap.size v L ∧ Below w.heap.size w w'

set_option maxHeartbeats 1000000 in
theorem rbytes_ok {w : World} {lo hi c p m : Nat} {a : Option Addr} {l : List Int} (h : Sl w lo hi (.slice a l.length c) l) (hl : l.length ≤ 1000000) (hhi : hi ≤ w.heap.size) (hp : p + m ≤ l.length) :
    Calls Try.prog 50 #[.slice a l.length c, .int .i64 p, .int .i64 m] w (RBytesPost w (cutL l p m) (p + m) 0 0) := by
  obtain ⟨sv, hrun, hsl⟩ := slice_cut h hp
  have hb0 : Below w.heap.size w ((w.alloc (.cells #[.int .i64 0, .int .i64 0] 76)).alloc (.cells #[] 5)) := ((Below.refl _ _).alloc (Nat.le_refl _) _).alloc (by simp) _
  have HB0 := Lib.hid hb0
  have HS := Lib.hid (hsl.below hb0 hhi)
  have HL := Lib.hid (cutL_len l p m hp)
  obtain ⟨len, hle⟩ : ∃ len, len = l.length := ⟨_, rfl⟩
  rw [← hle] at hp hl hrun ⊢
  clear h hsl hb0 hle
  obtain ⟨L, hL⟩ : ∃ L, L = cutL l p m := ⟨_, rfl⟩
  rw [← hL] at HS HL ⊢
  clear hL
  go_enter Try.func50, Try.ntmps50
  go_wp2_with (at_builtin; refine wpList_app rfl (.tmp 30) (.tmp 36) rfl (w.heap.size + 1) lo hi _ sv [] L rfl rfl ?c1 HS.out ?c2 ?c3 ?_)
  case c1 =>
    have := World.ownsRow_made (w.alloc (.cells #[.int .i64 0, .int .i64 0] 76)) (base := w.heap.size + 1) (e := 5) (size := 1) #[] 0 (by simp) (by decide) (by simp)
    simp only [World.size_alloc] at this
    exact this
  case c2 => rw [HL.out]; simp; omega
  case c3 => simp
  intro v' w1 HO HB1
  have hcell := res_cells (((Below.refl _ _).alloc (by simp) (.cells #[] 5)).trans HB1.out)
  obtain ⟨k1, k2, k3⟩ := hcell
  have HB := Lib.hid (HB0.out.trans (HB1.out.mono (by omega)))
  clear HB0 HB1 HS hrun
  go_wp2_with fail
  obtain ⟨m0, m1⟩ := res_set (.int .i64 0) (.int .i64 0) k1 k2
  refine bodyPost_ret (v := .tuple #[v', .int .i64 (p + m), .agg #[.int .i64 0, .int .i64 0]]) (by simp [results, Try.results50, go_sem, m0, m1]) rfl ⟨v', rfl, ?_, ?_⟩
  · have h1 : OwnR (w1.setCell ⟨w.heap.size, 0, none⟩ (.int .i64 0)) (w.heap.size + 1) v' L := ownsRow_setCell_below HO.out (by show w.heap.size < w.heap.size + 1; omega) _
    have h2 : OwnR ((w1.setCell ⟨w.heap.size, 0, none⟩ (.int .i64 0)).setCell ⟨w.heap.size, 1, none⟩ (.int .i64 0)) (w.heap.size + 1) v' L := ownsRow_setCell_below h1 (by show w.heap.size < w.heap.size + 1; omega) _
    exact h2.mono (by omega)
  · exact (HB.out.setCell (by simp) _).setCell (by simp) _

set_option maxHeartbeats 400000 in
theorem rbytes_no (a : Option Addr) (n c : Nat) (t m : Int) (F A : Int) (hn : n ≤ 1000000) (h : (m < 0 ∧ F = 2 ∧ A = 0) ∨ (0 ≤ m ∧ (t < 0 ∨ (n : Int) < t) ∧ F = 5 ∧ A = 0) ∨ (0 ≤ m ∧ 0 ≤ t ∧ t ≤ n ∧ (n : Int) < t + m ∧ F = 4 ∧ A = n)) (w : World) :
    Calls Try.prog 50 #[.slice a n c, .int .i64 t, .int .i64 m] w (RBytesPost w [] 0 F A) := by
  have hb : Below w.heap.size w (w.alloc (.cells #[.int .i64 F, .int .i64 A] 76)) := (Below.refl _ _).alloc (by simp) _
  rcases h with ⟨h1, rfl, rfl⟩ | ⟨h1, h2 | h2, rfl, rfl⟩ | ⟨h1, h2, h3, h4, rfl, rfl⟩
  all_goals
    go_enter Try.func50, Try.ntmps50
    go_wp2
    refine bodyPost_ret (v := .tuple #[.slice none 0 0, .int .i64 0, .agg #[.int .i64 _, .int .i64 _]]) (by simp [results, Try.results50, go_sem]) rfl ⟨_, rfl, World.ownsRow_nil _ _ _ _, hb⟩

theorem rbytes_any {w : World} {lo hi : Nat} {v : Value} {l : List Int} (h : Sl w lo hi v l) (hl : l.length ≤ 1000000) (hhi : hi ≤ w.heap.size) (t m : Int) :
    Calls Try.prog 50 #[v, .int .i64 t, .int .i64 m] w (RBytesPost w (bytL l t m) (bytF l.length t m) (bytE l.length t m) (bytA l.length t m)) := by
  have hs := h
  obtain ⟨a, c, rfl, _⟩ := h
  by_cases h3 : 0 ≤ m ∧ 0 ≤ t ∧ t + m ≤ (l.length : Int)
  · obtain ⟨p, rfl⟩ : ∃ p : Nat, t = p := ⟨t.toNat, by omega⟩
    obtain ⟨k, rfl⟩ : ∃ k : Nat, m = k := ⟨m.toNat, by omega⟩
    have e1 : bytL l p k = cutL l p k := by unfold bytL; rw [if_pos (by omega), Int.toNat_natCast, Int.toNat_natCast]
    have e2 : bytF l.length p k = p + k := by unfold bytF; rw [if_pos (by omega)]
    have e3 : bytE l.length p k = 0 := by unfold bytE; rw [if_neg (by omega), if_neg (by omega), if_neg (by omega)]
    have e4 : bytA l.length p k = 0 := by unfold bytA; rw [if_neg (by omega)]
    rw [e1, e2, e3, e4]
    exact rbytes_ok hs hl hhi (by omega)
  · have e1 : bytL l t m = [] := by unfold bytL; rw [if_neg h3]
    have e2 : bytF l.length t m = 0 := by unfold bytF; rw [if_neg h3]
    rw [e1, e2]
    refine rbytes_no a l.length c t m _ _ hl ?_ w
    unfold bytE bytA
    by_cases h1 : m < 0
    · exact .inl ⟨h1, by rw [if_pos h1], by rw [if_neg (by omega)]⟩
    · by_cases h2 : t < 0 ∨ (l.length : Int) < t
      · exact .inr (.inl ⟨by omega, h2, by rw [if_neg h1, if_pos h2], by rw [if_neg (by omega)]⟩)
      · exact .inr (.inr ⟨by omega, by omega, by omega, by omega, by rw [if_neg h1, if_neg h2, if_pos (by omega)], by rw [if_pos (by omega)]⟩)

theorem byt_getE (sz len : Nat) (t : Int) : bytE len t sz = getE sz len t := by unfold bytE getE; rw [if_neg (by omega)]

theorem byt_getA (sz len : Nat) (t : Int) : bytA len t sz = getA sz len t := by
  unfold bytA getA
  by_cases h : 0 ≤ t ∧ t ≤ (len : Int) ∧ (len : Int) < t + sz
  · rw [if_pos h, if_pos ⟨by omega, h⟩]
  · rw [if_neg h, if_neg (fun g => h g.2)]

theorem byt_getF (sz len : Nat) (t : Int) : bytF len t sz = getF sz len t (t + sz) := by
  unfold bytF getF
  by_cases h : 0 ≤ t ∧ t + sz ≤ (len : Int)
  · rw [if_pos h, if_pos ⟨by omega, h⟩]
  · rw [if_neg h, if_neg (fun g => h g.2)]

set_option maxHeartbeats 1000000 in
theorem rget_no {a : Option Addr} {n c : Nat} {t sz F A : Int} {w : World} (hF : ¬ F = 0)
    (H : ∀ w0, Below w.heap.size w w0 → Calls Try.prog 50 #[.slice a n c, .int .i64 t, .int .i64 sz] w0 (RBytesPost w0 [] 0 F A)) :
    Calls Try.prog 58 #[.slice a n c, .int .i64 t, .int .i64 sz] w (GetPost w 0 0 F A) := by
  have hb0 : Below w.heap.size w (w.alloc (.cells #[.int .i64 0, .int .i64 0] 76)) := (Below.refl _ _).alloc (by simp) _
  have HB0 := Lib.hid hb0
  have HH := Lib.hid (H _ hb0)
  have e1 : (F == 0) = false := by simpa using hF
  have e2 : (F != 0) = true := by simpa using hF
  clear hb0 H
  go_enter Try.func58, Try.ntmps58
  go_wp2_with (go_at_call 50; refine HH.out.mono ?_; rintro e w1 ⟨v, rfl, h1, hb⟩; simp only [World.size_alloc] at hb; have HB := Lib.hid hb; have hcell := res_cells hb; have hsz : w.heap.size < w1.heap.size := below_lt hb; clear hb h1; obtain ⟨k1, k2, k3⟩ := hcell)
  go_region
  go_wp2_with fail
  obtain ⟨m0, m1⟩ := res_set (.int .i64 F) (.int .i64 A) k1 k2
  refine bodyPost_ret (v := .tuple #[.int .i64 0, .int .i64 0, .agg #[.int .i64 F, .int .i64 A]]) (by simp [results, Try.results58, go_sem, m0, m1, hsz]) rfl ⟨rfl, ?_⟩
  exact (((((HB0.out.trans (HB.out.mono (by omega))).setCell (by simp) _).setCell (by simp) _).alloc (by simp [World.setCell]; omega) _)).drew

set_option maxHeartbeats 1000000 in
theorem rget2_ok {a : Option Addr} {n c : Nat} {t E x y : Int} {w : World} (x0 : 0 ≤ x) (x1 : x ≤ 255) (y0 : 0 ≤ y) (y1 : y ≤ 255)
    (H : ∀ w0, Below w.heap.size w w0 → Calls Try.prog 50 #[.slice a n c, .int .i64 t, .int .i64 2] w0 (RBytesPost w0 [x, y] E 0 0)) :
    Calls Try.prog 58 #[.slice a n c, .int .i64 t, .int .i64 2] w (GetPost w (num2 x y) E 0 0) := by
  have e : num2 x y = 256 * x + y := by unfold num2; omega
  rw [e]
  clear e
  have hb0 : Below w.heap.size w (w.alloc (.cells #[.int .i64 0, .int .i64 0] 76)) := (Below.refl _ _).alloc (by simp) _
  have HB0 := Lib.hid hb0
  have HH := Lib.hid (H _ hb0)
  clear hb0 H
  go_enter Try.func58, Try.ntmps58
  go_wp2_with (go_at_call 50; refine HH.out.mono ?_; rintro e w1 ⟨v, rfl, h1, hb⟩; simp only [World.size_alloc] at hb; have HB := Lib.hid hb; have hcell := res_cells hb; have hsz : w.heap.size < w1.heap.size := below_lt hb; obtain ⟨b, cap, rfl, q1, q2, q3⟩ := h1.two; clear hb h1; obtain ⟨k1, k2, k3⟩ := hcell)
  refine wp_loop_rounds 3 ?_
  iterate 3 (rw [rounds_succ]; go_wp2)
  go_region
  go_wp2_with fail
  obtain ⟨m0, m1⟩ := res_set (.int .i64 0) (.int .i64 0) k1 k2
  refine bodyPost_ret (v := .tuple #[.int .i64 (256 * x + y), .int .i64 E, .agg #[.int .i64 0, .int .i64 0]]) (by simp [results, Try.results58, go_sem, m0, m1, hsz]) rfl ⟨rfl, ?_⟩
  exact (((((HB0.out.trans (HB.out.mono (by omega))).setCell (by simp) _).setCell (by simp) _).alloc (by simp [World.setCell]; omega) _)).drew

theorem cut2 (l : List Int) (p : Nat) (h : p + 2 ≤ l.length) : cutL l p 2 = [l.getD p 0, l.getD (p + 1) 0] := by
  apply List.ext_getElem
  · rw [cutL_len l p 2 h]; rfl
  · intro j h1 h2
    have hj : j < 2 := by rw [cutL_len l p 2 h] at h1; exact h1
    have e : (cutL l p 2)[j] = l.getD (p + j) 0 := by
      have h3 := List.getElem?_eq_getElem h1
      rw [cutL_get l p 2 j hj] at h3
      rw [List.getD, h3]; rfl
    rw [e]
    obtain rfl | rfl : j = 0 ∨ j = 1 := by omega
    all_goals rfl

theorem rgetn2_any {w : World} {lo hi : Nat} {v : Value} {l : List Int} (h : Sl w lo hi v l) (hb : ByteL l) (hl : l.length ≤ 1000000) (hhi : hi ≤ w.heap.size) (t : Int) :
    Calls Try.prog 58 #[v, .int .i64 t, .int .i64 2] w (GetPost w (getF 2 l.length t (nAt2 l t.toNat)) (getF 2 l.length t (t + 2)) (getE 2 l.length t) (getA 2 l.length t)) := by
  have H : ∀ w0, Below w.heap.size w w0 → Calls Try.prog 50 #[v, .int .i64 t, .int .i64 2] w0 (RBytesPost w0 (bytL l t 2) (bytF l.length t 2) (bytE l.length t 2) (bytA l.length t 2)) :=
    fun w0 hw => rbytes_any (h.below hw hhi) hl (Nat.le_trans hhi hw.size) t 2
  have q1 := byt_getE 2 l.length t
  have q2 := byt_getA 2 l.length t
  have q3 := byt_getF 2 l.length t
  simp only [Int.cast_ofNat_Int] at q1 q2 q3
  rw [q1, q2, q3] at H
  obtain ⟨a, c, rfl, _⟩ := h
  by_cases h1 : 0 ≤ t ∧ t + 2 ≤ (l.length : Int)
  · obtain ⟨p, rfl⟩ : ∃ p : Nat, t = p := ⟨t.toNat, by omega⟩
    have e1 : ∀ v, getF 2 l.length p v = v := fun v => by unfold getF; rw [if_pos (by omega)]
    have e2 : getE 2 l.length p = 0 := by unfold getE; rw [if_neg (by omega), if_neg (by omega)]
    have e3 : getA 2 l.length p = 0 := by unfold getA; rw [if_neg (by omega)]
    have e4 : bytL l p 2 = [l.getD p 0, l.getD (p + 1) 0] := by
      unfold bytL
      rw [if_pos (by omega), Int.toNat_natCast]
      exact cut2 l p (by omega)
    rw [e1, e2, e3, e4] at H
    rw [e1, e1, e2, e3, Int.toNat_natCast]
    have y0 := hb.at_ p (by omega)
    have y1 := hb.at_ (p + 1) (by omega)
    exact rget2_ok y0.1 y0.2 y1.1 y1.2 H
  · have e1 : ∀ v, getF 2 l.length t v = 0 := fun v => by unfold getF; rw [if_neg (by omega)]
    have e4 : bytL l t 2 = [] := by unfold bytL; rw [if_neg (by omega)]
    have e2 : ¬ getE 2 l.length t = 0 := by
      unfold getE
      by_cases g1 : t < 0 ∨ (l.length : Int) < t
      · rw [if_pos g1]; omega
      · rw [if_neg g1, if_pos (by omega)]; omega
    rw [e1, e4] at H
    rw [e1, e1]
    exact rget_no e2 H

set_option maxHeartbeats 400000 in
theorem rget16_any {w : World} {lo hi : Nat} {v : Value} {l : List Int} (h : Sl w lo hi v l) (hb : ByteL l) (hl : l.length ≤ 1000000) (hhi : hi ≤ w.heap.size) (t : Int) :
    Calls Try.prog 49 #[v, .int .i64 t] w (GetPost w (getF 2 l.length t (nAt2 l t.toNat)) (getF 2 l.length t (t + 2)) (getE 2 l.length t) (getA 2 l.length t)) := by
  have hb0 : Below w.heap.size w (w.alloc (.cells #[.int .i64 0, .int .i64 0] 76)) := (Below.refl _ _).alloc (Nat.le_refl _) _
  have HH := Lib.hid (rgetn2_any (h.below hb0 hhi) hb hl (by simp; omega) t)
  have HB0 := Lib.hid hb0
  clear hb0 hb h
  generalize getF 2 l.length t (nAt2 l t.toNat) = N at *
  generalize getF 2 l.length t (t + 2) = E at *
  generalize getE 2 l.length t = F at *
  generalize getA 2 l.length t = A at *
  go_enter Try.func49, Try.ntmps49
  go_wp2_with (go_at_call 58; refine HH.out.mono ?_; rintro e w1 ⟨rfl, hb⟩; simp only [World.size_alloc] at hb; have HB := Lib.hid hb; have hcell := res_cells hb; clear hb; obtain ⟨k1, k2, k3⟩ := hcell)
  obtain ⟨m0, m1⟩ := res_set (.int .i64 F) (.int .i64 A) k1 k2
  refine bodyPost_ret (v := .tuple #[.int .i64 N, .int .i64 E, .agg #[.int .i64 F, .int .i64 A]]) (by simp [results, Try.results49, go_sem, m0, m1]) rfl ⟨rfl, ?_⟩
  exact ((HB0.out.trans (HB.out.mono (by omega))).setCell (by simp) _).setCell (by simp) _

end Go.Proofs.Ytcjgbholgbjejaa

/-
  What Write stands on: two bytes of a number, the deferred function, the bytes so far and the packer.
-/
namespace Go.Proofs.Ytcjgbholgbjejaa
open Go.RowKit Go.Shelf
set_option linter.unusedVariables false
set_option linter.unusedSimpArgs false
set_option maxRecDepth 100000

theorem rowB_all {l : List UInt8} {cap : Nat} : ∀ u ∈ rowB l cap, ∃ x : Int, u = .int .u8 x := by
  intro u hu
  unfold rowB at hu
  rcases List.mem_append.mp hu with hu | hu
  · rw [ub_iz] at hu
    obtain ⟨x, _, rfl⟩ := List.mem_map.mp hu
    exact ⟨x, rfl⟩
  · exact ⟨0, (List.mem_replicate.mp hu).2⟩

/-- A packer's blocks are not those of a row of bytes. -/
theorem pk_apart {w : World} {p bm e B : Nat} {K : KK} {v : Value} {l : List UInt8} (h : Pk w p bm K e) (ho : OwnB w B v l) (b : Nat) (hb : v.ownBlock = some b) : ¬ (b = p ∨ b = bm) := by
  rcases ho with ⟨rfl, _⟩ | ⟨g, cap, fz, rfl, _, _, _, _, hg⟩
  · simp [Value.ownBlock] at hb
  · simp [Value.ownBlock] at hb
    subst hb
    rintro (rfl | rfl)
    · have := h.self
      rw [World.cell?, hg] at this
      simp only [List.getElem?_toArray] at this
      have hm := rowB_all _ (List.mem_of_getElem? (by simpa using this))
      obtain ⟨x, hx⟩ := hm
      cases hx
    · obtain ⟨D, ⟨es, clock, hm, _⟩, _⟩ := h.map
      rw [hg] at hm
      cases hm

/-- What is written so far: the message's cells, the slice of the bytes, no error, the pointers to the lists, the bytes. -/
structure W0 (w wr : World) (M N B0 : Nat) (xs ys : List Value) (bv : Value) (b : List UInt8) : Prop where
  x : Cel wr M xs
  xl : 0 < xs.length
  c2 : Cel wr (M + 1) [bv]
  c3 : Cel wr (M + 2) [.int .i64 0]
  y : Cel wr N ys
  yl : 0 < ys.length
  hN : N < B0
  hM : M + 3 ≤ B0
  ne : N ≠ M + 1 ∧ N ≠ M + 2
  row : OwnB wr B0 bv b
  bel : Below M w wr
  size : B0 ≤ wr.heap.size

section
variable {w wr w' : World} {M N B0 p bm e : Nat} {xs ys : List Value} {bv : Value} {b : List UInt8} {K : KK}
theorem W0.aside {G : Nat → Prop} (h : W0 w wr M N B0 xs ys bv b) (ha : Aside G wr w') (hG : ∀ k, k < B0 → ¬ G k) (hr : ∀ k, bv.ownBlock = some k → ¬ G k) : W0 w w' M N B0 xs ys bv b := by
  have hm := h.hM
  exact ⟨h.x.aside h.xl ha (hG _ (by omega)), h.xl, h.c2.aside (by simp) ha (hG _ (by omega)), h.c3.aside (by simp) ha (hG _ (by omega)), h.y.aside h.yl ha (hG _ h.hN), h.yl, h.hN, hm, h.ne, h.row.aside ha hr, below_aside h.bel ha fun k hk => ⟨Nat.lt_of_lt_of_le (by omega) h.size, hG k (by omega)⟩, Nat.le_trans h.size ha.size⟩
theorem W0.later (h : W0 w wr M N B0 xs ys bv b) (hb : Below wr.heap.size wr w') : W0 w w' M N B0 xs ys bv b :=
  h.aside (G := fun _ => False) (Aside.of_all hb) (fun _ _ h => h) (fun _ _ h => h)
/-- Another slice of the bytes is stored. -/
theorem W0.put {v : Value} {b' : List UInt8} (h : W0 w wr M N B0 xs ys bv b) (ho : OwnB wr B0 v b') : W0 w (wr.setCell ⟨M + 1, 0, none⟩ v) M N B0 xs ys v b' := by
  have hm := h.hM
  refine ⟨h.x.other (by simp) _, h.xl, ?_, h.c3.other (by simp) _, h.y.other (by simpa using h.ne.1.symm) _, h.yl, h.hN, hm, h.ne, ?_, h.bel.setCell (by simp) _, Nat.le_trans h.size (by simp [World.setCell])⟩
  · have := h.c2.set (o := 0) (by simp) v
    simpa using this
  · refine ho.aside (G := fun k => k = M + 1) (Aside.setCell _ _ rfl) fun k hk hg => ?_
    have := (ho.lt k hk).1
    omega
/-- The bytes so far are laid in another row, and its slice is stored. -/
theorem W0.app (h : W0 w wr M N B0 xs ys bv b) {xv : Value} {l' : List UInt8} {lo hi : Nat} (hx : Sl wr lo hi xv (iz l')) (hb : b.length + l'.length ≤ 1000000) :
    ∃ a' c' w', (Builtin.append_ #[67, 67] 67 #[bv, xv]).run Try.prog wr = .ok (.slice a' (b.length + l'.length) c') w' ∧
      w'.cell? ⟨M + 1, 0, none⟩ = some bv ∧ (∀ j, w'.frozen? ⟨M + 1, j, none⟩ = false) ∧ W0 w (w'.setCell ⟨M + 1, 0, none⟩ (.slice a' (b.length + l'.length) c')) M N B0 xs ys (.slice a' (b.length + l'.length) c') (b ++ l') ∧
      ∀ p bm K e, Pk wr p bm K e → B0 ≤ p → B0 ≤ bm → Pk (w'.setCell ⟨M + 1, 0, none⟩ (.slice a' (b.length + l'.length) c')) p bm K e := by
  have hm := h.hM
  obtain ⟨a', c', w', h1, h2, ha⟩ := run_appBs B0 bv xv b l' h.row hx hb h.size
  have hlt := h.row.lt
  have hG : ∀ k, k < B0 → ¬ bv.ownBlock = some k := fun k hk hg => by have := (hlt k hg).1; omega
  have k2 := h.c2.aside (by simp) ha (hG _ (by omega))
  have k0 := h.x.aside h.xl ha (hG _ (by omega))
  have k3 := h.c3.aside (by simp) ha (hG _ (by omega))
  have k4 := h.y.aside h.yl ha (hG _ h.hN)
  refine ⟨a', c', w', h1, k2.c 0 (by simp), k2.fz, ⟨k0.other (by simp) _, h.xl, ?_, k3.other (by simp) _, k4.other (by simpa using h.ne.1.symm) _, h.yl, h.hN, hm, h.ne, ?_, ?_, ?_⟩, fun p bm K e hp p1 p2 => ?_⟩
  · have := k2.set (o := 0) (by simp) (.slice a' (b.length + l'.length) c')
    simpa using this
  · refine h2.aside (G := fun k => k = M + 1) (Aside.setCell _ _ rfl) fun k hk hg => ?_
    have := (h2.lt k hk).1
    omega
  · exact (below_aside h.bel ha fun k hk => ⟨Nat.lt_of_lt_of_le (by omega) h.size, hG k (by omega)⟩).setCell (by simp) _
  · exact Nat.le_trans h.size (Nat.le_trans ha.size (by simp [World.setCell]))
  · have := hp.aside ha (fun hg => pk_apart hp h.row p hg (.inl rfl)) (fun hg => pk_apart hp h.row bm hg (.inr rfl))
    exact this.aside (G := fun k => k = M + 1) (Aside.setCell _ _ rfl) (by omega) (by omega)
end

theorem cel_new1 (w : World) (a : Value) (T : TypeId) : Cel (w.alloc (.cells #[a] T)) w.heap.size [a] := ⟨fun j hj => by
    match j, hj with
    | 0, _ => simp [go_sem], fun j => by simp [go_sem]⟩

theorem oper_app_run {w w' : World} {v v' xv : Value} {ops : Array Oper} {o : Oper} {a : Act} {K : Act → World → Prop} {Q : Exit → Act → World → Prop} (s x : Operand) (t u : TypeId)
    (ho : o.op = .call { callee := .builtin .append, args := #[s, x], argTypes := #[t, u] }) (hgd : o.guard = .none) (hs : a.eval s = v) (hx : a.eval x = xv)
    (hrun : (Builtin.append_ #[t, u] o.type #[v, xv]).run Try.prog w = .ok v' w') (h : K (a.put o.dst v') w') : if Region.wanted o (yielded ops a.tmps) = true then Oper.wp Try.prog o a w K Q else K (a.put o.dst undef) w := by
  rw [if_pos (by simp [Region.wanted, hgd])]
  unfold Oper.wp
  simp [execOp, ho, resolve, invoke, builtin, hs, hx, hrun, Result.andThen]
  exact h

end Go.Proofs.Ytcjgbholgbjejaa

/-
  Messages, plainly: the message that bytes are.
-/
namespace Go.Proofs.Ytcjgbholgbjejaa
open Go.RowKit Go.Shelf
set_option linter.unusedVariables false
set_option linter.unusedSimpArgs false
set_option maxRecDepth 100000

/-- What reading some comes to: these, and where they end; or the fault. -/
inductive RD (α : Type) where
  | ok (l : List α) (p : Nat)
  | bad (e a : Int)

def RD.cons {α : Type} (x : α) : RD α → RD α
  | .ok l q => .ok (x :: l) q
  | .bad e a => .bad e a

/-- A number of the head. -/
def hd (b : List UInt8) (k : Nat) : Int := nAt2 (iz b) (2 * k)

/-! ### faults -/

/-! ### with others behind -/

/-! ### what stands is read -/

end Go.Proofs.Ytcjgbholgbjejaa

/-
  The numbers at a message's head: numbers, Head.
-/
namespace Go.Proofs.Ytcjgbholgbjejaa
open Go.RowKit Go.Shelf
set_option linter.unusedVariables false
set_option linter.unusedSimpArgs false
set_option maxRecDepth 100000

/-- The first k numbers, then noughts. -/
def pre (b : List UInt8) : Nat → List Value
  | 0 => [.int .i64 0, .int .i64 0, .int .i64 0, .int .i64 0, .int .i64 0, .int .i64 0]
  | k + 1 => (pre b k).set k (.int .i64 (hd b k))
end Go.Proofs.Ytcjgbholgbjejaa

/-
  An entry of a list is read, and laid behind the others.
-/
namespace Go.Proofs.Ytcjgbholgbjejaa
open Go.RowKit Go.Shelf
set_option linter.unusedVariables false
set_option linter.unusedSimpArgs false
set_option maxRecDepth 100000

theorem info_qn : (Try.prog.info? 50).map (fun i => (i.zero, i.size, i.bytes)) = some (some (.agg #[.string ⟨#[]⟩, .int .i64 0, .int .i64 0]), 3, 32) := by kernel_rfl
theorem info_rc : (Try.prog.info? 48).map (fun i => (i.zero, i.size, i.bytes)) = some (some (.agg #[.string ⟨#[]⟩, .int .i64 0, .int .i64 0, .int .i64 0, .string ⟨#[]⟩]), 5, 56) := by kernel_rfl

/-- append to rows of questions, of records. -/
theorem run_appQn {w : World} {B hi : Nat} {v u : Value} {l m : List Qn} (h : OwnQn w B v l) (hx : SQ w hi u m) (hnm : l.length + m.length ≤ 1000000) (hB : B ≤ w.heap.size) :
    ∃ a' c' w', (Builtin.append_ #[22, 22] 22 #[v, u]).run Try.prog w = .ok (.slice a' (l.length + m.length) c') w' ∧ OwnQn w' B (.slice a' (l.length + m.length) c') (l ++ m) ∧ Aside (fun b => v.ownBlock = some b) w w' ∧
      ((Value.slice a' (l.length + m.length) c').ownBlock = v.ownBlock ∨ (Value.slice a' (l.length + m.length) c').ownBlock = some w.heap.size) := by
  obtain ⟨i0, hi, hz0, hz1, hz2⟩ := info_parts info_qn
  obtain ⟨a', c', w', h1, h2, h3, h4⟩ := row_more (ty := 22) 32 Try.underlying22 hi hz0 hz1 hz2 rfl (by decide) (by decide) h hx (acq_len m) (acq_one m) hnm hB
  refine ⟨a', c', w', h1, ?_, h3, h4⟩
  unfold OwnQn
  rw [List.length_append, acq_app]
  exact h2
theorem run_appRc {w : World} {B hi : Nat} {v u : Value} {l m : List Rc} (h : OwnRc w B v l) (hx : SR w hi u m) (hnm : l.length + m.length ≤ 1000000) (hB : B ≤ w.heap.size) :
    ∃ a' c' w', (Builtin.append_ #[23, 23] 23 #[v, u]).run Try.prog w = .ok (.slice a' (l.length + m.length) c') w' ∧ OwnRc w' B (.slice a' (l.length + m.length) c') (l ++ m) ∧ Aside (fun b => v.ownBlock = some b) w w' ∧
      ((Value.slice a' (l.length + m.length) c').ownBlock = v.ownBlock ∨ (Value.slice a' (l.length + m.length) c').ownBlock = some w.heap.size) := by
  obtain ⟨i0, hi, hz0, hz1, hz2⟩ := info_parts info_rc
  obtain ⟨a', c', w', h1, h2, h3, h4⟩ := row_more (ty := 23) 56 Try.underlying23 hi hz0 hz1 hz2 rfl (by decide) (by decide) h hx (acr_len m) (acr_one m) hnm hB
  refine ⟨a', c', w', h1, ?_, h3, h4⟩
  unfold OwnRc
  rw [List.length_append, acr_app]
  exact h2

/-- One that was just built, as a slice. -/
theorem sq_one (w : World) (x : Qn) : SQ (w.alloc (.cells #[.string (bs x.n), .int .i64 x.t, .int .i64 x.c] 50)) (w.heap.size + 1) (.slice (some ⟨w.heap.size, 0, none⟩) 1 1) [x] :=
  ⟨_, 1, rfl, by simp, fun h => by simp at h, fun _ => ⟨w.heap.size, 0, rfl, by omega, fun i u hu => by
    have hc := cel_new3 w (.string (bs x.n)) (.int .i64 x.t) (.int .i64 x.c) 50
    rw [Nat.zero_add]
    match i, hu with
    | 0, hu => rw [hc.c 0 (by simp)]; simpa [acq, cq] using hu
    | 1, hu => rw [hc.c 1 (by simp)]; simpa [acq, cq] using hu
    | 2, hu => rw [hc.c 2 (by simp)]; simpa [acq, cq] using hu
    | i + 3, hu => simp [acq, cq] at hu⟩⟩
theorem sr_one (w : World) (x : Rc) : SR (w.alloc (.cells #[.string (bs x.n), .int .i64 x.t, .int .i64 x.c, .int .i64 x.l, .string (bs x.d)] 48)) (w.heap.size + 1) (.slice (some ⟨w.heap.size, 0, none⟩) 1 1) [x] :=
  ⟨_, 1, rfl, by simp, fun h => by simp at h, fun _ => ⟨w.heap.size, 0, rfl, by omega, fun i u hu => by
    have hc := cel_new w (.string (bs x.n)) (.int .i64 x.t) (.int .i64 x.c) (.int .i64 x.l) (.string (bs x.d)) 48
    rw [Nat.zero_add]
    match i, hu with
    | 0, hu => rw [hc.c 0 (by simp)]; simpa [acr, cr] using hu
    | 1, hu => rw [hc.c 1 (by simp)]; simpa [acr, cr] using hu
    | 2, hu => rw [hc.c 2 (by simp)]; simpa [acr, cr] using hu
    | 3, hu => rw [hc.c 3 (by simp)]; simpa [acr, cr] using hu
    | 4, hu => rw [hc.c 4 (by simp)]; simpa [acr, cr] using hu
    | i + 5, hu => simp [acr, cr] at hu⟩⟩

end Go.Proofs.Ytcjgbholgbjejaa

/-
  What Read stands on: what is read so far, the deferred function.
-/
namespace Go.Proofs.Ytcjgbholgbjejaa
open Go.RowKit Go.Shelf
set_option linter.unusedVariables false
set_option linter.unusedSimpArgs false
set_option maxRecDepth 100000

def RD.app {α : Type} (l : List α) : RD α → RD α
  | .ok l' q => .ok (l ++ l') q
  | .bad e a => .bad e a
/-- What is read so far. -/
structure R0 (w wr : World) (M H B0 : Nat) (i0 i1 : Int) (hs : List Value) (v2 v3 v4 v5 : Value) (lq : List Qn) (la ln lr : List Rc) : Prop where
  x : Cel wr M [.int .i64 i0, .int .i64 i1, v2, v3, v4, v5]
  f : Cel wr (M + 1) [.int .i64 0, .int .i64 0]
  h : Cel wr H hs
  hl : 0 < hs.length
  q : OwnQn wr B0 v2 lq
  a : OwnRc wr B0 v3 la
  n : OwnRc wr B0 v4 ln
  r : OwnRc wr B0 v5 lr
  n34 : ∀ k, v3.ownBlock = some k → v4.ownBlock = some k → False
  n35 : ∀ k, v3.ownBlock = some k → v5.ownBlock = some k → False
  n45 : ∀ k, v4.ownBlock = some k → v5.ownBlock = some k → False
  bel : Below M w wr
  size : B0 ≤ wr.heap.size
  hH : M + 2 ≤ H
  hB : H < B0

section
variable {w wr w' : World} {M H B0 : Nat} {i0 i1 : Int} {hs : List Value} {v2 v3 v4 v5 : Value} {lq : List Qn} {la ln lr : List Rc}
theorem R0.later (h : R0 w wr M H B0 i0 i1 hs v2 v3 v4 v5 lq la ln lr) (hb : Below wr.heap.size wr w') : R0 w w' M H B0 i0 i1 hs v2 v3 v4 v5 lq la ln lr :=
  ⟨h.x.below (by simp) hb, h.f.below (by simp) hb, h.h.below h.hl hb, h.hl, row_below h.q hb, row_below h.a hb, row_below h.n hb, row_below h.r hb, h.n34, h.n35, h.n45, below_aside h.bel (Aside.of_all hb : Aside (fun _ => False) wr w') (fun k hk => ⟨by have := h.size; have := h.hB; have := h.hH; omega, id⟩), Nat.le_trans h.size hb.size, h.hH, h.hB⟩

end

end Go.Proofs.Ytcjgbholgbjejaa

/-
  The message that bytes are: Read.
-/
namespace Go.Proofs.Ytcjgbholgbjejaa
open Go.RowKit Go.Shelf
set_option linter.unusedVariables false
set_option linter.unusedSimpArgs false
set_option maxRecDepth 100000

section
variable {w wr w' : World} {M H B0 : Nat} {i0 i1 : Int} {hs : List Value} {v2 v3 v4 v5 : Value} {lq : List Qn} {la ln lr : List Rc}
theorem R0.drew (h : R0 w wr M H B0 i0 i1 hs v2 v3 v4 v5 lq la ln lr) : R0 w wr.drew M H B0 i0 i1 hs v2 v3 v4 v5 lq la ln lr := h.later (Below.refl _ _).drew
/-- What is read is the message. -/
theorem R0.mg (h : R0 w wr M H B0 i0 i1 hs v2 v3 v4 v5 lq la ln lr) (k0 : lq.length ≤ 65535) (k1 : la.length ≤ 65535) (k2 : ln.length ≤ 65535) (k3 : lr.length ≤ 65535) : Mg wr wr.heap.size (.agg #[.int .i64 i0, .int .i64 i1, v2, v3, v4, v5]) ⟨i0, i1, lq, la, ln, lr⟩ :=
  ⟨v2, v3, v4, v5, rfl, Lst.own h.q (by show lq.length ≤ 1000000; omega), Lst.own h.a (by show la.length ≤ 1000000; omega), Lst.own h.n (by show ln.length ≤ 1000000; omega), Lst.own h.r (by show lr.length ≤ 1000000; omega)⟩
end

end Go.Proofs.Ytcjgbholgbjejaa

/-
  Flags: the opcode, the code, another code; the statement about them.
-/
namespace Go.Proofs.Ytcjgbholgbjejaa
open Go.RowKit Go.Shelf
set_option linter.unusedVariables false
set_option linter.unusedSimpArgs false
set_option maxRecDepth 100000

theorem i64_and15 (n : Int) : bits .and .i64 n 15 = n % 16 := by
  have h15 : (BitVec.ofInt 64 15).toNat = 2 ^ 4 - 1 := by decide
  have key : (BitVec.ofInt 64 n &&& BitVec.ofInt 64 15).toNat = (n % ((2 ^ 64 : Nat) : Int)).toNat % 2 ^ 4 := by
    rw [BitVec.toNat_and, BitVec.toNat_ofInt, h15, Nat.and_two_pow_sub_one_eq_mod]
  show IntKind.i64.wrap ((BitVec.ofInt 64 n &&& BitVec.ofInt 64 15).toNat : Nat) = n % 16
  rw [key, IntKind.wrap_i64]
  omega
def cdF (f : Int) : Int := f % 16
/-- The same value is told, nothing in memory turns. -/
def Tell0 (w : World) (v : Value) (e : Ending) (w' : World) : Prop := e = .returned v ∧ w = w'

theorem mcode_any (f : Int) (w : World) : Calls Try.prog 28 #[.int .i64 f] w (Tell0 w (.int .i64 (cdF f))) := by
  go_enter Try.func28, Try.ntmps28
  go_wp2
  go_ret
  exact ⟨by rw [i64_and15]; rfl, rfl⟩
theorem rcode_any (f : Int) (w : World) : Calls Try.prog 41 #[.int .i64 f] w (Tell0 w (.int .i64 (cdF f))) := by
  go_enter Try.func41, Try.ntmps41
  go_wp2
  go_ret
  exact ⟨by rw [i64_and15]; rfl, rfl⟩
end Go.Proofs.Ytcjgbholgbjejaa

/-
  The bare answer: Reply, and its flags.
-/
namespace Go.Proofs.Ytcjgbholgbjejaa
open Go.RowKit Go.Shelf
set_option linter.unusedVariables false
set_option linter.unusedSimpArgs false
set_option maxRecDepth 100000

/-- The answer while questions are being taken over. -/
structure Rp (w wr : World) (N : Nat) (i f : Int) (qv : Value) (l : List Qn) : Prop where
  bel : Below N w wr
  z : Cel wr (N + 1) [.int .i64 0, .int .i64 0, .slice none 0 0, .slice none 0 0, .slice none 0 0, .slice none 0 0]
  r : Cel wr (N + 2) [.int .i64 i, .int .i64 f, qv, .slice none 0 0, .slice none 0 0, .slice none 0 0]
  own : OwnQn wr (N + 3) qv l
  size : N + 3 ≤ wr.heap.size

section
variable {w wr w' : World} {N : Nat} {i f : Int} {qv : Value} {l : List Qn}
theorem Rp.later (h : Rp w wr N i f qv l) (hb : Below wr.heap.size wr w') : Rp w w' N i f qv l :=
  ⟨below_aside h.bel (Aside.of_all hb : Aside (fun _ => False) wr w') (fun k hk => ⟨by have := h.size; omega, id⟩), h.z.below (by simp) hb, h.r.below (by simp) hb, row_below h.own hb, Nat.le_trans h.size hb.size⟩
theorem Rp.aside {b : Nat} (h : Rp w wr N i f qv l) (ha : Aside (fun k => k = b) wr w') (hb : N + 3 ≤ b) (ho : ∀ k, qv.ownBlock = some k → k ≠ b) : Rp w w' N i f qv l :=
  ⟨below_aside h.bel ha (fun k hk => ⟨by have := h.size; omega, by omega⟩), h.z.aside (by simp) ha (by omega), h.r.aside (by simp) ha (by omega), row_aside h.own ha ho, Nat.le_trans h.size ha.size⟩
/-- A question is laid behind the others. -/
theorem Rp.app (h : Rp w wr N i f qv l) {hi : Nat} {u : Value} {x : Qn} (hx : SQ wr hi u [x]) (hl : l.length + 1 ≤ 1000000) :
    ∃ a c w6, (Builtin.append_ #[22, 22] 22 #[qv, u]).run Try.prog wr = .ok (.slice a (l.length + 1) c) w6 ∧ w6.frozen? ⟨N + 2, 2, none⟩ = false ∧ w6.cell? ⟨N + 2, 2, none⟩ = some qv ∧
      Rp w (w6.setCell ⟨N + 2, 2, none⟩ (.slice a (l.length + 1) c)) N i f (.slice a (l.length + 1) c) (l ++ [x]) ∧ (∀ b, (Value.slice a (l.length + 1) c).ownBlock = some b → qv.ownBlock = some b ∨ wr.heap.size ≤ b) := by
  obtain ⟨a, c, w6, h1, h2, h3, h4⟩ := run_appQn h.own hx hl h.size
  simp only [List.length_singleton] at h1 h2 h4
  have hlt := World.ownsRow.lt h.own
  have hG : ∀ k, k < N + 3 → ¬ qv.ownBlock = some k := fun k hk hg => by have := (hlt k hg).1; omega
  have z6 := h.z.aside (by simp) h3 (hG _ (by omega))
  have r6 := h.r.aside (by simp) h3 (hG _ (by omega))
  have hs := Nat.le_trans h.size h3.size
  have hst : Aside (fun k => k = N + 2) w6 (w6.setCell ⟨N + 2, 2, none⟩ (.slice a (l.length + 1) c)) := Aside.setCell w6 (p := ⟨N + 2, 2, none⟩) _ rfl
  refine ⟨a, c, w6, h1, r6.fz 2, r6.c 2 (by simp), ⟨?_, z6.other (a := ⟨N + 2, 2, none⟩) (by show N + 2 ≠ N + 1; omega) _, r6.set (o := 2) (by simp) _, row_aside h2 hst fun k hk hg => by have := (World.ownsRow.lt h2 k hk).1; omega, Nat.le_trans hs hst.size⟩, fun b hb => ?_⟩
  · exact below_aside (below_aside h.bel h3 (fun k hk => ⟨by have := h.size; omega, hG k (by omega)⟩)) hst (fun k hk => ⟨by omega, by omega⟩)
  · rcases h4 with h4 | h4
    · exact .inl (by rw [← h4]; exact hb)
    · right
      rw [h4] at hb
      injection hb with hb
      omega
end

section
variable {w : World} {q : Nat} {a0 a1 a2 a3 a4 a5 : Value}
/-- Six cells stored one after another. -/
def put6 (w : World) (q : Nat) (b0 b1 b2 b3 b4 b5 : Value) : World :=
  (((((w.setCell ⟨q, 0, none⟩ b0).setCell ⟨q, 1, none⟩ b1).setCell ⟨q, 2, none⟩ b2).setCell ⟨q, 3, none⟩ b3).setCell ⟨q, 4, none⟩ b4).setCell ⟨q, 5, none⟩ b5
theorem cel_put6 (h : Cel w q [a0, a1, a2, a3, a4, a5]) (b0 b1 b2 b3 b4 b5 : Value) : Cel (put6 w q b0 b1 b2 b3 b4 b5) q [b0, b1, b2, b3, b4, b5] := by
  have := (((((h.set (o := 0) (by simp) b0).set (o := 1) (by simp) b1).set (o := 2) (by simp) b2).set (o := 3) (by simp) b3).set (o := 4) (by simp) b4).set (o := 5) (by simp) b5
  simp only [List.set_cons_zero, List.set_cons_succ] at this
  exact this
theorem aside_put6 (w : World) (q : Nat) (b0 b1 b2 b3 b4 b5 : Value) : Aside (fun k => k = q) w (put6 w q b0 b1 b2 b3 b4 b5) := by
  have st : ∀ (x : World) (o : Nat) (v : Value), Aside (fun k => k = q) x (x.setCell ⟨q, o, none⟩ v) := fun x o v => Aside.setCell x (p := ⟨q, o, none⟩) v rfl
  exact (((((st _ _ _).trans (st _ _ _)).trans (st _ _ _)).trans (st _ _ _)).trans (st _ _ _)).trans (st _ _ _)
end

theorem row_base {w : World} {B B' k n : Nat} {e : TypeId} {v : Value} {xs : List Value} (h : w.ownsRow B e k v n xs) (hB : B' ≤ B) : w.ownsRow B' e k v n xs := by
  refine ⟨h.1, ?_⟩
  rcases h.2 with h2 | ⟨g, cap, cur, h2⟩
  · exact .inl h2
  · exact .inr ⟨g, cap, cur, h2.1, Nat.le_trans hB h2.2.1, h2.2.2⟩

end Go.Proofs.Ytcjgbholgbjejaa

/-
  Questions and records copied with room to spare; that room is as it was.
-/
namespace Go.Proofs.Ytcjgbholgbjejaa
open Go.RowKit Go.Shelf
set_option linter.unusedVariables false
set_option linter.unusedSimpArgs false
set_option maxRecDepth 100000

/-- The marks. -/
def qmark : Qn := ⟨[], 7, 0⟩
def rmark : Rc := ⟨[], 7, 0, 0, []⟩
/-- A copy with a mark behind it. -/
def CpQ (w : World) (B : Nat) (v : Value) (l : List Qn) : Prop := ∃ a c, v = .slice a l.length c ∧ OwnQn w B (.slice a (l.length + 1) c) (l ++ [qmark])
def CpR (w : World) (B : Nat) (v : Value) (l : List Rc) : Prop := ∃ a c, v = .slice a l.length c ∧ OwnRc w B (.slice a (l.length + 1) c) (l ++ [rmark])
theorem own_cut (a : Option Addr) (n m c : Nat) : (Value.slice a n c).ownBlock = (Value.slice a m c).ownBlock := by cases a <;> rfl
section
variable {w w' : World} {B : Nat} {v : Value}
theorem CpQ.below {l : List Qn} (h : CpQ w B v l) (hb : Below w.heap.size w w') : CpQ w' B v l := by
  obtain ⟨a, c, rfl, h1⟩ := h
  exact ⟨a, c, rfl, row_below h1 hb⟩
theorem CpR.below {l : List Rc} (h : CpR w B v l) (hb : Below w.heap.size w w') : CpR w' B v l := by
  obtain ⟨a, c, rfl, h1⟩ := h
  exact ⟨a, c, rfl, row_below h1 hb⟩
theorem CpQ.base {B' : Nat} {l : List Qn} (h : CpQ w B v l) (hB : B' ≤ B) : CpQ w B' v l := by
  obtain ⟨a, c, rfl, h1⟩ := h
  exact ⟨a, c, rfl, row_base h1 hB⟩
theorem CpR.base {B' : Nat} {l : List Rc} (h : CpR w B v l) (hB : B' ≤ B) : CpR w B' v l := by
  obtain ⟨a, c, rfl, h1⟩ := h
  exact ⟨a, c, rfl, row_base h1 hB⟩
theorem CpQ.aside {G : Nat → Prop} {l : List Qn} (h : CpQ w B v l) (ha : Aside G w w') (hG : ∀ k, v.ownBlock = some k → ¬ G k) : CpQ w' B v l := by
  obtain ⟨a, c, rfl, h1⟩ := h
  exact ⟨a, c, rfl, row_aside h1 ha fun k hk => hG k (by rw [own_cut a _ (l.length + 1)]; exact hk)⟩
theorem CpR.aside {G : Nat → Prop} {l : List Rc} (h : CpR w B v l) (ha : Aside G w w') (hG : ∀ k, v.ownBlock = some k → ¬ G k) : CpR w' B v l := by
  obtain ⟨a, c, rfl, h1⟩ := h
  exact ⟨a, c, rfl, row_aside h1 ha fun k hk => hG k (by rw [own_cut a _ (l.length + 1)]; exact hk)⟩
theorem CpQ.lt {l : List Qn} (h : CpQ w B v l) : ∀ k, v.ownBlock = some k → B ≤ k ∧ k < w.heap.size := by
  obtain ⟨a, c, rfl, h1⟩ := h
  exact fun k hk => World.ownsRow.lt h1 k (by rw [own_cut a _ l.length]; exact hk)
theorem CpR.lt {l : List Rc} (h : CpR w B v l) : ∀ k, v.ownBlock = some k → B ≤ k ∧ k < w.heap.size := by
  obtain ⟨a, c, rfl, h1⟩ := h
  exact fun k hk => World.ownsRow.lt h1 k (by rw [own_cut a _ l.length]; exact hk)
theorem CpQ.sq {l : List Qn} (h : CpQ w B v l) (hl : l.length ≤ 900000) : SQ w w.heap.size v l := by
  obtain ⟨a, c, rfl, h1⟩ := h
  have h2 := Lst.own h1 (by rw [List.length_append, List.length_singleton]; omega)
  rw [List.length_append, List.length_singleton, acq_app] at h2
  exact Lst.part h2 (by omega)
theorem CpR.sr {l : List Rc} (h : CpR w B v l) (hl : l.length ≤ 900000) : SR w w.heap.size v l := by
  obtain ⟨a, c, rfl, h1⟩ := h
  have h2 := Lst.own h1 (by rw [List.length_append, List.length_singleton]; omega)
  rw [List.length_append, List.length_singleton, acr_app] at h2
  exact Lst.part h2 (by omega)
end

/-- make, and what comes of it. -/
theorem make_qn (w : World) (n : Nat) (hn : n ≤ 900000) : ∃ w', (Instr.makeSlice 22 (.int .i64 0) (.int .i64 ((n : Int) + 2))).run Try.prog w = .ok (.slice (some ⟨w.heap.size, 0, none⟩) 0 (n + 2)) w' ∧ OwnQn w' w.heap.size (.slice (some ⟨w.heap.size, 0, none⟩) 0 (n + 2)) [] ∧ Below w.heap.size w w' := by
  obtain ⟨i0, hi, hz0, hz1, hz2⟩ := info_parts info_qn
  obtain ⟨w', h1, h2, h3⟩ := run_makeSlice_owned (P := Try.prog) (w := w) w.heap.size 22 50 i0 _ 3 Try.underlying22 hi hz0 hz1 .i64 .i64 (n + 2) (by omega) (by rw [hz2]; omega) (by unfold maxLen; omega) (Nat.le_refl _)
  exact ⟨w', by rw [show ((n : Int) + 2) = ((n + 2 : Nat) : Int) by omega]; exact h1, h2, (Aside.grown h3 (G := fun _ => False) fun _ h => by simp at h).below fun k hk => ⟨hk, id⟩⟩
theorem make_rc (w : World) (n : Nat) (hn : n ≤ 900000) : ∃ w', (Instr.makeSlice 23 (.int .i64 0) (.int .i64 ((n : Int) + 2))).run Try.prog w = .ok (.slice (some ⟨w.heap.size, 0, none⟩) 0 (n + 2)) w' ∧ OwnRc w' w.heap.size (.slice (some ⟨w.heap.size, 0, none⟩) 0 (n + 2)) [] ∧ Below w.heap.size w w' := by
  obtain ⟨i0, hi, hz0, hz1, hz2⟩ := info_parts info_rc
  obtain ⟨w', h1, h2, h3⟩ := run_makeSlice_owned (P := Try.prog) (w := w) w.heap.size 23 48 i0 _ 5 Try.underlying23 hi hz0 hz1 .i64 .i64 (n + 2) (by omega) (by rw [hz2]; omega) (by unfold maxLen; omega) (Nat.le_refl _)
  exact ⟨w', by rw [show ((n : Int) + 2) = ((n + 2 : Nat) : Int) by omega]; exact h1, h2, (Aside.grown h3 (G := fun _ => False) fun _ h => by simp at h).below fun k hk => ⟨hk, id⟩⟩
/-- A row's first entries, and one more than a slice has. -/
theorem size_qn (wx : World) : (sizeOf (Try.prog.elem 22)).run Try.prog wx = .ok 3 wx := by kernel_rfl
theorem size_rc (wx : World) : (sizeOf (Try.prog.elem 23)).run Try.prog wx = .ok 5 wx := by kernel_rfl
theorem cut_qn (a : Option Addr) (n m c : Nat) (hm : m ≤ c) (wx : World) : (Instr.slice 22 (.slice a n c) none (some (.int .i64 m)) none).run Try.prog wx = .ok (.slice a m c) wx := by
  rw [run_slice_h (P := Try.prog) wx 22 a n c Try.underlying22 .i64 m (by omega) (by omega), size_qn]
  show Result.ok (sliced a 0 m c 3) wx = _
  unfold sliced
  by_cases h0 : c = 0
  · rw [if_pos h0, Nat.sub_zero, Nat.sub_zero]
  · rw [if_neg h0, Nat.sub_zero, Nat.sub_zero]
    cases a with
    | none => rfl
    | some x => simp [Addr.add]
theorem cut_rc (a : Option Addr) (n m c : Nat) (hm : m ≤ c) (wx : World) : (Instr.slice 23 (.slice a n c) none (some (.int .i64 m)) none).run Try.prog wx = .ok (.slice a m c) wx := by
  rw [run_slice_h (P := Try.prog) wx 23 a n c Try.underlying23 .i64 m (by omega) (by omega), size_rc]
  show Result.ok (sliced a 0 m c 5) wx = _
  unfold sliced
  by_cases h0 : c = 0
  · rw [if_pos h0, Nat.sub_zero, Nat.sub_zero]
  · rw [if_neg h0, Nat.sub_zero, Nat.sub_zero]
    cases a with
    | none => rfl
    | some x => simp [Addr.add]
theorem row_cap {w : World} {B k n : Nat} {e : TypeId} {a : Option Addr} {m c : Nat} {xs : List Value} (h : w.ownsRow B e k (.slice a m c) n xs) : n ≤ c := by
  rcases h.2 with ⟨h2, h0⟩ | ⟨g, cap, cur, h2, _, _, h3, _⟩
  · omega
  · injection h2 with _ _ h2
    omega

set_option maxHeartbeats 2000000 in
theorem copyR_any {w : World} {hi : Nat} {u : Value} {l : List Rc} (h : SR w hi u l) (h1 : hi ≤ w.heap.size) (hl : l.length ≤ 900000) :
    Calls Try.prog 30 #[u] w (fun e w' => ∃ v, e = .returned v ∧ CpR w' w.heap.size v l ∧ Below w.heap.size w w') := by
  obtain ⟨w1, hmk, ho1, hb1⟩ := make_rc w l.length hl
  have hu1 : SR w1 hi u l := Lst.below h hb1 h1
  obtain ⟨a2, c2, w2, hr2, ho2, ha2, hk2⟩ := run_appRc ho1 hu1 (by simp; omega) hb1.size
  simp only [List.length_nil, Nat.zero_add, List.nil_append] at hr2 ho2
  have hl1 := World.ownsRow.lt ho1
  have hb2 : Below w.heap.size w w2 := below_aside hb1 ha2 (fun k hk => ⟨Nat.lt_of_lt_of_le hk hb1.size, fun hg => by have := (hl1 k hg).1; omega⟩)
  have hone := sr_one w2 rmark
  have hb3 : Below w.heap.size w (w2.alloc (.cells #[.string (bs rmark.n), .int .i64 rmark.t, .int .i64 rmark.c, .int .i64 rmark.l, .string (bs rmark.d)] 48)) := bel_alloc hb2 _
  obtain ⟨a4, c4, w4, hr4, ho4, ha4, _⟩ := run_appRc (World.ownsRow.alloc ho2 _ : OwnRc (w2.alloc (.cells #[.string (bs rmark.n), .int .i64 rmark.t, .int .i64 rmark.c, .int .i64 rmark.l, .string (bs rmark.d)] 48)) _ _ _) hone (by simp; omega) hb3.size
  simp only [List.length_singleton] at hr4 ho4
  have hl2 := World.ownsRow.lt ho2
  have hb4 : Below w.heap.size w w4 := below_aside hb3 ha4 (fun k hk => ⟨Nat.lt_of_lt_of_le hk hb3.size, fun hg => by have := (hl2 k hg).1; omega⟩)
  have hcut := cut_rc a4 (l.length + 1) l.length c4 (by have := row_cap ho4; rw [List.length_append, List.length_singleton] at this; omega)
  have HO := Lib.hid (show CpR w4 w.heap.size (.slice a4 l.length c4) l from ⟨_, _, rfl, ho4⟩)
  have HB := Lib.hid hb4
  have HR2 := Lib.hid hr2
  have HR4 := Lib.hid hr4
  have HLN := Lib.hid hl
  obtain ⟨a, c, rfl⟩ := Lst.shape h
  obtain ⟨n, hn⟩ : ∃ n, l.length = n := ⟨_, rfl⟩
  rw [hn] at HO HR2 HR4 hcut hmk HLN ⊢
  clear h h1 hl ho1 hb1 hu1 hr2 ho2 ha2 hk2 hl1 hb2 hone hb3 hr4 ho4 ha4 hl2 hb4
  have hn2 := HLN.out
  go_enter Try.func30, Try.ntmps30
  go_wp2_with (first | (at_builtin; refine wpList_append_run (.tmp 6) (.tmp 7) 23 23 rfl rfl rfl rfl HR2.out ?_) | (at_builtin; refine wpList_append_run (.tmp 8) (.tmp 10) 23 23 rfl rfl rfl rfl HR4.out ?_))
  go_ret
  exact ⟨_, rfl, HO.out, HB.out⟩
end Go.Proofs.Ytcjgbholgbjejaa
