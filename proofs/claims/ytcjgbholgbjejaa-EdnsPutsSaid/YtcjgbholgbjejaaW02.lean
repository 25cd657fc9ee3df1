/-
  Acts that came in: records, whether they are asked alone, places.
-/
import Derived.Test.YtcjgbholgbjejaaW01
import Derived.Deep.Slices
import Derived.Deep.LoopGhost
import Derived.ChangeArms
import Derived.Outline
import Derived.Laws.StructEq
import Derived.Laws.OwnMore
import Derived.BigQuiet
import Derived.Deep.RegionLaw
import Derived.Test.YtcjgbholgbjejaaW00
import Derived.Deep.RegionHeld3
import Derived.Lib.FrozenHead
import Derived.BigRegion
import Derived.RegionTactic
import Derived.Recover
import Derived.Defers
import Derived.WalkLawsBesides
import Derived.Test.YtcjgbholgbjejaaShelf
import Derived.Laws.Bits128
namespace Go.Proofs.Ytcjgbholgbjejaa
open Go.RowKit Go.Shelf
set_option linter.unusedVariables false
set_option linter.unusedSimpArgs false
set_option maxRecDepth 100000

/-- The cells of a record. -/
def AtR (w : World) (b o : Nat) (x : Rc) : Prop :=
  w.cell? ⟨b, o, none⟩ = some (.string (bs x.n)) ∧ w.cell? ⟨b, o + 1, none⟩ = some (.int .i64 x.t) ∧ w.cell? ⟨b, o + 2, none⟩ = some (.int .i64 x.c) ∧ w.cell? ⟨b, o + 3, none⟩ = some (.int .i64 x.l) ∧ w.cell? ⟨b, o + 4, none⟩ = some (.string (bs x.d))

theorem AtR.keep {w w' : World} {b o : Nat} {x : Rc} (h : AtR w b o x) (hk : ∀ o, w'.cell? ⟨b, o, none⟩ = w.cell? ⟨b, o, none⟩) : AtR w' b o x :=
  ⟨(hk _).trans h.1, (hk _).trans h.2.1, (hk _).trans h.2.2.1, (hk _).trans h.2.2.2.1, (hk _).trans h.2.2.2.2⟩

/-- A record, whether its question alone is asked, whether the place is one as it is, the place. -/
structure AR where
  x : Rc
  k : Bool
  r : Bool
  a : Int

/-- The cells of an act. -/
def AtA (w : World) (b o : Nat) (y : AR) : Prop :=
  AtR w b o y.x ∧ w.cell? ⟨b, o + 5, none⟩ = some (.bool y.k) ∧ w.cell? ⟨b, o + 6, none⟩ = some (.bool y.r) ∧ w.cell? ⟨b, o + 7, none⟩ = some (.int .i64 y.a)

/-- The slice v reads as these acts; what it leads to lies in blocks below hi. -/
def Ar (w : World) (hi : Nat) (v : Value) (l : List AR) : Prop :=
  ∃ a c, v = .slice a l.length c ∧ (0 < l.length → ∃ b off, a = some ⟨b, off, none⟩ ∧ b < hi ∧ ∀ j (h : j < l.length), AtA w b (off + j * 8) l[j])

theorem AtA.keep {w w' : World} {b o : Nat} {y : AR} (h : AtA w b o y) (hk : ∀ o, w'.cell? ⟨b, o, none⟩ = w.cell? ⟨b, o, none⟩) : AtA w' b o y :=
  ⟨h.1.keep hk, (hk _).trans h.2.1, (hk _).trans h.2.2.1, (hk _).trans h.2.2.2⟩

theorem Ar.below {w w' : World} {hi B : Nat} {v : Value} {l : List AR} (h : Ar w hi v l) (hb : Below B w w') (hB : hi ≤ B) : Ar w' hi v l := by
  obtain ⟨a, c, rfl, hx⟩ := h
  refine ⟨a, c, rfl, fun h0 => ?_⟩
  obtain ⟨b, off, rfl, h1, h2⟩ := hx h0
  exact ⟨b, off, rfl, h1, fun j hj => (h2 j hj).keep fun o => hb.cell (p := ⟨b, o, none⟩) (Nat.lt_of_lt_of_le h1 hB)⟩

theorem cells_rec : Try.prog.cellsOf 48 = 5 := by kernel_rfl
theorem cellsC_str : Try.prog.cellsOf 9 = 1 := by kernel_rfl
theorem cellsC_int : Try.prog.cellsOf 3 = 1 := by kernel_rfl
/-- What a record's cells are. -/
theorem open_rec {H : Type} {enc : TypeId × Value → H} {w : World} {base fuel : Nat} {spare : Nat → Bool} {held : Bool} {cs : List Value} {x : DataW H × List MemPlace}
    (h : DataW.trod enc Try.prog w base spare held fuel 48 cs = some x) (hl : cs.length = 5) : ∃ (s : ByteArray) (t c l : Int) (d : ByteArray), cs = [.string s, .int .i64 t, .int .i64 c, .int .i64 l, .string d] := by
  cases fuel with
  | zero => simp [DataW.trod] at h
  | succ fuel =>
    obtain ⟨xs, k, _, _, _, h9, h10⟩ := DataW.trod_struct Try.underlying48 h
    match cs, hl with
    | [v0, v1, v2, v3, v4], _ =>
      have g0 := h10 0 _ rfl
      have g1 := h10 1 _ rfl
      have g2 := h10 2 _ rfl
      have g3 := h10 3 _ rfl
      have g4 := h10 4 _ rfl
      match xs, h9 with
      | [y0, y1, y2, y3, y4], _ =>
        simp [cellsC_str, cellsC_int] at g0 g1 g2 g3 g4
        obtain ⟨s, k0, _, _⟩ := DataW.trod_string Try.underlying9 g0
        obtain ⟨t, k1, _, _⟩ := DataW.trod_int Try.underlying3 g1
        obtain ⟨c, k2, _, _⟩ := DataW.trod_int Try.underlying3 g2
        obtain ⟨l, k3, _, _⟩ := DataW.trod_int Try.underlying3 g3
        obtain ⟨d, k4, _, _⟩ := DataW.trod_string Try.underlying9 g4
        injection k0 with k0 _
        injection k1 with k1 _
        injection k2 with k2 _
        injection k3 with k3 _
        injection k4 with k4 _
        subst k0; subst k1; subst k2; subst k3; subst k4
        exact ⟨s, t, c, l, d, rfl⟩

end Go.Proofs.Ytcjgbholgbjejaa

/-
  Questions, records, messages in memory; the same ones are told the same.
-/
namespace Go.Proofs.Ytcjgbholgbjejaa
open Go.RowKit Go.Shelf
set_option linter.unusedVariables false
set_option linter.unusedSimpArgs false
set_option maxRecDepth 100000

/-- The cells of a question. -/
def cq (x : Qn) : List Value := [.string (bs x.n), .int .i64 x.t, .int .i64 x.c]
/-- The cells of a record. -/
def cr (x : Rc) : List Value := [.string (bs x.n), .int .i64 x.t, .int .i64 x.c, .int .i64 x.l, .string (bs x.d)]
def acq (l : List Qn) : List Value := l.flatMap cq
def acr (l : List Rc) : List Value := l.flatMap cr
theorem acq_len (l : List Qn) : (acq l).length = l.length * 3 := flat_len (f := cq) (k := 3) (fun _ => rfl) l
theorem acr_len (l : List Rc) : (acr l).length = l.length * 5 := flat_len (f := cr) (k := 5) (fun _ => rfl) l
theorem acq_app (l m : List Qn) : acq (l ++ m) = acq l ++ acq m := List.flatMap_append
theorem acr_app (l m : List Rc) : acr (l ++ m) = acr l ++ acr m := List.flatMap_append
theorem acq_one (l : List Qn) : ∀ u ∈ acq l, u.oneCell' = true := flat_one (fun x u hu => by
  simp only [cq, List.mem_cons, List.mem_nil_iff, or_false] at hu
  rcases hu with rfl | rfl | rfl <;> rfl) l
theorem acr_one (l : List Rc) : ∀ u ∈ acr l, u.oneCell' = true := flat_one (fun x u hu => by
  simp only [cr, List.mem_cons, List.mem_nil_iff, or_false] at hu
  rcases hu with rfl | rfl | rfl | rfl | rfl <;> rfl) l

/-- The cells of a question stand at a place. -/
def AtQn (w : World) (b o : Nat) (x : Qn) : Prop := w.cell? ⟨b, o, none⟩ = some (.string (bs x.n)) ∧ w.cell? ⟨b, o + 1, none⟩ = some (.int .i64 x.t) ∧ w.cell? ⟨b, o + 2, none⟩ = some (.int .i64 x.c)
theorem AtQn.keep {w w' : World} {b o : Nat} {x : Qn} (h : AtQn w b o x) (hk : ∀ o, w'.cell? ⟨b, o, none⟩ = w.cell? ⟨b, o, none⟩) : AtQn w' b o x := ⟨(hk _).trans h.1, (hk _).trans h.2.1, (hk _).trans h.2.2⟩

/-- The slice v reads as these questions. -/
def SQ (w : World) (hi : Nat) (v : Value) (l : List Qn) : Prop := Lst w hi v l.length (acq l)
/-- The slice v reads as these records. -/
def SR (w : World) (hi : Nat) (v : Value) (l : List Rc) : Prop := Lst w hi v l.length (acr l)
/-- A row of questions of the call's own. -/
def OwnQn (w : World) (B : Nat) (v : Value) (l : List Qn) : Prop := w.ownsRow B 50 3 v l.length (acq l)
/-- A row of records of the call's own. -/
def OwnRc (w : World) (B : Nat) (v : Value) (l : List Rc) : Prop := w.ownsRow B 48 5 v l.length (acr l)

theorem SQ.at_ {w : World} {hi : Nat} {v : Value} {l : List Qn} (h : SQ w hi v l) (j : Nat) (hj : j < l.length) : ∃ b off c, v = .slice (some ⟨b, off, none⟩) l.length c ∧ b < hi ∧ AtQn w b (off + j * 3) l[j] := by
  obtain ⟨a, c, rfl, _, _, hx⟩ := h
  obtain ⟨b, off, rfl, h1, h2⟩ := hx (by omega)
  have e := fun i u hu => h2 _ _ (flat_at (f := cq) (k := 3) (fun _ => rfl) l j hj i u hu)
  simp only [← Nat.add_assoc] at e
  exact ⟨b, off, c, rfl, h1, e 0 _ rfl, e 1 _ rfl, e 2 _ rfl⟩
theorem SR.at_ {w : World} {hi : Nat} {v : Value} {l : List Rc} (h : SR w hi v l) (j : Nat) (hj : j < l.length) : ∃ b off c, v = .slice (some ⟨b, off, none⟩) l.length c ∧ b < hi ∧ AtR w b (off + j * 5) l[j] := by
  obtain ⟨a, c, rfl, _, _, hx⟩ := h
  obtain ⟨b, off, rfl, h1, h2⟩ := hx (by omega)
  have e := fun i u hu => h2 _ _ (flat_at (f := cr) (k := 5) (fun _ => rfl) l j hj i u hu)
  simp only [← Nat.add_assoc] at e
  exact ⟨b, off, c, rfl, h1, e 0 _ rfl, e 1 _ rfl, e 2 _ rfl, e 3 _ rfl, e 4 _ rfl⟩

/-- The value v reads as this message. -/
def Mg (w : World) (hi : Nat) (v : Value) (m : Ms) : Prop := ∃ q a n r, v = .agg #[.int .i64 m.id, .int .i64 m.fl, q, a, n, r] ∧ SQ w hi q m.q ∧ SR w hi a m.an ∧ SR w hi n m.ns ∧ SR w hi r m.ar
theorem Mg.below {w w' : World} {hi B : Nat} {v : Value} {m : Ms} (h : Mg w hi v m) (hb : Below B w w') (hB : hi ≤ B) : Mg w' hi v m := by
  obtain ⟨q, a, n, r, rfl, h1, h2, h3, h4⟩ := h
  exact ⟨q, a, n, r, rfl, Lst.below h1 hb hB, Lst.below h2 hb hB, Lst.below h3 hb hB, Lst.below h4 hb hB⟩
theorem Mg.wide {w : World} {hi hi' : Nat} {v : Value} {m : Ms} (h : Mg w hi v m) (hh : hi ≤ hi') : Mg w hi' v m := by
  obtain ⟨q, a, n, r, rfl, h1, h2, h3, h4⟩ := h
  exact ⟨q, a, n, r, rfl, Lst.wide h1 hh, Lst.wide h2 hh, Lst.wide h3 hh, Lst.wide h4 hh⟩
theorem Mg.later {w w' : World} {v : Value} {m : Ms} (h : Mg w w.heap.size v m) (hb : Below w.heap.size w w') : Mg w' w'.heap.size v m := (h.below hb (Nat.le_refl _)).wide hb.size

theorem neqQ (x : Qn) (w : World) : (binOp .neq 50 (.agg #[.string (bs x.n), .int .i64 x.t, .int .i64 x.c]) (.agg #[.string (bs x.n), .int .i64 x.t, .int .i64 x.c])).run Try.prog w = .ok (.bool false) w := by
  have hS : Try.prog.underlying 50 = some (.struct (Try.prog.fieldsOf 50)) := by kernel_rfl
  have hI : Try.prog.stoodInHeld 50 = false := by kernel_rfl
  have u3 := Try.underlying3
  have u9 := Try.underlying9
  have a3 := Try.isAgg3
  have z3 := Try.sizeOf3
  have a9 := Try.isAgg9
  have z9 := Try.sizeOf9
  rw [run_neq_struct, run_equalIn_agg _ _ _ _ _ hS hI]
  simp only [Program.fieldsOf, Try.underlying50]
  go_simp
theorem neqR (x : Rc) (w : World) : (binOp .neq 48 (.agg #[.string (bs x.n), .int .i64 x.t, .int .i64 x.c, .int .i64 x.l, .string (bs x.d)]) (.agg #[.string (bs x.n), .int .i64 x.t, .int .i64 x.c, .int .i64 x.l, .string (bs x.d)])).run Try.prog w = .ok (.bool false) w := by
  have hS : Try.prog.underlying 48 = some (.struct (Try.prog.fieldsOf 48)) := by kernel_rfl
  have hI : Try.prog.stoodInHeld 48 = false := by kernel_rfl
  have u3 := Try.underlying3
  have u9 := Try.underlying9
  have a3 := Try.isAgg3
  have z3 := Try.sizeOf3
  have a9 := Try.isAgg9
  have z9 := Try.sizeOf9
  rw [run_neq_struct, run_equalIn_agg _ _ _ _ _ hS hI]
  simp only [Program.fieldsOf, Try.underlying48]
  go_simp
end Go.Proofs.Ytcjgbholgbjejaa

/-
  What a message says besides, plainly: options as bytes and back, what is told of a message, what is put into it, what is left of it.
-/
namespace Go.Proofs.Ytcjgbholgbjejaa
open Go.RowKit Go.Shelf
set_option linter.unusedVariables false
set_option linter.unusedSimpArgs false
set_option maxRecDepth 100000

/-- An option: its code, its data. -/
structure Ot where
  c : Int
  d : List UInt8
/-- What is said besides: how many bytes, the code's upper part, a version, a flag, options. -/
structure Ed where
  s : Int
  x : Int
  v : Int
  b : Bool
  o : List Ot
def ed0 : Ed := ⟨0, 0, 0, false, []⟩

/-! ### options as bytes, and back -/

def b2 (n : Int) : List UInt8 := [UInt8.ofNat (n / 256).toNat, UInt8.ofNat (n % 256).toNat]
/-- An option's bytes. -/
def otB (x : Ot) : List UInt8 := b2 x.c ++ (b2 x.d.length ++ x.d)
def otsB (l : List Ot) : List UInt8 := l.flatMap otB
/-- The number of two bytes. -/
def n2 (b : List UInt8) (p : Nat) : Nat := (b.getD p 0).toNat * 256 + (b.getD (p + 1) 0).toNat
/-- How an option at a place is read: what it is, and where it ends; or where there is too little. -/
inductive OtR where
  | ok (x : Ot) (q : Nat)
  | bad (a : Nat)
def otR (b : List UInt8) (p : Nat) : OtR :=
  if b.length < p + 4 then .bad b.length
  else if b.length < p + 4 + n2 b (p + 2) then .bad b.length
  else .ok ⟨n2 b p, (b.drop (p + 4)).take (n2 b (p + 2))⟩ (p + 4 + n2 b (p + 2))
/-- The options from a place on; and whether they end in a fault. -/
def otsR (b : List UInt8) : Nat → Nat → List Ot × Bool
  | 0, _ => ([], true)
  | n + 1, p =>
    if b.length ≤ p then ([], true) else
      match otR b p with
      | .bad _ => ([], false)
      | .ok x q => (x :: (otsR b n q).1, (otsR b n q).2)

theorem otR_lt {b : List UInt8} {p : Nat} {x : Ot} {q : Nat} (h : otR b p = .ok x q) : p + 4 ≤ q ∧ q ≤ b.length := by
  unfold otR at h
  split at h
  · cases h
  · split at h
    · cases h
    · injection h with h1 h2
      omega

/-! ### records -/

def isO (x : Rc) : Bool := decide (x.t = 41)
def opL (l : List Rc) : List Rc := l.filter isO
def noL (l : List Rc) : List Rc := l.filter fun x => !isO x
/-- What a record of the type says: what, and the error. -/
def recR (x : Rc) : Ed × Int :=
  if x.n = [0] ∧ (0 ≤ x.c ∧ x.c ≤ 65535) ∧ (0 ≤ x.l ∧ x.l ≤ 2147483647) ∧ (otsR x.d x.d.length 0).2 = true then
    (⟨x.c, x.l / 16777216, x.l / 65536 % 256, decide (x.l / 32768 % 2 = 1), (otsR x.d x.d.length 0).1⟩, 0)
  else (ed0, 4)
/-- What a message says besides: what; whether; the error. -/
def ofM (m : Ms) : Ed × Bool × Int :=
  if (opL m.an).length + (opL m.ns).length = 0 ∧ opL m.ar = [] then (ed0, false, 0)
  else match (opL m.an).length + (opL m.ns).length, opL m.ar with
    | 0, [x] => ((recR x).1, decide ((recR x).2 = 0), (recR x).2)
    | _, _ => (ed0, false, 4)
/-- A message without that. -/
def stM (m : Ms) : Ms := ⟨m.id, m.fl, m.q, noL m.an, noL m.ns, noL m.ar⟩
/-- The record of what is said. -/
def edR (e : Ed) : Rc := ⟨[0], 41, e.s, e.x * 16777216 + e.v * 65536 + (if e.b then 32768 else 0), otsB e.o⟩
/-- May it be said? -/
def bnd (n m : Int) : Bool := decide (0 ≤ n) && decide (n ≤ m)
def szO (l : List Ot) : Nat := (l.map fun x => 4 + x.d.length).sum
def chkE (e : Ed) : Int :=
  if bnd e.s 65535 = true ∧ bnd e.x 127 = true ∧ bnd e.v 255 = true ∧ (e.o.all fun x => bnd x.c 65535) = true then (if 65535 < szO e.o then 2 else 0) else 5
/-- A message that says it. -/
def adM (m : Ms) (e : Ed) : Ms := ⟨m.id, m.fl, m.q, m.an, m.ns, m.ar ++ [edR e]⟩
def puM (m : Ms) (e : Ed) : Ms × Int :=
  if chkE e ≠ 0 then (⟨0, 0, [], [], [], []⟩, chkE e)
  else if 0 < (opL m.an).length + (opL m.ns).length + (opL m.ar).length then (⟨0, 0, [], [], [], []⟩, 7)
  else (adM m e, 0)
def roM (m : Ms) : Int := if 512 ≤ (ofM m).1.s then (ofM m).1.s else 512

/-! ### in memory -/

/-- The cells of an option. -/
def co (x : Ot) : List Value := [.int .i64 x.c, .string (bs x.d)]
def aco (l : List Ot) : List Value := l.flatMap co
theorem aco_len (l : List Ot) : (aco l).length = l.length * 2 := flat_len (f := co) (k := 2) (fun _ => rfl) l
theorem aco_app (l m : List Ot) : aco (l ++ m) = aco l ++ aco m := List.flatMap_append
theorem aco_one (l : List Ot) : ∀ u ∈ aco l, u.oneCell' = true := flat_one (fun x u hu => by
  simp only [co, List.mem_cons, List.mem_nil_iff, or_false] at hu
  rcases hu with rfl | rfl <;> rfl) l
def AtO (w : World) (b o : Nat) (x : Ot) : Prop := w.cell? ⟨b, o, none⟩ = some (.int .i64 x.c) ∧ w.cell? ⟨b, o + 1, none⟩ = some (.string (bs x.d))
theorem AtO.keep {w w' : World} {b o : Nat} {x : Ot} (h : AtO w b o x) (hk : ∀ o, w'.cell? ⟨b, o, none⟩ = w.cell? ⟨b, o, none⟩) : AtO w' b o x := ⟨(hk _).trans h.1, (hk _).trans h.2⟩
/-- The slice v reads as these options. -/
def SO (w : World) (hi : Nat) (v : Value) (l : List Ot) : Prop := Lst w hi v l.length (aco l)
/-- A row of options of the call's own. -/
def OwnO (w : World) (B : Nat) (v : Value) (l : List Ot) : Prop := w.ownsRow B 61 2 v l.length (aco l)
theorem SO.at_ {w : World} {hi : Nat} {v : Value} {l : List Ot} (h : SO w hi v l) (j : Nat) (hj : j < l.length) : ∃ b off c, v = .slice (some ⟨b, off, none⟩) l.length c ∧ b < hi ∧ AtO w b (off + j * 2) l[j] := by
  obtain ⟨a, c, rfl, _, _, hx⟩ := h
  obtain ⟨b, off, rfl, h1, h2⟩ := hx (by omega)
  have e := fun i u hu => h2 _ _ (flat_at (f := co) (k := 2) (fun _ => rfl) l j hj i u hu)
  simp only [← Nat.add_assoc] at e
  exact ⟨b, off, c, rfl, h1, e 0 _ rfl, e 1 _ rfl⟩
/-- The value v reads as what is said besides. -/
def Eg (w : World) (hi : Nat) (v : Value) (e : Ed) : Prop := ∃ o, v = .agg #[.int .i64 e.s, .int .i64 e.x, .int .i64 e.v, .bool e.b, o] ∧ SO w hi o e.o
theorem Eg.below {w w' : World} {hi B : Nat} {v : Value} {e : Ed} (h : Eg w hi v e) (hb : Below B w w') (hB : hi ≤ B) : Eg w' hi v e := by
  obtain ⟨o, rfl, h1⟩ := h
  exact ⟨o, rfl, Lst.below h1 hb hB⟩
theorem Eg.wide {w : World} {hi hi' : Nat} {v : Value} {e : Ed} (h : Eg w hi v e) (hh : hi ≤ hi') : Eg w hi' v e := by
  obtain ⟨o, rfl, h1⟩ := h
  exact ⟨o, rfl, Lst.wide h1 hh⟩
theorem Eg.later {w w' : World} {v : Value} {e : Ed} (h : Eg w w.heap.size v e) (hb : Below w.heap.size w w') : Eg w' w'.heap.size v e := (h.below hb (Nat.le_refl _)).wide hb.size
/-- The value v is what is said besides, its options in a row of the call's own. -/
def Egw (w : World) (B : Nat) (v : Value) (e : Ed) : Prop := ∃ o, v = .agg #[.int .i64 e.s, .int .i64 e.x, .int .i64 e.v, .bool e.b, o] ∧ OwnO w B o e.o
theorem Egw.eg {w : World} {B : Nat} {v : Value} {e : Ed} (h : Egw w B v e) (hl : e.o.length ≤ 1000000) : Eg w w.heap.size v e := by
  obtain ⟨o, rfl, h1⟩ := h
  exact ⟨o, rfl, Lst.own h1 hl⟩
theorem Egw.aside {G : Nat → Prop} {w w' : World} {B : Nat} {v : Value} {e : Ed} (h : Egw w B v e) (ha : Aside G w w') (hG : ∀ k, B ≤ k → ¬ G k) : Egw w' B v e := by
  obtain ⟨o, rfl, h1⟩ := h
  exact ⟨o, rfl, row_aside h1 ha fun k hk => hG k (World.ownsRow.lt h1 k hk).1⟩
theorem Egw.below {w w' : World} {B : Nat} {v : Value} {e : Ed} (h : Egw w B v e) (hb : Below w.heap.size w w') : Egw w' B v e := h.aside (Aside.of_all hb : Aside (fun _ => False) w w') fun _ _ h => h
theorem Egw.base {w : World} {B B' : Nat} {v : Value} {e : Ed} (h : Egw w B v e) (hB : B' ≤ B) : Egw w B' v e := by
  obtain ⟨o, rfl, h1⟩ := h
  refine ⟨o, rfl, h1.1, ?_⟩
  rcases h1.2 with h2 | ⟨g, cap, cur, h2⟩
  · exact .inl h2
  · exact .inr ⟨g, cap, cur, h2.1, Nat.le_trans hB h2.2.1, h2.2.2⟩
theorem egw_zero (w : World) (B : Nat) : Egw w B (.agg #[.int .i64 0, .int .i64 0, .int .i64 0, .bool false, .slice none 0 0]) ed0 := ⟨_, rfl, World.ownsRow_nil _ _ _ _⟩

theorem neqO (x : Ot) (w : World) : (binOp .neq 61 (.agg #[.int .i64 x.c, .string (bs x.d)]) (.agg #[.int .i64 x.c, .string (bs x.d)])).run Try.prog w = .ok (.bool false) w := by
  have hS : Try.prog.underlying 61 = some (.struct (Try.prog.fieldsOf 61)) := by kernel_rfl
  have hI : Try.prog.stoodInHeld 61 = false := by kernel_rfl
  have u3 := Try.underlying3
  have u9 := Try.underlying9
  have a3 := Try.isAgg3
  have z3 := Try.sizeOf3
  have a9 := Try.isAgg9
  have z9 := Try.sizeOf9
  rw [run_neq_struct, run_equalIn_agg _ _ _ _ _ hS hI]
  simp only [Program.fieldsOf, Try.underlying61]
  go_simp

theorem info_ot : (Try.prog.info? 61).map (fun i => (i.zero, i.size, i.bytes)) = some (some (.agg #[.int .i64 0, .string ⟨#[]⟩]), 2, 24) := by kernel_rfl
end Go.Proofs.Ytcjgbholgbjejaa

/-
  Two readings of the same message are told the same.
-/
namespace Go.Proofs.Ytcjgbholgbjejaa
open Go.RowKit Go.Shelf
set_option linter.unusedVariables false
set_option linter.unusedSimpArgs false
set_option maxRecDepth 100000

set_option maxHeartbeats 1000000 in
theorem sameQ_yes {w : World} {hi hi' : Nat} {u v : Value} {l : List Qn} (h : SQ w hi u l) (h' : SQ w hi' v l) (h1 : hi ≤ w.heap.size) (h2 : hi' ≤ w.heap.size) :
    Calls Try.prog 39 #[u, v] w (Tells w (.bool true)) := by
  have HN := Lib.hid (Lst.len h)
  have HS := Lib.hid h
  have HS' := Lib.hid h'
  obtain ⟨a, c, rfl⟩ := Lst.shape h
  obtain ⟨a', c', rfl⟩ := Lst.shape h'
  have HB0 := Lib.hid (Below.refl w.heap.size w)
  clear h h'
  go_enter Try.func39, Try.ntmps39
  go_wp2
  go_loopg [5] l.length (fun g v5 wr => ∃ k : Nat, k + g = l.length ∧ v5 = .int .i64 k ∧ Hid (Below w.heap.size w wr))
  case atStart => exact ⟨0, by omega, rfl, HB0⟩
  case round =>
    clear HB0
    obtain ⟨k, hk, rfl, HB⟩ := hrel
    have hlen := HN.out
    by_cases hlt : k < l.length
    · obtain ⟨b, off, c2, he, hb, hc⟩ := HS.out.at_ k hlt
      obtain ⟨b', off', c2', he', hb', hc'⟩ := HS'.out.at_ k hlt
      injection he with he hn3 hc3
      injection he' with he' hn3' hc3'
      clear hn3 hc3 hn3' hc3'
      subst he; subst he'
      obtain ⟨c0, c1, c2⟩ := hc.keep fun o => HB.out.cell (p := ⟨b, o, none⟩) (Nat.lt_of_lt_of_le hb h1)
      obtain ⟨d0, d1, d2⟩ := hc'.keep fun o => HB.out.cell (p := ⟨b', o, none⟩) (Nat.lt_of_lt_of_le hb' h2)
      have HE := fun wx => neqQ l[k] wx
      obtain ⟨x, hx⟩ : ∃ x, l[k] = x := ⟨_, rfl⟩
      rw [hx] at c0 c1 c2 d0 d1 d2 HE
      have HB2 := Lib.hid (fun n => below_drewN HB.out n)
      clear hc hc' hx HB
      go_wp2_with fail
      go_quiet (fail)
      go_wp2_with fail
      go_roundg (l.length - (k + 1))
      case measure => omega
      case rel => exact ⟨k + 1, by omega, by go_num, HB2.out _⟩
    · have t1 : ¬ ((k : Int) < l.length) := by omega
      go_wp2_with fail
      go_ret
      exact ⟨rfl, HB.out⟩
set_option maxHeartbeats 1000000 in
theorem sameR_yes {w : World} {hi hi' : Nat} {u v : Value} {l : List Rc} (h : SR w hi u l) (h' : SR w hi' v l) (h1 : hi ≤ w.heap.size) (h2 : hi' ≤ w.heap.size) :
    Calls Try.prog 40 #[u, v] w (Tells w (.bool true)) := by
  have HN := Lib.hid (Lst.len h)
  have HS := Lib.hid h
  have HS' := Lib.hid h'
  obtain ⟨a, c, rfl⟩ := Lst.shape h
  obtain ⟨a', c', rfl⟩ := Lst.shape h'
  have HB0 := Lib.hid (Below.refl w.heap.size w)
  clear h h'
  go_enter Try.func40, Try.ntmps40
  go_wp2
  go_loopg [5] l.length (fun g v5 wr => ∃ k : Nat, k + g = l.length ∧ v5 = .int .i64 k ∧ Hid (Below w.heap.size w wr))
  case atStart => exact ⟨0, by omega, rfl, HB0⟩
  case round =>
    clear HB0
    obtain ⟨k, hk, rfl, HB⟩ := hrel
    have hlen := HN.out
    by_cases hlt : k < l.length
    · obtain ⟨b, off, c9, he, hb, hc⟩ := HS.out.at_ k hlt
      obtain ⟨b', off', c9', he', hb', hc'⟩ := HS'.out.at_ k hlt
      injection he with he hn3 hc3
      injection he' with he' hn3' hc3'
      clear hn3 hc3 hn3' hc3'
      subst he; subst he'
      obtain ⟨c0, c1, c2, c3, c4⟩ := hc.keep fun o => HB.out.cell (p := ⟨b, o, none⟩) (Nat.lt_of_lt_of_le hb h1)
      obtain ⟨d0, d1, d2, d3, d4⟩ := hc'.keep fun o => HB.out.cell (p := ⟨b', o, none⟩) (Nat.lt_of_lt_of_le hb' h2)
      have HE := fun wx => neqR l[k] wx
      obtain ⟨x, hx⟩ : ∃ x, l[k] = x := ⟨_, rfl⟩
      rw [hx] at c0 c1 c2 c3 c4 d0 d1 d2 d3 d4 HE
      have HB2 := Lib.hid (fun n => below_drewN HB.out n)
      clear hc hc' hx HB
      go_wp2_with fail
      go_quiet (fail)
      go_wp2_with fail
      go_roundg (l.length - (k + 1))
      case measure => omega
      case rel => exact ⟨k + 1, by omega, by go_num, HB2.out _⟩
    · have t1 : ¬ ((k : Int) < l.length) := by omega
      go_wp2_with fail
      go_ret
      exact ⟨rfl, HB.out⟩

theorem cel_new6 (w : World) (a b c d e f : Value) (T : TypeId) : Cel (w.alloc (.cells #[a, b, c, d, e, f] T)) w.heap.size [a, b, c, d, e, f] := ⟨fun j hj => by
    match j, hj with
    | 0, _ => simp [go_sem]
    | 1, _ => simp [go_sem]
    | 2, _ => simp [go_sem]
    | 3, _ => simp [go_sem]
    | 4, _ => simp [go_sem]
    | 5, _ => simp [go_sem], fun j => by simp [go_sem]⟩
theorem Cel.six {w : World} {q : Nat} {a b c d e f : Value} (h : Cel w q [a, b, c, d, e, f]) : w.cell? ⟨q, 0, none⟩ = some a ∧ w.cell? ⟨q, 1, none⟩ = some b ∧ w.cell? ⟨q, 2, none⟩ = some c ∧ w.cell? ⟨q, 3, none⟩ = some d ∧ w.cell? ⟨q, 4, none⟩ = some e ∧ w.cell? ⟨q, 5, none⟩ = some f :=
  ⟨h.c 0 (by simp), h.c 1 (by simp), h.c 2 (by simp), h.c 3 (by simp), h.c 4 (by simp), h.c 5 (by simp)⟩

set_option maxHeartbeats 4000000 in
theorem sameM_yes {w : World} {hi hi' : Nat} {u v : Value} {m : Ms} (h : Mg w hi u m) (h' : Mg w hi' v m) (h1 : hi ≤ w.heap.size) (h2 : hi' ≤ w.heap.size) :
    Calls Try.prog 14 #[u, v] w (Tells w (.bool true)) := by
  obtain ⟨q, a, n, r, rfl, k1, k2, k3, k4⟩ := h
  obtain ⟨q', a', n', r', rfl, k1', k2', k3', k4'⟩ := h'
  have HQ := Lib.hid (fun wx (hb : Below w.heap.size w wx) => sameQ_yes (Lst.below k1 hb h1) (Lst.below k1' hb h2) (Nat.le_trans h1 hb.size) (Nat.le_trans h2 hb.size))
  have HA := Lib.hid (fun wx (hb : Below w.heap.size w wx) => sameR_yes (Lst.below k2 hb h1) (Lst.below k2' hb h2) (Nat.le_trans h1 hb.size) (Nat.le_trans h2 hb.size))
  have HN := Lib.hid (fun wx (hb : Below w.heap.size w wx) => sameR_yes (Lst.below k3 hb h1) (Lst.below k3' hb h2) (Nat.le_trans h1 hb.size) (Nat.le_trans h2 hb.size))
  have HR := Lib.hid (fun wx (hb : Below w.heap.size w wx) => sameR_yes (Lst.below k4 hb h1) (Lst.below k4' hb h2) (Nat.le_trans h1 hb.size) (Nat.le_trans h2 hb.size))
  obtain ⟨i0, hi0⟩ : ∃ i, m.id = i := ⟨_, rfl⟩
  obtain ⟨i1, hi1⟩ : ∃ i, m.fl = i := ⟨_, rfl⟩
  rw [hi0, hi1]
  have HX := Lib.hid ((cel_new6 w (.int .i64 i0) (.int .i64 i1) q a n r 25).below (by simp) ((Below.refl _ _).alloc (Nat.le_refl _) (.cells #[.int .i64 i0, .int .i64 i1, q', a', n', r'] 25)))
  have HY := Lib.hid (cel_new6 (w.alloc (.cells #[.int .i64 i0, .int .i64 i1, q, a, n, r] 25)) (.int .i64 i0) (.int .i64 i1) q' a' n' r' 25)
  have HB := Lib.hid (((Below.refl w.heap.size w).alloc (Nat.le_refl _) (.cells #[.int .i64 i0, .int .i64 i1, q, a, n, r] 25)).alloc (by simp) (.cells #[.int .i64 i0, .int .i64 i1, q', a', n', r'] 25))
  rw [World.size_alloc] at HY
  obtain ⟨c0, c1, c2, c3, c4, c5⟩ := HX.out.six
  obtain ⟨d0, d1, d2, d3, d4, d5⟩ := HY.out.six
  clear k1 k2 k3 k4 k1' k2' k3' k4' hi0 hi1
  go_enter Try.func14, Try.ntmps14
  go_wp2_with fail
  refine (HQ.out _ HB.out).mono ?_; rintro e w1 ⟨rfl, hb⟩
  replace HB := Lib.hid (bel_call HB.out hb)
  replace HX := Lib.hid (HX.out.below (by simp) hb)
  replace HY := Lib.hid (HY.out.below (by simp) hb)
  clear c0 c1 c2 c3 c4 c5 d0 d1 d2 d3 d4 d5 hb
  obtain ⟨c0, c1, c2, c3, c4, c5⟩ := HX.out.six
  obtain ⟨d0, d1, d2, d3, d4, d5⟩ := HY.out.six
  go_wp2_with fail
  refine (HA.out _ HB.out).mono ?_; rintro e w2 ⟨rfl, hb⟩
  replace HB := Lib.hid (bel_call HB.out hb)
  replace HX := Lib.hid (HX.out.below (by simp) hb)
  replace HY := Lib.hid (HY.out.below (by simp) hb)
  clear c0 c1 c2 c3 c4 c5 d0 d1 d2 d3 d4 d5 hb
  obtain ⟨c0, c1, c2, c3, c4, c5⟩ := HX.out.six
  obtain ⟨d0, d1, d2, d3, d4, d5⟩ := HY.out.six
  go_wp2_with fail
  refine (HN.out _ HB.out).mono ?_; rintro e w3 ⟨rfl, hb⟩
  replace HB := Lib.hid (bel_call HB.out hb)
  replace HX := Lib.hid (HX.out.below (by simp) hb)
  replace HY := Lib.hid (HY.out.below (by simp) hb)
  clear c0 c1 c2 c3 c4 c5 d0 d1 d2 d3 d4 d5 hb
  obtain ⟨c0, c1, c2, c3, c4, c5⟩ := HX.out.six
  obtain ⟨d0, d1, d2, d3, d4, d5⟩ := HY.out.six
  go_wp2_with fail
  refine (HR.out _ HB.out).mono ?_; rintro e w4 ⟨rfl, hb⟩
  replace HB := Lib.hid (bel_call HB.out hb)
  replace HX := Lib.hid (HX.out.below (by simp) hb)
  replace HY := Lib.hid (HY.out.below (by simp) hb)
  clear c0 c1 c2 c3 c4 c5 d0 d1 d2 d3 d4 d5 hb
  obtain ⟨c0, c1, c2, c3, c4, c5⟩ := HX.out.six
  obtain ⟨d0, d1, d2, d3, d4, d5⟩ := HY.out.six
  go_wp2_with fail
  go_ret
  exact ⟨rfl, HB.out⟩
end Go.Proofs.Ytcjgbholgbjejaa

/-
  The document's Name.
-/
namespace Go.Proofs.Ytcjgbholgbjejaa
open Go.RowKit Go.Shelf
set_option linter.unusedVariables false
set_option maxRecDepth 100000

theorem OwnU.sl {w : World} {B : Nat} {v : Value} {l : List UInt8} (h : OwnU w B v l) : Sl w B w.heap.size v (iz l) := by
  have hlt := fun k hk => World.ownsRowF.lt h k hk
  obtain ⟨a, c, hv, hx⟩ := h.shape
  rcases h.2 with ⟨rfl, h0⟩ | ⟨g, cap, cur, fz, rfl, hg, hh, hfz, hcap, _⟩
  · have e : l = [] := List.eq_nil_of_length_eq_zero h0
    subst e
    exact ⟨none, 0, rfl, by simp [iz], fun _ => rfl, fun h => by simp [iz] at h⟩
  · refine ⟨some ⟨g, 0, none⟩, cap, by rw [iz_len], by rw [iz_len]; exact hcap, fun h => by simp at h, fun h0 => ⟨g, 0, rfl, hg, (hlt g rfl).2, fun j hj => ?_⟩⟩
    rw [iz_len] at hj
    obtain ⟨g', he, _, hc⟩ := hx (by omega)
    injection hv with hv
    rw [← hv] at he
    injection he with he
    injection he with he
    subst he
    rw [Nat.zero_add, hc j hj, iz_get l j hj, List.getD, List.getElem?_eq_getElem hj]
    rfl

theorem OwnU.but {w w' : World} {B : Nat} {v : Value} {l : List UInt8} {G : Nat → Prop} (h : OwnU w B v l) (ha : Aside G w w') (hG : ∀ b, v.ownBlock = some b → ¬ G b) : OwnU w' B v l := by
  have hlt := fun k hk => World.ownsRowF.lt h k hk
  refine ⟨h.1, ?_⟩
  rcases h.2 with h2 | ⟨g, cap, cur, fz, hv, hg, hh, r⟩
  · exact .inl h2
  · exact .inr ⟨g, cap, cur, fz, hv, hg, (ha.block g (by subst hv; exact (hlt g rfl).2) (hG g (by rw [hv]; rfl))).trans hh, r⟩

end Go.Proofs.Ytcjgbholgbjejaa

/-
  The document's Put16, Put32, Bytes, Get16, Get32.
-/
namespace Go.Proofs.Ytcjgbholgbjejaa
open Go.RowKit
set_option linter.unusedVariables false
set_option maxRecDepth 100000

def RPost (w : World) (E : Int) (L : List Int) (e : Ending) (w' : World) : Prop :=
  ∃ v, e = .returned (.tuple #[v, .int .i64 E]) ∧ OwnR w' w.heap.size v L ∧ Below w.heap.size w w'

set_option maxHeartbeats 1000000 in
theorem rput2_ok (n : Int) (w : World) (h0 : 0 ≤ n) (h1 : n ≤ 65535) : Calls Try.prog 61 #[.int .i64 n, .int .i64 2] w (RPost w 0 [n / 256, n % 256]) := by
  have hz : n / 65536 = 0 := by omega
  have HB0 := Lib.hid (Below.refl w.heap.size w)
  go_enter Try.func61, Try.ntmps61
  go_wp2
  refine wp_loop_rounds 3 ?_
  rw [rounds_succ]
  go_wp2_with (at_builtin; refine wpList_app rfl (.tmp 23) (.tmp 29) rfl w.heap.size ?l1 ?h1 _ _ [] ?x1 rfl rfl ?a1 ?b1 ?c1 ?d1 ?_)
  case b1 => exact sl_one _ _
  case a1 => exact World.ownsRow_nil _ _ _ _
  case c1 => simp
  case d1 => simp
  intro v1 w1 HO1 hb
  have HB1 := Lib.hid ((HB0.out.alloc HB0.out.size _).trans hb.out)
  clear hb HB0
  go_wp2_with fail
  rw [rounds_succ]
  go_wp2_with (at_builtin; refine wpList_app rfl (.tmp 23) (.tmp 29) rfl w.heap.size ?l2 ?h2 _ _ ?y2 ?x2 rfl rfl ?a2 ?b2 ?c2 ?d2 ?_)
  case b2 => exact sl_one _ _
  case a2 => exact World.ownsRow.alloc HO1.out _
  case c2 => simp
  case d2 => have := HB1.out.size; simp; omega
  intro v2 w2 HO2 hb
  have HB2 := Lib.hid ((HB1.out.alloc HB1.out.size _).trans hb.out)
  clear hb HB1
  clear HO1
  go_wp2_with fail
  rw [rounds_succ]
  go_wp2_with fail
  go_ret2
  refine ⟨v2, rfl, ?_, HB2.out⟩
  have e := HO2.out
  exact e

set_option maxHeartbeats 400000 in
theorem rput2_no (n : Int) (w : World) (h : n < 0 ∨ 65535 < n) : Calls Try.prog 61 #[.int .i64 n, .int .i64 2] w (RPost w 5 []) := by
  by_cases hn : n < 0
  · go_enter Try.func61, Try.ntmps61
    go_wp2
    go_ret2
    exact ⟨_, rfl, World.ownsRow_nil _ _ _ _, Below.refl _ _⟩
  · have hz : ¬ n / 65536 = 0 := by omega
    go_enter Try.func61, Try.ntmps61
    go_wp2
    go_ret2
    exact ⟨_, rfl, World.ownsRow_nil _ _ _ _, Below.refl _ _⟩

theorem rput2_any (n : Int) (w : World) : Calls Try.prog 61 #[.int .i64 n, .int .i64 2] w (RPost w (putE 65535 n) (putL2 n)) := by
  unfold putE putL2
  by_cases h : 0 ≤ n ∧ n ≤ 65535
  · rw [if_pos h, if_pos h]; exact rput2_ok n w h.1 h.2
  · rw [if_neg h, if_neg h]; exact rput2_no n w (by omega)

set_option maxHeartbeats 400000 in
theorem rput16_any (n : Int) (w : World) : Calls Try.prog 55 #[.int .i64 n] w (RPost w (putE 65535 n) (putL2 n)) := by
  go_enter Try.func55, Try.ntmps55
  go_wp2_with (go_at_call 61; refine (rput2_any n _).mono ?_; rintro e w1 ⟨v, rfl, h1, h2⟩; have H1 := Lib.hid h1; have H2 := Lib.hid h2; clear h1 h2)
  go_ret2
  exact ⟨v, rfl, H1.out, H2.out⟩

end Go.Proofs.Ytcjgbholgbjejaa

/-
  What Write stands on: two bytes of a number, the deferred function, the bytes so far and the packer.
-/
namespace Go.Proofs.Ytcjgbholgbjejaa
open Go.RowKit Go.Shelf
set_option linter.unusedVariables false
set_option linter.unusedSimpArgs false
set_option maxRecDepth 100000

theorem rowB_all {l : List UInt8} {cap : Nat} : ∀ u ∈ rowB l cap, ∃ x : Int, u = .int .u8 x := by
  intro u hu
  unfold rowB at hu
  rcases List.mem_append.mp hu with hu | hu
  · rw [ub_iz] at hu
    obtain ⟨x, _, rfl⟩ := List.mem_map.mp hu
    exact ⟨x, rfl⟩
  · exact ⟨0, (List.mem_replicate.mp hu).2⟩

/-- A packer's blocks are not those of a row of bytes. -/
theorem pk_apart {w : World} {p bm e B : Nat} {K : KK} {v : Value} {l : List UInt8} (h : Pk w p bm K e) (ho : OwnB w B v l) (b : Nat) (hb : v.ownBlock = some b) : ¬ (b = p ∨ b = bm) := by
  rcases ho with ⟨rfl, _⟩ | ⟨g, cap, fz, rfl, _, _, _, _, hg⟩
  · simp [Value.ownBlock] at hb
  · simp [Value.ownBlock] at hb
    subst hb
    rintro (rfl | rfl)
    · have := h.self
      rw [World.cell?, hg] at this
      simp only [List.getElem?_toArray] at this
      have hm := rowB_all _ (List.mem_of_getElem? (by simpa using this))
      obtain ⟨x, hx⟩ := hm
      cases hx
    · obtain ⟨D, ⟨es, clock, hm, _⟩, _⟩ := h.map
      rw [hg] at hm
      cases hm

/-- What is written so far: the message's cells, the slice of the bytes, no error, the pointers to the lists, the bytes. -/
structure W0 (w wr : World) (M N B0 : Nat) (xs ys : List Value) (bv : Value) (b : List UInt8) : Prop where
  x : Cel wr M xs
  xl : 0 < xs.length
  c2 : Cel wr (M + 1) [bv]
  c3 : Cel wr (M + 2) [.int .i64 0]
  y : Cel wr N ys
  yl : 0 < ys.length
  hN : N < B0
  hM : M + 3 ≤ B0
  ne : N ≠ M + 1 ∧ N ≠ M + 2
  row : OwnB wr B0 bv b
  bel : Below M w wr
  size : B0 ≤ wr.heap.size

section
variable {w wr w' : World} {M N B0 p bm e : Nat} {xs ys : List Value} {bv : Value} {b : List UInt8} {K : KK}
theorem W0.aside {G : Nat → Prop} (h : W0 w wr M N B0 xs ys bv b) (ha : Aside G wr w') (hG : ∀ k, k < B0 → ¬ G k) (hr : ∀ k, bv.ownBlock = some k → ¬ G k) : W0 w w' M N B0 xs ys bv b := by
  have hm := h.hM
  exact ⟨h.x.aside h.xl ha (hG _ (by omega)), h.xl, h.c2.aside (by simp) ha (hG _ (by omega)), h.c3.aside (by simp) ha (hG _ (by omega)), h.y.aside h.yl ha (hG _ h.hN), h.yl, h.hN, hm, h.ne, h.row.aside ha hr, below_aside h.bel ha fun k hk => ⟨Nat.lt_of_lt_of_le (by omega) h.size, hG k (by omega)⟩, Nat.le_trans h.size ha.size⟩
theorem W0.later (h : W0 w wr M N B0 xs ys bv b) (hb : Below wr.heap.size wr w') : W0 w w' M N B0 xs ys bv b :=
  h.aside (G := fun _ => False) (Aside.of_all hb) (fun _ _ h => h) (fun _ _ h => h)
/-- Another slice of the bytes is stored. -/
theorem W0.put {v : Value} {b' : List UInt8} (h : W0 w wr M N B0 xs ys bv b) (ho : OwnB wr B0 v b') : W0 w (wr.setCell ⟨M + 1, 0, none⟩ v) M N B0 xs ys v b' := by
  have hm := h.hM
  refine ⟨h.x.other (by simp) _, h.xl, ?_, h.c3.other (by simp) _, h.y.other (by simpa using h.ne.1.symm) _, h.yl, h.hN, hm, h.ne, ?_, h.bel.setCell (by simp) _, Nat.le_trans h.size (by simp [World.setCell])⟩
  · have := h.c2.set (o := 0) (by simp) v
    simpa using this
  · refine ho.aside (G := fun k => k = M + 1) (Aside.setCell _ _ rfl) fun k hk hg => ?_
    have := (ho.lt k hk).1
    omega
/-- The bytes so far are laid in another row, and its slice is stored. -/
theorem W0.app (h : W0 w wr M N B0 xs ys bv b) {xv : Value} {l' : List UInt8} {lo hi : Nat} (hx : Sl wr lo hi xv (iz l')) (hb : b.length + l'.length ≤ 1000000) :
    ∃ a' c' w', (Builtin.append_ #[67, 67] 67 #[bv, xv]).run Try.prog wr = .ok (.slice a' (b.length + l'.length) c') w' ∧
      w'.cell? ⟨M + 1, 0, none⟩ = some bv ∧ (∀ j, w'.frozen? ⟨M + 1, j, none⟩ = false) ∧ W0 w (w'.setCell ⟨M + 1, 0, none⟩ (.slice a' (b.length + l'.length) c')) M N B0 xs ys (.slice a' (b.length + l'.length) c') (b ++ l') ∧
      ∀ p bm K e, Pk wr p bm K e → B0 ≤ p → B0 ≤ bm → Pk (w'.setCell ⟨M + 1, 0, none⟩ (.slice a' (b.length + l'.length) c')) p bm K e := by
  have hm := h.hM
  obtain ⟨a', c', w', h1, h2, ha⟩ := run_appBs B0 bv xv b l' h.row hx hb h.size
  have hlt := h.row.lt
  have hG : ∀ k, k < B0 → ¬ bv.ownBlock = some k := fun k hk hg => by have := (hlt k hg).1; omega
  have k2 := h.c2.aside (by simp) ha (hG _ (by omega))
  have k0 := h.x.aside h.xl ha (hG _ (by omega))
  have k3 := h.c3.aside (by simp) ha (hG _ (by omega))
  have k4 := h.y.aside h.yl ha (hG _ h.hN)
  refine ⟨a', c', w', h1, k2.c 0 (by simp), k2.fz, ⟨k0.other (by simp) _, h.xl, ?_, k3.other (by simp) _, k4.other (by simpa using h.ne.1.symm) _, h.yl, h.hN, hm, h.ne, ?_, ?_, ?_⟩, fun p bm K e hp p1 p2 => ?_⟩
  · have := k2.set (o := 0) (by simp) (.slice a' (b.length + l'.length) c')
    simpa using this
  · refine h2.aside (G := fun k => k = M + 1) (Aside.setCell _ _ rfl) fun k hk hg => ?_
    have := (h2.lt k hk).1
    omega
  · exact (below_aside h.bel ha fun k hk => ⟨Nat.lt_of_lt_of_le (by omega) h.size, hG k (by omega)⟩).setCell (by simp) _
  · exact Nat.le_trans h.size (Nat.le_trans ha.size (by simp [World.setCell]))
  · have := hp.aside ha (fun hg => pk_apart hp h.row p hg (.inl rfl)) (fun hg => pk_apart hp h.row bm hg (.inr rfl))
    exact this.aside (G := fun k => k = M + 1) (Aside.setCell _ _ rfl) (by omega) (by omega)
end

theorem cel_new1 (w : World) (a : Value) (T : TypeId) : Cel (w.alloc (.cells #[a] T)) w.heap.size [a] := ⟨fun j hj => by
    match j, hj with
    | 0, _ => simp [go_sem], fun j => by simp [go_sem]⟩

theorem oper_app_run {w w' : World} {v v' xv : Value} {ops : Array Oper} {o : Oper} {a : Act} {K : Act → World → Prop} {Q : Exit → Act → World → Prop} (s x : Operand) (t u : TypeId)
    (ho : o.op = .call { callee := .builtin .append, args := #[s, x], argTypes := #[t, u] }) (hgd : o.guard = .none) (hs : a.eval s = v) (hx : a.eval x = xv)
    (hrun : (Builtin.append_ #[t, u] o.type #[v, xv]).run Try.prog w = .ok v' w') (h : K (a.put o.dst v') w') : if Region.wanted o (yielded ops a.tmps) = true then Oper.wp Try.prog o a w K Q else K (a.put o.dst undef) w := by
  rw [if_pos (by simp [Region.wanted, hgd])]
  unfold Oper.wp
  simp [execOp, ho, resolve, invoke, builtin, hs, hx, hrun, Result.andThen]
  exact h

end Go.Proofs.Ytcjgbholgbjejaa

/-
  Messages, plainly: the message that bytes are.
-/
namespace Go.Proofs.Ytcjgbholgbjejaa
open Go.RowKit Go.Shelf
set_option linter.unusedVariables false
set_option linter.unusedSimpArgs false
set_option maxRecDepth 100000

/-- What reading some comes to: these, and where they end; or the fault. -/
inductive RD (α : Type) where
  | ok (l : List α) (p : Nat)
  | bad (e a : Int)

def RD.cons {α : Type} (x : α) : RD α → RD α
  | .ok l q => .ok (x :: l) q
  | .bad e a => .bad e a

/-- A number of the head. -/
def hd (b : List UInt8) (k : Nat) : Int := nAt2 (iz b) (2 * k)

/-! ### faults -/

/-! ### with others behind -/

/-! ### what stands is read -/

end Go.Proofs.Ytcjgbholgbjejaa

/-
  The numbers at a message's head: numbers, Head.
-/
namespace Go.Proofs.Ytcjgbholgbjejaa
open Go.RowKit Go.Shelf
set_option linter.unusedVariables false
set_option linter.unusedSimpArgs false
set_option maxRecDepth 100000

/-- The first k numbers, then noughts. -/
def pre (b : List UInt8) : Nat → List Value
  | 0 => [.int .i64 0, .int .i64 0, .int .i64 0, .int .i64 0, .int .i64 0, .int .i64 0]
  | k + 1 => (pre b k).set k (.int .i64 (hd b k))
end Go.Proofs.Ytcjgbholgbjejaa

/-
  An entry of a list is read, and laid behind the others.
-/
namespace Go.Proofs.Ytcjgbholgbjejaa
open Go.RowKit Go.Shelf
set_option linter.unusedVariables false
set_option linter.unusedSimpArgs false
set_option maxRecDepth 100000

theorem info_qn : (Try.prog.info? 50).map (fun i => (i.zero, i.size, i.bytes)) = some (some (.agg #[.string ⟨#[]⟩, .int .i64 0, .int .i64 0]), 3, 32) := by kernel_rfl
theorem info_rc : (Try.prog.info? 48).map (fun i => (i.zero, i.size, i.bytes)) = some (some (.agg #[.string ⟨#[]⟩, .int .i64 0, .int .i64 0, .int .i64 0, .string ⟨#[]⟩]), 5, 56) := by kernel_rfl

/-- append to rows of questions, of records. -/
theorem run_appQn {w : World} {B hi : Nat} {v u : Value} {l m : List Qn} (h : OwnQn w B v l) (hx : SQ w hi u m) (hnm : l.length + m.length ≤ 1000000) (hB : B ≤ w.heap.size) :
    ∃ a' c' w', (Builtin.append_ #[22, 22] 22 #[v, u]).run Try.prog w = .ok (.slice a' (l.length + m.length) c') w' ∧ OwnQn w' B (.slice a' (l.length + m.length) c') (l ++ m) ∧ Aside (fun b => v.ownBlock = some b) w w' ∧
      ((Value.slice a' (l.length + m.length) c').ownBlock = v.ownBlock ∨ (Value.slice a' (l.length + m.length) c').ownBlock = some w.heap.size) := by
  obtain ⟨i0, hi, hz0, hz1, hz2⟩ := info_parts info_qn
  obtain ⟨a', c', w', h1, h2, h3, h4⟩ := row_more (ty := 22) 32 Try.underlying22 hi hz0 hz1 hz2 rfl (by decide) (by decide) h hx (acq_len m) (acq_one m) hnm hB
  refine ⟨a', c', w', h1, ?_, h3, h4⟩
  unfold OwnQn
  rw [List.length_append, acq_app]
  exact h2
theorem run_appRc {w : World} {B hi : Nat} {v u : Value} {l m : List Rc} (h : OwnRc w B v l) (hx : SR w hi u m) (hnm : l.length + m.length ≤ 1000000) (hB : B ≤ w.heap.size) :
    ∃ a' c' w', (Builtin.append_ #[23, 23] 23 #[v, u]).run Try.prog w = .ok (.slice a' (l.length + m.length) c') w' ∧ OwnRc w' B (.slice a' (l.length + m.length) c') (l ++ m) ∧ Aside (fun b => v.ownBlock = some b) w w' ∧
      ((Value.slice a' (l.length + m.length) c').ownBlock = v.ownBlock ∨ (Value.slice a' (l.length + m.length) c').ownBlock = some w.heap.size) := by
  obtain ⟨i0, hi, hz0, hz1, hz2⟩ := info_parts info_rc
  obtain ⟨a', c', w', h1, h2, h3, h4⟩ := row_more (ty := 23) 56 Try.underlying23 hi hz0 hz1 hz2 rfl (by decide) (by decide) h hx (acr_len m) (acr_one m) hnm hB
  refine ⟨a', c', w', h1, ?_, h3, h4⟩
  unfold OwnRc
  rw [List.length_append, acr_app]
  exact h2

/-- One that was just built, as a slice. -/
theorem sq_one (w : World) (x : Qn) : SQ (w.alloc (.cells #[.string (bs x.n), .int .i64 x.t, .int .i64 x.c] 50)) (w.heap.size + 1) (.slice (some ⟨w.heap.size, 0, none⟩) 1 1) [x] :=
  ⟨_, 1, rfl, by simp, fun h => by simp at h, fun _ => ⟨w.heap.size, 0, rfl, by omega, fun i u hu => by
    have hc := cel_new3 w (.string (bs x.n)) (.int .i64 x.t) (.int .i64 x.c) 50
    rw [Nat.zero_add]
    match i, hu with
    | 0, hu => rw [hc.c 0 (by simp)]; simpa [acq, cq] using hu
    | 1, hu => rw [hc.c 1 (by simp)]; simpa [acq, cq] using hu
    | 2, hu => rw [hc.c 2 (by simp)]; simpa [acq, cq] using hu
    | i + 3, hu => simp [acq, cq] at hu⟩⟩
theorem sr_one (w : World) (x : Rc) : SR (w.alloc (.cells #[.string (bs x.n), .int .i64 x.t, .int .i64 x.c, .int .i64 x.l, .string (bs x.d)] 48)) (w.heap.size + 1) (.slice (some ⟨w.heap.size, 0, none⟩) 1 1) [x] :=
  ⟨_, 1, rfl, by simp, fun h => by simp at h, fun _ => ⟨w.heap.size, 0, rfl, by omega, fun i u hu => by
    have hc := cel_new w (.string (bs x.n)) (.int .i64 x.t) (.int .i64 x.c) (.int .i64 x.l) (.string (bs x.d)) 48
    rw [Nat.zero_add]
    match i, hu with
    | 0, hu => rw [hc.c 0 (by simp)]; simpa [acr, cr] using hu
    | 1, hu => rw [hc.c 1 (by simp)]; simpa [acr, cr] using hu
    | 2, hu => rw [hc.c 2 (by simp)]; simpa [acr, cr] using hu
    | 3, hu => rw [hc.c 3 (by simp)]; simpa [acr, cr] using hu
    | 4, hu => rw [hc.c 4 (by simp)]; simpa [acr, cr] using hu
    | i + 5, hu => simp [acr, cr] at hu⟩⟩

end Go.Proofs.Ytcjgbholgbjejaa

/-
  What Read stands on: what is read so far, the deferred function.
-/
namespace Go.Proofs.Ytcjgbholgbjejaa
open Go.RowKit Go.Shelf
set_option linter.unusedVariables false
set_option linter.unusedSimpArgs false
set_option maxRecDepth 100000

def RD.app {α : Type} (l : List α) : RD α → RD α
  | .ok l' q => .ok (l ++ l') q
  | .bad e a => .bad e a
/-- What is read so far. -/
structure R0 (w wr : World) (M H B0 : Nat) (i0 i1 : Int) (hs : List Value) (v2 v3 v4 v5 : Value) (lq : List Qn) (la ln lr : List Rc) : Prop where
  x : Cel wr M [.int .i64 i0, .int .i64 i1, v2, v3, v4, v5]
  f : Cel wr (M + 1) [.int .i64 0, .int .i64 0]
  h : Cel wr H hs
  hl : 0 < hs.length
  q : OwnQn wr B0 v2 lq
  a : OwnRc wr B0 v3 la
  n : OwnRc wr B0 v4 ln
  r : OwnRc wr B0 v5 lr
  n34 : ∀ k, v3.ownBlock = some k → v4.ownBlock = some k → False
  n35 : ∀ k, v3.ownBlock = some k → v5.ownBlock = some k → False
  n45 : ∀ k, v4.ownBlock = some k → v5.ownBlock = some k → False
  bel : Below M w wr
  size : B0 ≤ wr.heap.size
  hH : M + 2 ≤ H
  hB : H < B0

section
variable {w wr w' : World} {M H B0 : Nat} {i0 i1 : Int} {hs : List Value} {v2 v3 v4 v5 : Value} {lq : List Qn} {la ln lr : List Rc}
theorem R0.later (h : R0 w wr M H B0 i0 i1 hs v2 v3 v4 v5 lq la ln lr) (hb : Below wr.heap.size wr w') : R0 w w' M H B0 i0 i1 hs v2 v3 v4 v5 lq la ln lr :=
  ⟨h.x.below (by simp) hb, h.f.below (by simp) hb, h.h.below h.hl hb, h.hl, row_below h.q hb, row_below h.a hb, row_below h.n hb, row_below h.r hb, h.n34, h.n35, h.n45, below_aside h.bel (Aside.of_all hb : Aside (fun _ => False) wr w') (fun k hk => ⟨by have := h.size; have := h.hB; have := h.hH; omega, id⟩), Nat.le_trans h.size hb.size, h.hH, h.hB⟩

end

end Go.Proofs.Ytcjgbholgbjejaa

/-
  The message that bytes are: Read.
-/
namespace Go.Proofs.Ytcjgbholgbjejaa
open Go.RowKit Go.Shelf
set_option linter.unusedVariables false
set_option linter.unusedSimpArgs false
set_option maxRecDepth 100000

section
variable {w wr w' : World} {M H B0 : Nat} {i0 i1 : Int} {hs : List Value} {v2 v3 v4 v5 : Value} {lq : List Qn} {la ln lr : List Rc}
theorem R0.drew (h : R0 w wr M H B0 i0 i1 hs v2 v3 v4 v5 lq la ln lr) : R0 w wr.drew M H B0 i0 i1 hs v2 v3 v4 v5 lq la ln lr := h.later (Below.refl _ _).drew
/-- What is read is the message. -/
theorem R0.mg (h : R0 w wr M H B0 i0 i1 hs v2 v3 v4 v5 lq la ln lr) (k0 : lq.length ≤ 65535) (k1 : la.length ≤ 65535) (k2 : ln.length ≤ 65535) (k3 : lr.length ≤ 65535) : Mg wr wr.heap.size (.agg #[.int .i64 i0, .int .i64 i1, v2, v3, v4, v5]) ⟨i0, i1, lq, la, ln, lr⟩ :=
  ⟨v2, v3, v4, v5, rfl, Lst.own h.q (by show lq.length ≤ 1000000; omega), Lst.own h.a (by show la.length ≤ 1000000; omega), Lst.own h.n (by show ln.length ≤ 1000000; omega), Lst.own h.r (by show lr.length ≤ 1000000; omega)⟩
end

end Go.Proofs.Ytcjgbholgbjejaa

/-
  Flags: the opcode, the code, another code; the statement about them.
-/
namespace Go.Proofs.Ytcjgbholgbjejaa
open Go.RowKit Go.Shelf
set_option linter.unusedVariables false
set_option linter.unusedSimpArgs false
set_option maxRecDepth 100000

/-- The same value is told, nothing in memory turns. -/
def Tell0 (w : World) (v : Value) (e : Ending) (w' : World) : Prop := e = .returned v ∧ w = w'

end Go.Proofs.Ytcjgbholgbjejaa

/-
  The bare answer: Reply, and its flags.
-/
namespace Go.Proofs.Ytcjgbholgbjejaa
open Go.RowKit Go.Shelf
set_option linter.unusedVariables false
set_option linter.unusedSimpArgs false
set_option maxRecDepth 100000

/-- The answer while questions are being taken over. -/
structure Rp (w wr : World) (N : Nat) (i f : Int) (qv : Value) (l : List Qn) : Prop where
  bel : Below N w wr
  z : Cel wr (N + 1) [.int .i64 0, .int .i64 0, .slice none 0 0, .slice none 0 0, .slice none 0 0, .slice none 0 0]
  r : Cel wr (N + 2) [.int .i64 i, .int .i64 f, qv, .slice none 0 0, .slice none 0 0, .slice none 0 0]
  own : OwnQn wr (N + 3) qv l
  size : N + 3 ≤ wr.heap.size

section
variable {w wr w' : World} {N : Nat} {i f : Int} {qv : Value} {l : List Qn}
theorem Rp.later (h : Rp w wr N i f qv l) (hb : Below wr.heap.size wr w') : Rp w w' N i f qv l :=
  ⟨below_aside h.bel (Aside.of_all hb : Aside (fun _ => False) wr w') (fun k hk => ⟨by have := h.size; omega, id⟩), h.z.below (by simp) hb, h.r.below (by simp) hb, row_below h.own hb, Nat.le_trans h.size hb.size⟩
theorem Rp.aside {b : Nat} (h : Rp w wr N i f qv l) (ha : Aside (fun k => k = b) wr w') (hb : N + 3 ≤ b) (ho : ∀ k, qv.ownBlock = some k → k ≠ b) : Rp w w' N i f qv l :=
  ⟨below_aside h.bel ha (fun k hk => ⟨by have := h.size; omega, by omega⟩), h.z.aside (by simp) ha (by omega), h.r.aside (by simp) ha (by omega), row_aside h.own ha ho, Nat.le_trans h.size ha.size⟩
/-- A question is laid behind the others. -/
theorem Rp.app (h : Rp w wr N i f qv l) {hi : Nat} {u : Value} {x : Qn} (hx : SQ wr hi u [x]) (hl : l.length + 1 ≤ 1000000) :
    ∃ a c w6, (Builtin.append_ #[22, 22] 22 #[qv, u]).run Try.prog wr = .ok (.slice a (l.length + 1) c) w6 ∧ w6.frozen? ⟨N + 2, 2, none⟩ = false ∧ w6.cell? ⟨N + 2, 2, none⟩ = some qv ∧
      Rp w (w6.setCell ⟨N + 2, 2, none⟩ (.slice a (l.length + 1) c)) N i f (.slice a (l.length + 1) c) (l ++ [x]) ∧ (∀ b, (Value.slice a (l.length + 1) c).ownBlock = some b → qv.ownBlock = some b ∨ wr.heap.size ≤ b) := by
  obtain ⟨a, c, w6, h1, h2, h3, h4⟩ := run_appQn h.own hx hl h.size
  simp only [List.length_singleton] at h1 h2 h4
  have hlt := World.ownsRow.lt h.own
  have hG : ∀ k, k < N + 3 → ¬ qv.ownBlock = some k := fun k hk hg => by have := (hlt k hg).1; omega
  have z6 := h.z.aside (by simp) h3 (hG _ (by omega))
  have r6 := h.r.aside (by simp) h3 (hG _ (by omega))
  have hs := Nat.le_trans h.size h3.size
  have hst : Aside (fun k => k = N + 2) w6 (w6.setCell ⟨N + 2, 2, none⟩ (.slice a (l.length + 1) c)) := Aside.setCell w6 (p := ⟨N + 2, 2, none⟩) _ rfl
  refine ⟨a, c, w6, h1, r6.fz 2, r6.c 2 (by simp), ⟨?_, z6.other (a := ⟨N + 2, 2, none⟩) (by show N + 2 ≠ N + 1; omega) _, r6.set (o := 2) (by simp) _, row_aside h2 hst fun k hk hg => by have := (World.ownsRow.lt h2 k hk).1; omega, Nat.le_trans hs hst.size⟩, fun b hb => ?_⟩
  · exact below_aside (below_aside h.bel h3 (fun k hk => ⟨by have := h.size; omega, hG k (by omega)⟩)) hst (fun k hk => ⟨by omega, by omega⟩)
  · rcases h4 with h4 | h4
    · exact .inl (by rw [← h4]; exact hb)
    · right
      rw [h4] at hb
      injection hb with hb
      omega
end

section
variable {w : World} {q : Nat} {a0 a1 a2 a3 a4 a5 : Value}
/-- Six cells stored one after another. -/
def put6 (w : World) (q : Nat) (b0 b1 b2 b3 b4 b5 : Value) : World :=
  (((((w.setCell ⟨q, 0, none⟩ b0).setCell ⟨q, 1, none⟩ b1).setCell ⟨q, 2, none⟩ b2).setCell ⟨q, 3, none⟩ b3).setCell ⟨q, 4, none⟩ b4).setCell ⟨q, 5, none⟩ b5
theorem cel_put6 (h : Cel w q [a0, a1, a2, a3, a4, a5]) (b0 b1 b2 b3 b4 b5 : Value) : Cel (put6 w q b0 b1 b2 b3 b4 b5) q [b0, b1, b2, b3, b4, b5] := by
  have := (((((h.set (o := 0) (by simp) b0).set (o := 1) (by simp) b1).set (o := 2) (by simp) b2).set (o := 3) (by simp) b3).set (o := 4) (by simp) b4).set (o := 5) (by simp) b5
  simp only [List.set_cons_zero, List.set_cons_succ] at this
  exact this
theorem aside_put6 (w : World) (q : Nat) (b0 b1 b2 b3 b4 b5 : Value) : Aside (fun k => k = q) w (put6 w q b0 b1 b2 b3 b4 b5) := by
  have st : ∀ (x : World) (o : Nat) (v : Value), Aside (fun k => k = q) x (x.setCell ⟨q, o, none⟩ v) := fun x o v => Aside.setCell x (p := ⟨q, o, none⟩) v rfl
  exact (((((st _ _ _).trans (st _ _ _)).trans (st _ _ _)).trans (st _ _ _)).trans (st _ _ _)).trans (st _ _ _)
end

theorem row_base {w : World} {B B' k n : Nat} {e : TypeId} {v : Value} {xs : List Value} (h : w.ownsRow B e k v n xs) (hB : B' ≤ B) : w.ownsRow B' e k v n xs := by
  refine ⟨h.1, ?_⟩
  rcases h.2 with h2 | ⟨g, cap, cur, h2⟩
  · exact .inl h2
  · exact .inr ⟨g, cap, cur, h2.1, Nat.le_trans hB h2.2.1, h2.2.2⟩

end Go.Proofs.Ytcjgbholgbjejaa

/-
  Questions and records copied with room to spare; that room is as it was.
-/
namespace Go.Proofs.Ytcjgbholgbjejaa
open Go.RowKit Go.Shelf
set_option linter.unusedVariables false
set_option linter.unusedSimpArgs false
set_option maxRecDepth 100000

/-- The marks. -/
def qmark : Qn := ⟨[], 7, 0⟩
def rmark : Rc := ⟨[], 7, 0, 0, []⟩
/-- A copy with a mark behind it. -/
def CpQ (w : World) (B : Nat) (v : Value) (l : List Qn) : Prop := ∃ a c, v = .slice a l.length c ∧ OwnQn w B (.slice a (l.length + 1) c) (l ++ [qmark])
def CpR (w : World) (B : Nat) (v : Value) (l : List Rc) : Prop := ∃ a c, v = .slice a l.length c ∧ OwnRc w B (.slice a (l.length + 1) c) (l ++ [rmark])
theorem own_cut (a : Option Addr) (n m c : Nat) : (Value.slice a n c).ownBlock = (Value.slice a m c).ownBlock := by cases a <;> rfl
section
variable {w w' : World} {B : Nat} {v : Value}
theorem CpQ.below {l : List Qn} (h : CpQ w B v l) (hb : Below w.heap.size w w') : CpQ w' B v l := by
  obtain ⟨a, c, rfl, h1⟩ := h
  exact ⟨a, c, rfl, row_below h1 hb⟩
theorem CpR.below {l : List Rc} (h : CpR w B v l) (hb : Below w.heap.size w w') : CpR w' B v l := by
  obtain ⟨a, c, rfl, h1⟩ := h
  exact ⟨a, c, rfl, row_below h1 hb⟩
theorem CpQ.base {B' : Nat} {l : List Qn} (h : CpQ w B v l) (hB : B' ≤ B) : CpQ w B' v l := by
  obtain ⟨a, c, rfl, h1⟩ := h
  exact ⟨a, c, rfl, row_base h1 hB⟩
theorem CpR.base {B' : Nat} {l : List Rc} (h : CpR w B v l) (hB : B' ≤ B) : CpR w B' v l := by
  obtain ⟨a, c, rfl, h1⟩ := h
  exact ⟨a, c, rfl, row_base h1 hB⟩
theorem CpQ.aside {G : Nat → Prop} {l : List Qn} (h : CpQ w B v l) (ha : Aside G w w') (hG : ∀ k, v.ownBlock = some k → ¬ G k) : CpQ w' B v l := by
  obtain ⟨a, c, rfl, h1⟩ := h
  exact ⟨a, c, rfl, row_aside h1 ha fun k hk => hG k (by rw [own_cut a _ (l.length + 1)]; exact hk)⟩
theorem CpR.aside {G : Nat → Prop} {l : List Rc} (h : CpR w B v l) (ha : Aside G w w') (hG : ∀ k, v.ownBlock = some k → ¬ G k) : CpR w' B v l := by
  obtain ⟨a, c, rfl, h1⟩ := h
  exact ⟨a, c, rfl, row_aside h1 ha fun k hk => hG k (by rw [own_cut a _ (l.length + 1)]; exact hk)⟩
theorem CpQ.lt {l : List Qn} (h : CpQ w B v l) : ∀ k, v.ownBlock = some k → B ≤ k ∧ k < w.heap.size := by
  obtain ⟨a, c, rfl, h1⟩ := h
  exact fun k hk => World.ownsRow.lt h1 k (by rw [own_cut a _ l.length]; exact hk)
theorem CpR.lt {l : List Rc} (h : CpR w B v l) : ∀ k, v.ownBlock = some k → B ≤ k ∧ k < w.heap.size := by
  obtain ⟨a, c, rfl, h1⟩ := h
  exact fun k hk => World.ownsRow.lt h1 k (by rw [own_cut a _ l.length]; exact hk)
theorem CpQ.sq {l : List Qn} (h : CpQ w B v l) (hl : l.length ≤ 900000) : SQ w w.heap.size v l := by
  obtain ⟨a, c, rfl, h1⟩ := h
  have h2 := Lst.own h1 (by rw [List.length_append, List.length_singleton]; omega)
  rw [List.length_append, List.length_singleton, acq_app] at h2
  exact Lst.part h2 (by omega)
theorem CpR.sr {l : List Rc} (h : CpR w B v l) (hl : l.length ≤ 900000) : SR w w.heap.size v l := by
  obtain ⟨a, c, rfl, h1⟩ := h
  have h2 := Lst.own h1 (by rw [List.length_append, List.length_singleton]; omega)
  rw [List.length_append, List.length_singleton, acr_app] at h2
  exact Lst.part h2 (by omega)
end

/-- make, and what comes of it. -/
theorem make_qn (w : World) (n : Nat) (hn : n ≤ 900000) : ∃ w', (Instr.makeSlice 22 (.int .i64 0) (.int .i64 ((n : Int) + 2))).run Try.prog w = .ok (.slice (some ⟨w.heap.size, 0, none⟩) 0 (n + 2)) w' ∧ OwnQn w' w.heap.size (.slice (some ⟨w.heap.size, 0, none⟩) 0 (n + 2)) [] ∧ Below w.heap.size w w' := by
  obtain ⟨i0, hi, hz0, hz1, hz2⟩ := info_parts info_qn
  obtain ⟨w', h1, h2, h3⟩ := run_makeSlice_owned (P := Try.prog) (w := w) w.heap.size 22 50 i0 _ 3 Try.underlying22 hi hz0 hz1 .i64 .i64 (n + 2) (by omega) (by rw [hz2]; omega) (by unfold maxLen; omega) (Nat.le_refl _)
  exact ⟨w', by rw [show ((n : Int) + 2) = ((n + 2 : Nat) : Int) by omega]; exact h1, h2, (Aside.grown h3 (G := fun _ => False) fun _ h => by simp at h).below fun k hk => ⟨hk, id⟩⟩
theorem make_rc (w : World) (n : Nat) (hn : n ≤ 900000) : ∃ w', (Instr.makeSlice 23 (.int .i64 0) (.int .i64 ((n : Int) + 2))).run Try.prog w = .ok (.slice (some ⟨w.heap.size, 0, none⟩) 0 (n + 2)) w' ∧ OwnRc w' w.heap.size (.slice (some ⟨w.heap.size, 0, none⟩) 0 (n + 2)) [] ∧ Below w.heap.size w w' := by
  obtain ⟨i0, hi, hz0, hz1, hz2⟩ := info_parts info_rc
  obtain ⟨w', h1, h2, h3⟩ := run_makeSlice_owned (P := Try.prog) (w := w) w.heap.size 23 48 i0 _ 5 Try.underlying23 hi hz0 hz1 .i64 .i64 (n + 2) (by omega) (by rw [hz2]; omega) (by unfold maxLen; omega) (Nat.le_refl _)
  exact ⟨w', by rw [show ((n : Int) + 2) = ((n + 2 : Nat) : Int) by omega]; exact h1, h2, (Aside.grown h3 (G := fun _ => False) fun _ h => by simp at h).below fun k hk => ⟨hk, id⟩⟩
/-- A row's first entries, and one more than a slice has. -/
theorem size_qn (wx : World) : (sizeOf (Try.prog.elem 22)).run Try.prog wx = .ok 3 wx := by kernel_rfl
theorem size_rc (wx : World) : (sizeOf (Try.prog.elem 23)).run Try.prog wx = .ok 5 wx := by kernel_rfl
theorem cut_qn (a : Option Addr) (n m c : Nat) (hm : m ≤ c) (wx : World) : (Instr.slice 22 (.slice a n c) none (some (.int .i64 m)) none).run Try.prog wx = .ok (.slice a m c) wx := by
  rw [run_slice_h (P := Try.prog) wx 22 a n c Try.underlying22 .i64 m (by omega) (by omega), size_qn]
  show Result.ok (sliced a 0 m c 3) wx = _
  unfold sliced
  by_cases h0 : c = 0
  · rw [if_pos h0, Nat.sub_zero, Nat.sub_zero]
  · rw [if_neg h0, Nat.sub_zero, Nat.sub_zero]
    cases a with
    | none => rfl
    | some x => simp [Addr.add]
theorem cut_rc (a : Option Addr) (n m c : Nat) (hm : m ≤ c) (wx : World) : (Instr.slice 23 (.slice a n c) none (some (.int .i64 m)) none).run Try.prog wx = .ok (.slice a m c) wx := by
  rw [run_slice_h (P := Try.prog) wx 23 a n c Try.underlying23 .i64 m (by omega) (by omega), size_rc]
  show Result.ok (sliced a 0 m c 5) wx = _
  unfold sliced
  by_cases h0 : c = 0
  · rw [if_pos h0, Nat.sub_zero, Nat.sub_zero]
  · rw [if_neg h0, Nat.sub_zero, Nat.sub_zero]
    cases a with
    | none => rfl
    | some x => simp [Addr.add]
theorem row_cap {w : World} {B k n : Nat} {e : TypeId} {a : Option Addr} {m c : Nat} {xs : List Value} (h : w.ownsRow B e k (.slice a m c) n xs) : n ≤ c := by
  rcases h.2 with ⟨h2, h0⟩ | ⟨g, cap, cur, h2, _, _, h3, _⟩
  · omega
  · injection h2 with _ _ h2
    omega

set_option maxHeartbeats 2000000 in
theorem copyR_any {w : World} {hi : Nat} {u : Value} {l : List Rc} (h : SR w hi u l) (h1 : hi ≤ w.heap.size) (hl : l.length ≤ 900000) :
    Calls Try.prog 30 #[u] w (fun e w' => ∃ v, e = .returned v ∧ CpR w' w.heap.size v l ∧ Below w.heap.size w w') := by
  obtain ⟨w1, hmk, ho1, hb1⟩ := make_rc w l.length hl
  have hu1 : SR w1 hi u l := Lst.below h hb1 h1
  obtain ⟨a2, c2, w2, hr2, ho2, ha2, hk2⟩ := run_appRc ho1 hu1 (by simp; omega) hb1.size
  simp only [List.length_nil, Nat.zero_add, List.nil_append] at hr2 ho2
  have hl1 := World.ownsRow.lt ho1
  have hb2 : Below w.heap.size w w2 := below_aside hb1 ha2 (fun k hk => ⟨Nat.lt_of_lt_of_le hk hb1.size, fun hg => by have := (hl1 k hg).1; omega⟩)
  have hone := sr_one w2 rmark
  have hb3 : Below w.heap.size w (w2.alloc (.cells #[.string (bs rmark.n), .int .i64 rmark.t, .int .i64 rmark.c, .int .i64 rmark.l, .string (bs rmark.d)] 48)) := bel_alloc hb2 _
  obtain ⟨a4, c4, w4, hr4, ho4, ha4, _⟩ := run_appRc (World.ownsRow.alloc ho2 _ : OwnRc (w2.alloc (.cells #[.string (bs rmark.n), .int .i64 rmark.t, .int .i64 rmark.c, .int .i64 rmark.l, .string (bs rmark.d)] 48)) _ _ _) hone (by simp; omega) hb3.size
  simp only [List.length_singleton] at hr4 ho4
  have hl2 := World.ownsRow.lt ho2
  have hb4 : Below w.heap.size w w4 := below_aside hb3 ha4 (fun k hk => ⟨Nat.lt_of_lt_of_le hk hb3.size, fun hg => by have := (hl2 k hg).1; omega⟩)
  have hcut := cut_rc a4 (l.length + 1) l.length c4 (by have := row_cap ho4; rw [List.length_append, List.length_singleton] at this; omega)
  have HO := Lib.hid (show CpR w4 w.heap.size (.slice a4 l.length c4) l from ⟨_, _, rfl, ho4⟩)
  have HB := Lib.hid hb4
  have HR2 := Lib.hid hr2
  have HR4 := Lib.hid hr4
  have HLN := Lib.hid hl
  obtain ⟨a, c, rfl⟩ := Lst.shape h
  obtain ⟨n, hn⟩ : ∃ n, l.length = n := ⟨_, rfl⟩
  rw [hn] at HO HR2 HR4 hcut hmk HLN ⊢
  clear h h1 hl ho1 hb1 hu1 hr2 ho2 ha2 hk2 hl1 hb2 hone hb3 hr4 ho4 ha4 hl2 hb4
  have hn2 := HLN.out
  go_enter Try.func30, Try.ntmps30
  go_wp2_with (first | (at_builtin; refine wpList_append_run (.tmp 6) (.tmp 7) 23 23 rfl rfl rfl rfl HR2.out ?_) | (at_builtin; refine wpList_append_run (.tmp 8) (.tmp 10) 23 23 rfl rfl rfl rfl HR4.out ?_))
  go_ret
  exact ⟨_, rfl, HO.out, HB.out⟩
end Go.Proofs.Ytcjgbholgbjejaa

/-
  What is said besides, as the statements compare and copy it: SameEdns, BigEdns, CopyEdns.
-/
namespace Go.Proofs.Ytcjgbholgbjejaa
open Go.RowKit Go.Shelf
set_option linter.unusedVariables false
set_option linter.unusedSimpArgs false
set_option maxRecDepth 100000

set_option maxHeartbeats 1000000 in
theorem sameE_yes {w : World} {hi hi' : Nat} {u v : Value} {e : Ed} (h : Eg w hi u e) (h' : Eg w hi' v e) (h1 : hi ≤ w.heap.size) (h2 : hi' ≤ w.heap.size) :
    Calls Try.prog 13 #[u, v] w (Tells w (.bool true)) := by
  obtain ⟨o, rfl, hs⟩ := h
  obtain ⟨o', rfl, hs'⟩ := h'
  obtain ⟨es, ex, ev, eb, l⟩ := e
  simp only at hs hs' ⊢
  have HN := Lib.hid (Lst.len hs)
  obtain ⟨a, c, rfl⟩ := Lst.shape hs
  obtain ⟨a', c', rfl⟩ := Lst.shape hs'
  have hb0 : Below w.heap.size w ((w.alloc (.cells #[.int .i64 es, .int .i64 ex, .int .i64 ev, .bool eb, .slice a l.length c] 30)).alloc (.cells #[.int .i64 es, .int .i64 ex, .int .i64 ev, .bool eb, .slice a' l.length c'] 30)) := ((Below.refl _ _).alloc (Nat.le_refl _) _).alloc (by simp) _
  have hx := (cel_new w (.int .i64 es) (.int .i64 ex) (.int .i64 ev) (.bool eb) (.slice a l.length c) 30).below (by simp) ((Below.refl _ _).alloc (Nat.le_refl _) (.cells #[.int .i64 es, .int .i64 ex, .int .i64 ev, .bool eb, .slice a' l.length c'] 30))
  have hy := cel_new (w.alloc (.cells #[.int .i64 es, .int .i64 ex, .int .i64 ev, .bool eb, .slice a l.length c] 30)) (.int .i64 es) (.int .i64 ex) (.int .i64 ev) (.bool eb) (.slice a' l.length c') 30
  rw [World.size_alloc] at hy
  have HS := Lib.hid (show SO _ hi _ l from Lst.below hs hb0 h1)
  have HS' := Lib.hid (show SO _ hi' _ l from Lst.below hs' hb0 h2)
  have hbb := fun wx => (show (binOp .neq 4 (.bool eb) (.bool eb)).run Try.prog wx = .ok (.bool false) wx by cases eb <;> kernel_rfl)
  obtain ⟨N, hN⟩ : ∃ N, w.heap.size = N := ⟨_, rfl⟩
  have HB0 := Lib.hid hb0
  rw [hN] at hx hy HB0 h1 h2
  have HX0 := Lib.hid hx
  have HY0 := Lib.hid hy
  have hsz : ((w.alloc (.cells #[.int .i64 es, .int .i64 ex, .int .i64 ev, .bool eb, .slice a l.length c] 30)).alloc (.cells #[.int .i64 es, .int .i64 ex, .int .i64 ev, .bool eb, .slice a' l.length c'] 30)).heap.size = N + 2 := by simp [hN]
  obtain ⟨W, hW⟩ : ∃ W, (w.alloc (.cells #[.int .i64 es, .int .i64 ex, .int .i64 ev, .bool eb, .slice a l.length c] 30)).alloc (.cells #[.int .i64 es, .int .i64 ex, .int .i64 ev, .bool eb, .slice a' l.length c'] 30) = W := ⟨_, rfl⟩
  rw [hW] at HB0 HX0 HY0 HS HS' hsz
  obtain ⟨c0, c1, c2, c3, c4⟩ := HX0.out.five
  obtain ⟨d0, d1, d2, d3, d4⟩ := HY0.out.five
  have HSZ := Lib.hid hsz
  have HD0 := Lib.hid (Below.refl W.heap.size W)
  have HH := Lib.hid (And.intro h1 h2)
  clear hs hs' hb0 hx hy hsz h1 h2
  go_enter Try.func13, Try.ntmps13
  go_wp2_with fail
  clear c0 c1 c2 c3 c4 d0 d1 d2 d3 d4
  go_loopg [5] l.length (fun g v5 wr => ∃ k : Nat, k + g = l.length ∧ v5 = .int .i64 k ∧ Hid (Below W.heap.size W wr))
  case atStart => exact ⟨0, by omega, rfl, by first | exact HD0 | (rw [hW]; exact HD0)⟩
  case round =>
    clear HD0
    obtain ⟨k, hk, rfl, HB⟩ := hrel
    have hlen := HN.out
    obtain ⟨x0, x1, x2, x3, x4⟩ := (HX0.out.below (by simp) HB.out).five
    obtain ⟨y0, y1, y2, y3, y4⟩ := (HY0.out.below (by simp) HB.out).five
    by_cases hlt : k < l.length
    · obtain ⟨b, off, c2, he, hb, hc⟩ := HS.out.at_ k hlt
      obtain ⟨b', off', c2', he', hb', hc'⟩ := HS'.out.at_ k hlt
      injection he with he hn3 hc3
      injection he' with he' hn3' hc3'
      clear hn3 hc3 hn3' hc3'
      subst he; subst he'
      obtain ⟨p0, p1⟩ := hc.keep fun o => HB.out.cell (p := ⟨b, o, none⟩) (by have := HSZ.out; have := HH.out.1; show b < W.heap.size; omega)
      obtain ⟨q0, q1⟩ := hc'.keep fun o => HB.out.cell (p := ⟨b', o, none⟩) (by have := HSZ.out; have := HH.out.2; show b' < W.heap.size; omega)
      have HE := fun wx => neqO l[k] wx
      obtain ⟨x, hx⟩ : ∃ x, l[k] = x := ⟨_, rfl⟩
      rw [hx] at p0 p1 q0 q1 HE
      have HB2 := Lib.hid (fun n => below_drewN HB.out n)
      clear hc hc' hx HB
      go_wp2_with fail
      go_quiet (fail)
      go_wp2_with fail
      go_roundg (l.length - (k + 1))
      case measure => omega
      case rel => exact ⟨k + 1, by omega, by go_num, HB2.out _⟩
    · have t1 : ¬ ((k : Int) < l.length) := by omega
      have HBB := Lib.hid (HB0.out.trans (HB.out.mono (by have := HSZ.out; rw [hN] at *; omega)))
      go_wp2_with fail
      go_ret
      exact ⟨rfl, by rw [hN]; exact HBB.out⟩

section
variable {w : World} {q : Nat} {a0 a1 a2 a3 a4 : Value}
/-- Five cells stored one after another. -/
def put5 (w : World) (q : Nat) (b0 b1 b2 b3 b4 : Value) : World :=
  ((((w.setCell ⟨q, 0, none⟩ b0).setCell ⟨q, 1, none⟩ b1).setCell ⟨q, 2, none⟩ b2).setCell ⟨q, 3, none⟩ b3).setCell ⟨q, 4, none⟩ b4
theorem cel_put5 (h : Cel w q [a0, a1, a2, a3, a4]) (b0 b1 b2 b3 b4 : Value) : Cel (put5 w q b0 b1 b2 b3 b4) q [b0, b1, b2, b3, b4] := by
  have := ((((h.set (o := 0) (by simp) b0).set (o := 1) (by simp) b1).set (o := 2) (by simp) b2).set (o := 3) (by simp) b3).set (o := 4) (by simp) b4
  simp only [List.set_cons_zero, List.set_cons_succ] at this
  exact this
theorem aside_put5 (w : World) (q : Nat) (b0 b1 b2 b3 b4 : Value) : Aside (fun k => k = q) w (put5 w q b0 b1 b2 b3 b4) := by
  have st : ∀ (x : World) (o : Nat) (v : Value), Aside (fun k => k = q) x (x.setCell ⟨q, o, none⟩ v) := fun x o v => Aside.setCell x (p := ⟨q, o, none⟩) v rfl
  exact ((((st _ _ _).trans (st _ _ _)).trans (st _ _ _)).trans (st _ _ _)).trans (st _ _ _)
end

def bigE (most M : Nat) (e : Ed) : Bool := (e.o.any fun x => decide (M < x.d.length)) || decide (most < e.o.length)
theorem bigE_no {most M : Nat} {e : Ed} (h : bigE most M e = false) : e.o.length ≤ most ∧ ∀ x ∈ e.o, x.d.length ≤ M := by
  unfold bigE at h
  rw [Bool.or_eq_false_iff] at h
  refine ⟨by simpa using h.2, fun x hx => ?_⟩
  have := List.any_eq_false.mp h.1 x hx
  simpa using this

set_option maxHeartbeats 1000000 in
theorem bigE_any {w : World} {hi : Nat} {u : Value} {e : Ed} (most M : Nat) (hmo : most ≤ 1000000) (hM : M ≤ 1000000) (h : Eg w hi u e) (h1 : hi ≤ w.heap.size) :
    Calls Try.prog 22 #[u, .int .i64 most, .int .i64 M] w (Tells w (.bool (bigE most M e))) := by
  obtain ⟨o, rfl, hs⟩ := h
  obtain ⟨es, ex, ev, eb, l⟩ := e
  obtain ⟨r, hr⟩ : ∃ r, bigE most M ⟨es, ex, ev, eb, l⟩ = r := ⟨_, rfl⟩
  rw [hr]
  unfold bigE at hr
  simp only at hs hr ⊢
  have HR := Lib.hid hr
  have HN := Lib.hid (Lst.len hs)
  obtain ⟨a, c, rfl⟩ := Lst.shape hs
  have hb0 : Below w.heap.size w (w.alloc (.cells #[.int .i64 es, .int .i64 ex, .int .i64 ev, .bool eb, .slice a l.length c] 30)) := (Below.refl _ _).alloc (Nat.le_refl _) _
  have hx := cel_new w (.int .i64 es) (.int .i64 ex) (.int .i64 ev) (.bool eb) (.slice a l.length c) 30
  have HS := Lib.hid (show SO _ hi _ l from Lst.below hs hb0 h1)
  have HB := Lib.hid hb0
  obtain ⟨N, hN⟩ : ∃ N, w.heap.size = N := ⟨_, rfl⟩
  obtain ⟨W, hW⟩ : ∃ W, w.alloc (.cells #[.int .i64 es, .int .i64 ex, .int .i64 ev, .bool eb, .slice a l.length c] 30) = W := ⟨_, rfl⟩
  rw [hW] at HB HS hx
  rw [hN] at hx
  obtain ⟨c0, c1, c2, c3, c4⟩ := hx.five
  clear hs hb0 hx hr
  go_enter Try.func22, Try.ntmps22
  go_wp2_with fail
  go_loopg [7] l.length (fun g v7 wr => ∃ k : Nat, k + g = l.length ∧ v7 = .int .i64 k ∧ Hid ((l.take k).any (fun x => decide (M < x.d.length)) = false) ∧ W = wr)
  case atStart => exact ⟨0, by omega, rfl, by simp [Hid], by first | rfl | exact hW.symm⟩
  case round =>
    clear hW
    obtain ⟨j, hj, rfl, HA, rfl⟩ := hrel
    have hlen := HN.out
    by_cases hlt : j < l.length
    · obtain ⟨b, off, c2', he, hb, p0, p1⟩ := HS.out.at_ j hlt
      injection he with he hn3 hc3
      clear hn3 hc3
      subst he
      have hany := HA.out
      have htk : l.take (j + 1) = l.take j ++ [l[j]] := by rw [List.take_add_one, List.getElem?_eq_getElem hlt]; rfl
      have HM := Lib.hid (List.getElem_mem hlt)
      obtain ⟨x, hx⟩ : ∃ x, l[j] = x := ⟨_, rfl⟩
      rw [hx] at p0 p1 htk HM
      obtain ⟨n, d⟩ := x
      simp only at p0 p1
      have hds : (bs d).size = d.length := bs_size d
      by_cases h1 : M < d.length
      · have HE := Lib.hid (show r = true by rw [← HR.out, Bool.or_eq_true]; exact .inl (List.any_eq_true.mpr ⟨_, HM.out, by simp [h1]⟩))
        have t1 : decide ((M : Int) < d.length) = true := by simp; omega
        clear hany htk hx HA HM
        go_wp2_with fail
        go_ret
        exact ⟨by rw [HE.out]; rfl, HB.out⟩
      · have t2 : decide ((M : Int) < d.length) = false := by simp; omega
        have HA2 := Lib.hid (show (l.take (j + 1)).any (fun x => decide (M < x.d.length)) = false by rw [htk, List.any_append, hany]; simp; omega)
        clear hany htk hx HA HM
        go_wp2_with fail
        go_roundg (l.length - (j + 1))
        case measure => omega
        case rel => exact ⟨j + 1, by omega, by go_num, HA2, rfl⟩
    · have hje : j = l.length := by omega
      have HE := Lib.hid (show r = decide (most < l.length) by
        rw [← HR.out]
        have := HA.out
        rw [List.take_of_length_le (by omega)] at this
        rw [this]; rfl)
      clear HA
      have t1 : ¬ ((j : Int) < l.length) := by omega
      by_cases hb2 : most < l.length
      · have t2 : decide ((most : Int) < l.length) = true := by simp; omega
        have HE2 := Lib.hid (show r = true by rw [HE.out]; simp [hb2])
        go_wp2_with fail
        go_ret
        exact ⟨by rw [HE2.out]; rfl, HB.out⟩
      · have t2 : decide ((most : Int) < l.length) = false := by simp; omega
        have HE2 := Lib.hid (show r = false by rw [HE.out]; simp; omega)
        go_wp2_with fail
        go_ret
        exact ⟨by rw [HE2.out]; rfl, HB.out⟩

theorem run_appOt {w : World} {B hi : Nat} {v u : Value} {l m : List Ot} (h : OwnO w B v l) (hx : SO w hi u m) (hnm : l.length + m.length ≤ 1000000) (hB : B ≤ w.heap.size) :
    ∃ a' c' w', (Builtin.append_ #[28, 28] 28 #[v, u]).run Try.prog w = .ok (.slice a' (l.length + m.length) c') w' ∧ OwnO w' B (.slice a' (l.length + m.length) c') (l ++ m) ∧ Aside (fun b => v.ownBlock = some b) w w' ∧
      ((Value.slice a' (l.length + m.length) c').ownBlock = v.ownBlock ∨ (Value.slice a' (l.length + m.length) c').ownBlock = some w.heap.size) := by
  obtain ⟨i0, hi, hz0, hz1, hz2⟩ := info_parts info_ot
  obtain ⟨a', c', w', r1, r2, r3, r4⟩ := row_more 24 Try.underlying28 hi hz0 hz1 hz2 (by rfl) (by decide) (by decide) h hx (by rw [aco_len]) (aco_one m) hnm hB
  exact ⟨a', c', w', r1, by unfold OwnO; rw [aco_app, List.length_append]; exact r2, r3, r4⟩

end Go.Proofs.Ytcjgbholgbjejaa

/-
  The records of a list that are of the type, and those that are not: opts, others.
-/
namespace Go.Proofs.Ytcjgbholgbjejaa
open Go.RowKit Go.Shelf
set_option linter.unusedVariables false
set_option linter.unusedSimpArgs false
set_option maxRecDepth 100000

theorem isO_any (x : Rc) (w : World) : Calls Try.prog 47 #[.agg #[.string (bs x.n), .int .i64 x.t, .int .i64 x.c, .int .i64 x.l, .string (bs x.d)]] w (Tells w (.bool (isO x))) := by
  obtain ⟨n, t, c, l, d⟩ := x
  by_cases h : t = 41
  · have e : isO ⟨n, t, c, l, d⟩ = true := by unfold isO; simp [h]
    subst h
    rw [e]
    go_enter Try.func47, Try.ntmps47
    go_wp2
    go_ret
    exact ⟨rfl, (Below.refl _ _).alloc (Nat.le_refl _) _⟩
  · have e : isO ⟨n, t, c, l, d⟩ = false := by unfold isO; simp [h]
    rw [e]
    have t1 : (t == 41) = false := by simpa using h
    go_enter Try.func47, Try.ntmps47
    go_wp2
    go_ret
    exact ⟨by simp [h], (Below.refl _ _).alloc (Nat.le_refl _) _⟩
/-- A row of the call's own, or a place in front of somebody else's to which no room belongs. -/
def Kp (w : World) (B : Nat) (v : Value) (l : List Rc) : Prop := OwnRc w B v l ∨ (l = [] ∧ ∃ a, v = .slice (some a) 0 0)
section
variable {w w' : World} {B : Nat} {v : Value} {l : List Rc}
theorem Kp.below (h : Kp w B v l) (hb : Below w.heap.size w w') : Kp w' B v l := h.imp (fun h => row_below h hb) id
theorem Kp.aside {G : Nat → Prop} (h : Kp w B v l) (ha : Aside G w w') (hG : ∀ k, B ≤ k → ¬ G k) : Kp w' B v l := h.imp (fun h => row_aside h ha fun k hk => hG k (World.ownsRow.lt h k hk).1) id
theorem Kp.base {B' : Nat} (h : Kp w B v l) (hB : B' ≤ B) : Kp w B' v l := h.imp (fun h => row_base h hB) id
theorem Kp.shape (h : Kp w B v l) : ∃ a c, v = .slice a l.length c := by
  rcases h with h | ⟨rfl, a, rfl⟩
  · exact row_shape h
  · exact ⟨_, _, rfl⟩
theorem Kp.sr (h : Kp w B v l) (hl : l.length ≤ 1000000) : SR w w.heap.size v l := by
  rcases h with h | ⟨rfl, a, rfl⟩
  · exact Lst.own h hl
  · exact ⟨some a, 0, rfl, by simp, fun h => (by cases h), fun h => absurd h (by simp)⟩
theorem kp_start (w : World) (B : Nat) (a : Option Addr) : Kp w B (.slice a 0 0) [] := by
  cases a with
  | none => exact .inl (World.ownsRow_nil _ _ _ _)
  | some a => exact .inr ⟨rfl, a, rfl⟩
/-- A record more. -/
theorem Kp.app (h : Kp w B v l) {hi : Nat} {u : Value} {x : Rc} (hx : SR w hi u [x]) (hl : l.length + 1 ≤ 1000000) (hB : B ≤ w.heap.size) :
    ∃ a c w', (Builtin.append_ #[23, 23] 23 #[v, u]).run Try.prog w = .ok (.slice a (l.length + 1) c) w' ∧ Kp w' B (.slice a (l.length + 1) c) (l ++ [x]) ∧ Aside (fun b => B ≤ b) w w' := by
  rcases h with h | ⟨rfl, a, rfl⟩
  · obtain ⟨a, c, w', h1, h2, h3, _⟩ := run_appRc h hx hl hB
    exact ⟨a, c, w', h1, .inl h2, h3.mono fun k _ hk => (World.ownsRow.lt h k hk).1⟩
  · obtain ⟨ua, uc, rfl, _, _, h2⟩ := hx
    obtain ⟨b, off, rfl, _, h4⟩ := h2 (by simp)
    obtain ⟨i0, hi0, hz0, hz1, hz2⟩ := info_parts info_rc
    have hr := run_append_grow (P := Try.prog) w 23 23 48 i0 _ Try.underlying23 hi0 hz0 a 0 0 [] (by simp) (by simp) ⟨b, off, none⟩ 1 uc (acr [x]) (by rw [acr_len, hz1]; rfl) (fun j v hv => by rw [WideShapes.add_plain]; exact h4 j v hv) (by omega) (by decide) (by rw [hz2]; decide)
    have hg := grownCap_ge w (0 + 1) 0 48
    have hcm := grownCap_le_maxLen w (0 + 1) 0 48 (by decide)
    obtain ⟨G, hG⟩ : ∃ G, grownCap w (0 + 1) 0 48 = G := ⟨_, rfl⟩
    rw [hG] at hr hg hcm
    refine ⟨_, _, _, hr, .inl ⟨by rw [acr_len], .inr ⟨w.heap.size, _, _, rfl, hB, World.alloc_heap_new w.drew _, hg, hcm, ?_, ?_⟩⟩, ?_⟩
    · have e1 : (acr [x]).length = 5 := rfl
      simp only [Array.size_append, List.size_toArray, size_zeroCells, e1, List.length_nil, List.nil_append, List.length_singleton]
      show 0 + 5 + (G - (0 + 1)) * 5 = G * 5
      omega
    · simp [acr, cr]
    · exact ⟨rfl, rfl, rfl, by simp, fun k hk hg => Below.heap_alloc w.drew _ k hk⟩
end

set_option maxHeartbeats 1000000 in
theorem those_opts {w : World} {hi : Nat} {u : Value} {l : List Rc} (h : SR w hi u l) (h1 : hi ≤ w.heap.size) (hl : l.length ≤ 900000) :
    Calls Try.prog 46 #[u, .func (.func 47) #[] #[]] w (fun e w' => ∃ v, e = .returned v ∧ Kp w' w.heap.size v (l.filter isO) ∧ Below w.heap.size w w') := by
  have HX := Lib.hid h
  have HN := Lib.hid (Lst.len h)
  have HL := Lib.hid hl
  obtain ⟨a, c, rfl⟩ := Lst.shape h
  obtain ⟨N, hN⟩ : ∃ N, w.heap.size = N := ⟨_, rfl⟩
  have HK0 := Lib.hid (kp_start w N a)
  have HB0 := Lib.hid (show Below N w w from Below.refl _ _)
  have HHI := Lib.hid (show hi ≤ N by omega)
  clear h h1 hl
  go_enter Try.func46, Try.ntmps46
  go_wp2_with fail
  go_loopg [5, 12] l.length (fun g v5 v12 wr => ∃ k : Nat, k + g = l.length ∧ v12 = .int .i64 k ∧ Hid (Kp wr N v5 ((l.take k).filter isO)) ∧ Hid (Below N w wr) ∧ N ≤ wr.heap.size)
  case atStart => exact ⟨0, by omega, rfl, by simpa using HK0, HB0, by omega⟩
  case round =>
    clear HK0 HB0
    obtain ⟨k, hk, rfl, HK, HB, hsz⟩ := hrel
    have hlen := HN.out
    by_cases hlt : k < l.length
    · obtain ⟨b, off, c2, he, hb, hc⟩ := HX.out.at_ k hlt
      injection he with he hn3 hc3
      clear hn3 hc3
      subst he
      obtain ⟨c0, c1, c2, c3, c4⟩ := hc.keep fun o => HB.out.cell (p := ⟨b, o, none⟩) (Nat.lt_of_lt_of_le hb HHI.out)
      have HTK := Lib.hid (show l.take (k + 1) = l.take k ++ [l[k]] by rw [List.take_add_one, List.getElem?_eq_getElem hlt]; rfl)
      obtain ⟨x, hx⟩ : ∃ x, l[k] = x := ⟨_, rfl⟩
      rw [hx] at c0 c1 c2 c3 c4 HTK
      have HC := Lib.hid (fun wx => isO_any x wx)
      obtain ⟨L, hL⟩ : ∃ L, (l.take k).filter isO = L := ⟨_, rfl⟩
      rw [hL] at HK
      have HLL := Lib.hid (show L.length ≤ 900000 by rw [← hL]; exact Nat.le_trans (List.length_filter_le _ _) (Nat.le_trans (by rw [List.length_take]; omega) HL.out))
      have HTF := Lib.hid (show (l.take (k + 1)).filter isO = L ++ [x].filter isO by rw [HTK.out, List.filter_append, hL])
      obtain ⟨g, hg⟩ : ∃ g, wr.heap.size = g := ⟨_, rfl⟩
      have HQC := Lib.hid (show Cel (wr.alloc (.cells #[.string (bs x.n), .int .i64 x.t, .int .i64 x.c, .int .i64 x.l, .string (bs x.d)] 48)) g [.string (bs x.n), .int .i64 x.t, .int .i64 x.c, .int .i64 x.l, .string (bs x.d)] by
        have := cel_new wr (.string (bs x.n)) (.int .i64 x.t) (.int .i64 x.c) (.int .i64 x.l) (.string (bs x.d)) 48
        rwa [hg] at this)
      have hb1 : Below wr.heap.size wr (wr.alloc (.cells #[.string (bs x.n), .int .i64 x.t, .int .i64 x.c, .int .i64 x.l, .string (bs x.d)] 48)) := (Below.refl _ _).alloc (Nat.le_refl _) _
      have HGN := Lib.hid (show N ≤ g by omega)
      replace HK := Lib.hid (HK.out.below hb1)
      replace HB := Lib.hid (HB.out.alloc hsz (.cells #[.string (bs x.n), .int .i64 x.t, .int .i64 x.c, .int .i64 x.l, .string (bs x.d)] 48))
      clear hc hx hb hb1 hL hsz
      go_wp2_with fail
      refine (HC.out _).mono ?_; rintro e w3 ⟨rfl, hb⟩
      have HQ3 := Lib.hid (HQC.out.below (by simp) hb)
      replace HK := Lib.hid (HK.out.below hb)
      replace HB := Lib.hid (HB.out.trans (hb.mono (by have := HGN.out; simp; omega)))
      have HS3 := Lib.hid (show g < w3.heap.size from HQ3.out.lt (by simp))
      clear hb
      by_cases hp : isO x = true
      · rw [hp]
        have hone := sr_one w3 x
        have hb4 : Below w3.heap.size w3 (w3.alloc (.cells #[.string (bs x.n), .int .i64 x.t, .int .i64 x.c, .int .i64 x.l, .string (bs x.d)] 48)) := (Below.refl _ _).alloc (Nat.le_refl _) _
        have hsz4 : N ≤ (w3.alloc (.cells #[.string (bs x.n), .int .i64 x.t, .int .i64 x.c, .int .i64 x.l, .string (bs x.d)] 48)).heap.size := by have := HS3.out; have := HGN.out; simp; omega
        obtain ⟨a6, c6, w6, hr, hk6, ha6⟩ := (HK.out.below hb4).app hone (by have := HLL.out; omega) hsz4
        have hf : (l.take (k + 1)).filter isO = L ++ [x] := by rw [HTF.out, List.filter_cons_of_pos (by simpa using hp), List.filter_nil]
        have HK6 := Lib.hid (show Kp w6 N (.slice a6 (L.length + 1) c6) ((l.take (k + 1)).filter isO) by rw [hf]; exact hk6)
        have HB6 := Lib.hid (below_aside (HB.out.alloc (by have := HS3.out; have := HGN.out; omega) _) ha6 (fun k hk => ⟨by omega, by omega⟩))
        have HSZ := Lib.hid (Nat.le_trans hsz4 ha6.size)
        obtain ⟨av, cv, rfl⟩ := HK.out.shape
        have HR := Lib.hid hr
        obtain ⟨q0, q1, q2, q3, q4⟩ := HQ3.out.five
        clear hone hb4 hsz4 hr hk6 ha6 hf HK HB HQC HQ3
        go_wp2_with (at_builtin; refine wpList_append_run (.tmp 19) (.tmp 21) 23 23 rfl rfl rfl rfl HR.out ?_)
        go_roundg (l.length - (k + 1))
        case measure => omega
        case rel => exact ⟨k + 1, by omega, by go_num, HK6, HB6, HSZ.out⟩
      · have hp2 : (isO x) = false := by simpa using hp
        rw [hp2]
        have hfe : (l.take (k + 1)).filter isO = L := by rw [HTF.out, List.filter_cons_of_neg (by simpa using hp), List.filter_nil, List.append_nil]
        have HK6 := HK
        rw [← hfe] at HK6
        clear hfe
        have HSZ := Lib.hid (show N ≤ w3.heap.size by have := HS3.out; have := HGN.out; omega)
        clear HK HQC HQ3
        go_wp2_with fail
        go_roundg (l.length - (k + 1))
        case measure => omega
        case rel => exact ⟨k + 1, by omega, by go_num, HK6, HB, HSZ.out⟩
    · have t1 : ¬ ((k : Int) < l.length) := by omega
      have hkl : l.take k = l := List.take_of_length_le (by omega)
      rw [hkl] at HK
      clear hkl
      go_wp2_with fail
      go_ret
      exact ⟨_, rfl, by first | exact HK.out | (rw [hN]; exact HK.out), by first | exact HB.out | (rw [hN]; exact HB.out)⟩

theorem opts_any {w : World} {hi : Nat} {u : Value} {l : List Rc} (h : SR w hi u l) (h1 : hi ≤ w.heap.size) (hl : l.length ≤ 900000) :
    Calls Try.prog 31 #[u] w (fun e w' => ∃ v, e = .returned v ∧ Kp w' w.heap.size v (opL l) ∧ Below w.heap.size w w') := by
  have H := Lib.hid (those_opts h h1 hl)
  obtain ⟨a, c, rfl⟩ := Lst.shape h
  clear h
  go_enter Try.func31, Try.ntmps31
  go_wp2_with fail
  refine H.out.mono ?_; rintro e w1 ⟨v, rfl, hs, hb⟩
  have HS := Lib.hid hs
  have HB := Lib.hid hb
  clear hs hb
  go_wp2_with fail
  go_ret
  exact ⟨_, rfl, HS.out, HB.out⟩
end Go.Proofs.Ytcjgbholgbjejaa
