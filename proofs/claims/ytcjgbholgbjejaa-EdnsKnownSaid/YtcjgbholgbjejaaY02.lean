/-
  Questions, records, messages in memory; the same ones are told the same.
-/
import Derived.Test.YtcjgbholgbjejaaY01
import Derived.Laws.StructEq
import Derived.Test.YtcjgbholgbjejaaY00
import Derived.Outline
import Derived.Laws.OwnMore
import Derived.BigQuiet
import Derived.Deep.LoopGhost
import Derived.Deep.RegionLaw
import Derived.Deep.RegionHeld3
import Derived.Lib.FrozenHead
import Derived.BigRegion
import Derived.RegionTactic
import Derived.Recover
import Derived.Defers
import Derived.WalkLawsBesides
import Derived.Test.YtcjgbholgbjejaaShelf
import Derived.Laws.Bits128
import Derived.Deep.RegionHeld
namespace Go.Proofs.Ytcjgbholgbjejaa
open Go.RowKit Go.Shelf
set_option linter.unusedVariables false
set_option linter.unusedSimpArgs false
set_option maxRecDepth 100000

/-- The cells of a question. -/
def cq (x : Qn) : List Value := [.string (bs x.n), .int .i64 x.t, .int .i64 x.c]
/-- The cells of a record. -/
def cr (x : Rc) : List Value := [.string (bs x.n), .int .i64 x.t, .int .i64 x.c, .int .i64 x.l, .string (bs x.d)]
def acq (l : List Qn) : List Value := l.flatMap cq
def acr (l : List Rc) : List Value := l.flatMap cr
theorem acq_len (l : List Qn) : (acq l).length = l.length * 3 := flat_len (f := cq) (k := 3) (fun _ => rfl) l
theorem acr_len (l : List Rc) : (acr l).length = l.length * 5 := flat_len (f := cr) (k := 5) (fun _ => rfl) l
theorem acq_app (l m : List Qn) : acq (l ++ m) = acq l ++ acq m := List.flatMap_append
theorem acr_app (l m : List Rc) : acr (l ++ m) = acr l ++ acr m := List.flatMap_append
theorem acq_one (l : List Qn) : ∀ u ∈ acq l, u.oneCell' = true := flat_one (fun x u hu => by
  simp only [cq, List.mem_cons, List.mem_nil_iff, or_false] at hu
  rcases hu with rfl | rfl | rfl <;> rfl) l
theorem acr_one (l : List Rc) : ∀ u ∈ acr l, u.oneCell' = true := flat_one (fun x u hu => by
  simp only [cr, List.mem_cons, List.mem_nil_iff, or_false] at hu
  rcases hu with rfl | rfl | rfl | rfl | rfl <;> rfl) l

/-- The cells of a question stand at a place. -/
def AtQn (w : World) (b o : Nat) (x : Qn) : Prop := w.cell? ⟨b, o, none⟩ = some (.string (bs x.n)) ∧ w.cell? ⟨b, o + 1, none⟩ = some (.int .i64 x.t) ∧ w.cell? ⟨b, o + 2, none⟩ = some (.int .i64 x.c)
theorem AtQn.keep {w w' : World} {b o : Nat} {x : Qn} (h : AtQn w b o x) (hk : ∀ o, w'.cell? ⟨b, o, none⟩ = w.cell? ⟨b, o, none⟩) : AtQn w' b o x := ⟨(hk _).trans h.1, (hk _).trans h.2.1, (hk _).trans h.2.2⟩

/-- The slice v reads as these questions. -/
def SQ (w : World) (hi : Nat) (v : Value) (l : List Qn) : Prop := Lst w hi v l.length (acq l)
/-- The slice v reads as these records. -/
def SR (w : World) (hi : Nat) (v : Value) (l : List Rc) : Prop := Lst w hi v l.length (acr l)
/-- A row of questions of the call's own. -/
def OwnQn (w : World) (B : Nat) (v : Value) (l : List Qn) : Prop := w.ownsRow B 50 3 v l.length (acq l)
/-- A row of records of the call's own. -/
def OwnRc (w : World) (B : Nat) (v : Value) (l : List Rc) : Prop := w.ownsRow B 48 5 v l.length (acr l)

theorem SQ.at_ {w : World} {hi : Nat} {v : Value} {l : List Qn} (h : SQ w hi v l) (j : Nat) (hj : j < l.length) : ∃ b off c, v = .slice (some ⟨b, off, none⟩) l.length c ∧ b < hi ∧ AtQn w b (off + j * 3) l[j] := by
  obtain ⟨a, c, rfl, _, _, hx⟩ := h
  obtain ⟨b, off, rfl, h1, h2⟩ := hx (by omega)
  have e := fun i u hu => h2 _ _ (flat_at (f := cq) (k := 3) (fun _ => rfl) l j hj i u hu)
  simp only [← Nat.add_assoc] at e
  exact ⟨b, off, c, rfl, h1, e 0 _ rfl, e 1 _ rfl, e 2 _ rfl⟩
theorem SR.at_ {w : World} {hi : Nat} {v : Value} {l : List Rc} (h : SR w hi v l) (j : Nat) (hj : j < l.length) : ∃ b off c, v = .slice (some ⟨b, off, none⟩) l.length c ∧ b < hi ∧ AtR w b (off + j * 5) l[j] := by
  obtain ⟨a, c, rfl, _, _, hx⟩ := h
  obtain ⟨b, off, rfl, h1, h2⟩ := hx (by omega)
  have e := fun i u hu => h2 _ _ (flat_at (f := cr) (k := 5) (fun _ => rfl) l j hj i u hu)
  simp only [← Nat.add_assoc] at e
  exact ⟨b, off, c, rfl, h1, e 0 _ rfl, e 1 _ rfl, e 2 _ rfl, e 3 _ rfl, e 4 _ rfl⟩

/-- The value v reads as this message. -/
def Mg (w : World) (hi : Nat) (v : Value) (m : Ms) : Prop := ∃ q a n r, v = .agg #[.int .i64 m.id, .int .i64 m.fl, q, a, n, r] ∧ SQ w hi q m.q ∧ SR w hi a m.an ∧ SR w hi n m.ns ∧ SR w hi r m.ar
theorem Mg.below {w w' : World} {hi B : Nat} {v : Value} {m : Ms} (h : Mg w hi v m) (hb : Below B w w') (hB : hi ≤ B) : Mg w' hi v m := by
  obtain ⟨q, a, n, r, rfl, h1, h2, h3, h4⟩ := h
  exact ⟨q, a, n, r, rfl, Lst.below h1 hb hB, Lst.below h2 hb hB, Lst.below h3 hb hB, Lst.below h4 hb hB⟩
theorem Mg.wide {w : World} {hi hi' : Nat} {v : Value} {m : Ms} (h : Mg w hi v m) (hh : hi ≤ hi') : Mg w hi' v m := by
  obtain ⟨q, a, n, r, rfl, h1, h2, h3, h4⟩ := h
  exact ⟨q, a, n, r, rfl, Lst.wide h1 hh, Lst.wide h2 hh, Lst.wide h3 hh, Lst.wide h4 hh⟩
theorem Mg.later {w w' : World} {v : Value} {m : Ms} (h : Mg w w.heap.size v m) (hb : Below w.heap.size w w') : Mg w' w'.heap.size v m := (h.below hb (Nat.le_refl _)).wide hb.size

theorem neqR (x : Rc) (w : World) : (binOp .neq 48 (.agg #[.string (bs x.n), .int .i64 x.t, .int .i64 x.c, .int .i64 x.l, .string (bs x.d)]) (.agg #[.string (bs x.n), .int .i64 x.t, .int .i64 x.c, .int .i64 x.l, .string (bs x.d)])).run Try.prog w = .ok (.bool false) w := by
  have hS : Try.prog.underlying 48 = some (.struct (Try.prog.fieldsOf 48)) := by kernel_rfl
  have hI : Try.prog.stoodInHeld 48 = false := by kernel_rfl
  have u3 := Try.underlying3
  have u9 := Try.underlying9
  have a3 := Try.isAgg3
  have z3 := Try.sizeOf3
  have a9 := Try.isAgg9
  have z9 := Try.sizeOf9
  rw [run_neq_struct, run_equalIn_agg _ _ _ _ _ hS hI]
  simp only [Program.fieldsOf, Try.underlying48]
  go_simp
end Go.Proofs.Ytcjgbholgbjejaa

/-
  What a message says besides, plainly: options as bytes and back, what is told of a message, what is put into it, what is left of it.
-/
namespace Go.Proofs.Ytcjgbholgbjejaa
open Go.RowKit Go.Shelf
set_option linter.unusedVariables false
set_option linter.unusedSimpArgs false
set_option maxRecDepth 100000

/-- An option: its code, its data. -/
structure Ot where
  c : Int
  d : List UInt8
/-- What is said besides: how many bytes, the code's upper part, a version, a flag, options. -/
structure Ed where
  s : Int
  x : Int
  v : Int
  b : Bool
  o : List Ot
def ed0 : Ed := ⟨0, 0, 0, false, []⟩

/-! ### options as bytes, and back -/

def b2 (n : Int) : List UInt8 := [UInt8.ofNat (n / 256).toNat, UInt8.ofNat (n % 256).toNat]
/-- An option's bytes. -/
def otB (x : Ot) : List UInt8 := b2 x.c ++ (b2 x.d.length ++ x.d)
def otsB (l : List Ot) : List UInt8 := l.flatMap otB
/-- The number of two bytes. -/
def n2 (b : List UInt8) (p : Nat) : Nat := (b.getD p 0).toNat * 256 + (b.getD (p + 1) 0).toNat
/-- How an option at a place is read: what it is, and where it ends; or where there is too little. -/
inductive OtR where
  | ok (x : Ot) (q : Nat)
  | bad (a : Nat)
def otR (b : List UInt8) (p : Nat) : OtR :=
  if b.length < p + 4 then .bad b.length
  else if b.length < p + 4 + n2 b (p + 2) then .bad b.length
  else .ok ⟨n2 b p, (b.drop (p + 4)).take (n2 b (p + 2))⟩ (p + 4 + n2 b (p + 2))
/-- The options from a place on; and whether they end in a fault. -/
def otsR (b : List UInt8) : Nat → Nat → List Ot × Bool
  | 0, _ => ([], true)
  | n + 1, p =>
    if b.length ≤ p then ([], true) else
      match otR b p with
      | .bad _ => ([], false)
      | .ok x q => (x :: (otsR b n q).1, (otsR b n q).2)

theorem otR_lt {b : List UInt8} {p : Nat} {x : Ot} {q : Nat} (h : otR b p = .ok x q) : p + 4 ≤ q ∧ q ≤ b.length := by
  unfold otR at h
  split at h
  · cases h
  · split at h
    · cases h
    · injection h with h1 h2
      omega

/-! ### records -/

def isO (x : Rc) : Bool := decide (x.t = 41)
def opL (l : List Rc) : List Rc := l.filter isO
def noL (l : List Rc) : List Rc := l.filter fun x => !isO x
/-- What a record of the type says: what, and the error. -/
def recR (x : Rc) : Ed × Int :=
  if x.n = [0] ∧ (0 ≤ x.c ∧ x.c ≤ 65535) ∧ (0 ≤ x.l ∧ x.l ≤ 2147483647) ∧ (otsR x.d x.d.length 0).2 = true then
    (⟨x.c, x.l / 16777216, x.l / 65536 % 256, decide (x.l / 32768 % 2 = 1), (otsR x.d x.d.length 0).1⟩, 0)
  else (ed0, 4)
/-- What a message says besides: what; whether; the error. -/
def ofM (m : Ms) : Ed × Bool × Int :=
  if (opL m.an).length + (opL m.ns).length = 0 ∧ opL m.ar = [] then (ed0, false, 0)
  else match (opL m.an).length + (opL m.ns).length, opL m.ar with
    | 0, [x] => ((recR x).1, decide ((recR x).2 = 0), (recR x).2)
    | _, _ => (ed0, false, 4)
/-- A message without that. -/
def stM (m : Ms) : Ms := ⟨m.id, m.fl, m.q, noL m.an, noL m.ns, noL m.ar⟩
/-- The record of what is said. -/
def edR (e : Ed) : Rc := ⟨[0], 41, e.s, e.x * 16777216 + e.v * 65536 + (if e.b then 32768 else 0), otsB e.o⟩
/-- May it be said? -/
def bnd (n m : Int) : Bool := decide (0 ≤ n) && decide (n ≤ m)
def szO (l : List Ot) : Nat := (l.map fun x => 4 + x.d.length).sum
def chkE (e : Ed) : Int :=
  if bnd e.s 65535 = true ∧ bnd e.x 127 = true ∧ bnd e.v 255 = true ∧ (e.o.all fun x => bnd x.c 65535) = true then (if 65535 < szO e.o then 2 else 0) else 5
/-- A message that says it. -/
def adM (m : Ms) (e : Ed) : Ms := ⟨m.id, m.fl, m.q, m.an, m.ns, m.ar ++ [edR e]⟩
def puM (m : Ms) (e : Ed) : Ms × Int :=
  if chkE e ≠ 0 then (⟨0, 0, [], [], [], []⟩, chkE e)
  else if 0 < (opL m.an).length + (opL m.ns).length + (opL m.ar).length then (⟨0, 0, [], [], [], []⟩, 7)
  else (adM m e, 0)
def codM (m : Ms) : Int := m.fl % 16 + 16 * (ofM m).1.x
def roM (m : Ms) : Int := if 512 ≤ (ofM m).1.s then (ofM m).1.s else 512

/-! ### in memory -/

/-- The cells of an option. -/
def co (x : Ot) : List Value := [.int .i64 x.c, .string (bs x.d)]
def aco (l : List Ot) : List Value := l.flatMap co
theorem aco_len (l : List Ot) : (aco l).length = l.length * 2 := flat_len (f := co) (k := 2) (fun _ => rfl) l
theorem aco_app (l m : List Ot) : aco (l ++ m) = aco l ++ aco m := List.flatMap_append
theorem aco_one (l : List Ot) : ∀ u ∈ aco l, u.oneCell' = true := flat_one (fun x u hu => by
  simp only [co, List.mem_cons, List.mem_nil_iff, or_false] at hu
  rcases hu with rfl | rfl <;> rfl) l
def AtO (w : World) (b o : Nat) (x : Ot) : Prop := w.cell? ⟨b, o, none⟩ = some (.int .i64 x.c) ∧ w.cell? ⟨b, o + 1, none⟩ = some (.string (bs x.d))
theorem AtO.keep {w w' : World} {b o : Nat} {x : Ot} (h : AtO w b o x) (hk : ∀ o, w'.cell? ⟨b, o, none⟩ = w.cell? ⟨b, o, none⟩) : AtO w' b o x := ⟨(hk _).trans h.1, (hk _).trans h.2⟩
/-- The slice v reads as these options. -/
def SO (w : World) (hi : Nat) (v : Value) (l : List Ot) : Prop := Lst w hi v l.length (aco l)
/-- A row of options of the call's own. -/
def OwnO (w : World) (B : Nat) (v : Value) (l : List Ot) : Prop := w.ownsRow B 61 2 v l.length (aco l)
theorem SO.at_ {w : World} {hi : Nat} {v : Value} {l : List Ot} (h : SO w hi v l) (j : Nat) (hj : j < l.length) : ∃ b off c, v = .slice (some ⟨b, off, none⟩) l.length c ∧ b < hi ∧ AtO w b (off + j * 2) l[j] := by
  obtain ⟨a, c, rfl, _, _, hx⟩ := h
  obtain ⟨b, off, rfl, h1, h2⟩ := hx (by omega)
  have e := fun i u hu => h2 _ _ (flat_at (f := co) (k := 2) (fun _ => rfl) l j hj i u hu)
  simp only [← Nat.add_assoc] at e
  exact ⟨b, off, c, rfl, h1, e 0 _ rfl, e 1 _ rfl⟩
/-- The value v reads as what is said besides. -/
def Eg (w : World) (hi : Nat) (v : Value) (e : Ed) : Prop := ∃ o, v = .agg #[.int .i64 e.s, .int .i64 e.x, .int .i64 e.v, .bool e.b, o] ∧ SO w hi o e.o
theorem Eg.below {w w' : World} {hi B : Nat} {v : Value} {e : Ed} (h : Eg w hi v e) (hb : Below B w w') (hB : hi ≤ B) : Eg w' hi v e := by
  obtain ⟨o, rfl, h1⟩ := h
  exact ⟨o, rfl, Lst.below h1 hb hB⟩
theorem Eg.wide {w : World} {hi hi' : Nat} {v : Value} {e : Ed} (h : Eg w hi v e) (hh : hi ≤ hi') : Eg w hi' v e := by
  obtain ⟨o, rfl, h1⟩ := h
  exact ⟨o, rfl, Lst.wide h1 hh⟩
theorem Eg.later {w w' : World} {v : Value} {e : Ed} (h : Eg w w.heap.size v e) (hb : Below w.heap.size w w') : Eg w' w'.heap.size v e := (h.below hb (Nat.le_refl _)).wide hb.size
/-- The value v is what is said besides, its options in a row of the call's own. -/
def Egw (w : World) (B : Nat) (v : Value) (e : Ed) : Prop := ∃ o, v = .agg #[.int .i64 e.s, .int .i64 e.x, .int .i64 e.v, .bool e.b, o] ∧ OwnO w B o e.o
theorem Egw.eg {w : World} {B : Nat} {v : Value} {e : Ed} (h : Egw w B v e) (hl : e.o.length ≤ 1000000) : Eg w w.heap.size v e := by
  obtain ⟨o, rfl, h1⟩ := h
  exact ⟨o, rfl, Lst.own h1 hl⟩
theorem Egw.aside {G : Nat → Prop} {w w' : World} {B : Nat} {v : Value} {e : Ed} (h : Egw w B v e) (ha : Aside G w w') (hG : ∀ k, B ≤ k → ¬ G k) : Egw w' B v e := by
  obtain ⟨o, rfl, h1⟩ := h
  exact ⟨o, rfl, row_aside h1 ha fun k hk => hG k (World.ownsRow.lt h1 k hk).1⟩
theorem Egw.below {w w' : World} {B : Nat} {v : Value} {e : Ed} (h : Egw w B v e) (hb : Below w.heap.size w w') : Egw w' B v e := h.aside (Aside.of_all hb : Aside (fun _ => False) w w') fun _ _ h => h
theorem Egw.base {w : World} {B B' : Nat} {v : Value} {e : Ed} (h : Egw w B v e) (hB : B' ≤ B) : Egw w B' v e := by
  obtain ⟨o, rfl, h1⟩ := h
  refine ⟨o, rfl, h1.1, ?_⟩
  rcases h1.2 with h2 | ⟨g, cap, cur, h2⟩
  · exact .inl h2
  · exact .inr ⟨g, cap, cur, h2.1, Nat.le_trans hB h2.2.1, h2.2.2⟩
theorem egw_zero (w : World) (B : Nat) : Egw w B (.agg #[.int .i64 0, .int .i64 0, .int .i64 0, .bool false, .slice none 0 0]) ed0 := ⟨_, rfl, World.ownsRow_nil _ _ _ _⟩

theorem neqO (x : Ot) (w : World) : (binOp .neq 61 (.agg #[.int .i64 x.c, .string (bs x.d)]) (.agg #[.int .i64 x.c, .string (bs x.d)])).run Try.prog w = .ok (.bool false) w := by
  have hS : Try.prog.underlying 61 = some (.struct (Try.prog.fieldsOf 61)) := by kernel_rfl
  have hI : Try.prog.stoodInHeld 61 = false := by kernel_rfl
  have u3 := Try.underlying3
  have u9 := Try.underlying9
  have a3 := Try.isAgg3
  have z3 := Try.sizeOf3
  have a9 := Try.isAgg9
  have z9 := Try.sizeOf9
  rw [run_neq_struct, run_equalIn_agg _ _ _ _ _ hS hI]
  simp only [Program.fieldsOf, Try.underlying61]
  go_simp

theorem info_ot : (Try.prog.info? 61).map (fun i => (i.zero, i.size, i.bytes)) = some (some (.agg #[.int .i64 0, .string ⟨#[]⟩]), 2, 24) := by kernel_rfl
end Go.Proofs.Ytcjgbholgbjejaa

/-
  Two readings of the same message are told the same.
-/
namespace Go.Proofs.Ytcjgbholgbjejaa
open Go.RowKit Go.Shelf
set_option linter.unusedVariables false
set_option linter.unusedSimpArgs false
set_option maxRecDepth 100000

set_option maxHeartbeats 1000000 in
theorem sameR_yes {w : World} {hi hi' : Nat} {u v : Value} {l : List Rc} (h : SR w hi u l) (h' : SR w hi' v l) (h1 : hi ≤ w.heap.size) (h2 : hi' ≤ w.heap.size) :
    Calls Try.prog 40 #[u, v] w (Tells w (.bool true)) := by
  have HN := Lib.hid (Lst.len h)
  have HS := Lib.hid h
  have HS' := Lib.hid h'
  obtain ⟨a, c, rfl⟩ := Lst.shape h
  obtain ⟨a', c', rfl⟩ := Lst.shape h'
  have HB0 := Lib.hid (Below.refl w.heap.size w)
  clear h h'
  go_enter Try.func40, Try.ntmps40
  go_wp2
  go_loopg [5] l.length (fun g v5 wr => ∃ k : Nat, k + g = l.length ∧ v5 = .int .i64 k ∧ Hid (Below w.heap.size w wr))
  case atStart => exact ⟨0, by omega, rfl, HB0⟩
  case round =>
    clear HB0
    obtain ⟨k, hk, rfl, HB⟩ := hrel
    have hlen := HN.out
    by_cases hlt : k < l.length
    · obtain ⟨b, off, c9, he, hb, hc⟩ := HS.out.at_ k hlt
      obtain ⟨b', off', c9', he', hb', hc'⟩ := HS'.out.at_ k hlt
      injection he with he hn3 hc3
      injection he' with he' hn3' hc3'
      clear hn3 hc3 hn3' hc3'
      subst he; subst he'
      obtain ⟨c0, c1, c2, c3, c4⟩ := hc.keep fun o => HB.out.cell (p := ⟨b, o, none⟩) (Nat.lt_of_lt_of_le hb h1)
      obtain ⟨d0, d1, d2, d3, d4⟩ := hc'.keep fun o => HB.out.cell (p := ⟨b', o, none⟩) (Nat.lt_of_lt_of_le hb' h2)
      have HE := fun wx => neqR l[k] wx
      obtain ⟨x, hx⟩ : ∃ x, l[k] = x := ⟨_, rfl⟩
      rw [hx] at c0 c1 c2 c3 c4 d0 d1 d2 d3 d4 HE
      have HB2 := Lib.hid (fun n => below_drewN HB.out n)
      clear hc hc' hx HB
      go_wp2_with fail
      go_quiet (fail)
      go_wp2_with fail
      go_roundg (l.length - (k + 1))
      case measure => omega
      case rel => exact ⟨k + 1, by omega, by go_num, HB2.out _⟩
    · have t1 : ¬ ((k : Int) < l.length) := by omega
      go_wp2_with fail
      go_ret
      exact ⟨rfl, HB.out⟩

theorem cel_new6 (w : World) (a b c d e f : Value) (T : TypeId) : Cel (w.alloc (.cells #[a, b, c, d, e, f] T)) w.heap.size [a, b, c, d, e, f] := ⟨fun j hj => by
    match j, hj with
    | 0, _ => simp [go_sem]
    | 1, _ => simp [go_sem]
    | 2, _ => simp [go_sem]
    | 3, _ => simp [go_sem]
    | 4, _ => simp [go_sem]
    | 5, _ => simp [go_sem], fun j => by simp [go_sem]⟩
theorem Cel.six {w : World} {q : Nat} {a b c d e f : Value} (h : Cel w q [a, b, c, d, e, f]) : w.cell? ⟨q, 0, none⟩ = some a ∧ w.cell? ⟨q, 1, none⟩ = some b ∧ w.cell? ⟨q, 2, none⟩ = some c ∧ w.cell? ⟨q, 3, none⟩ = some d ∧ w.cell? ⟨q, 4, none⟩ = some e ∧ w.cell? ⟨q, 5, none⟩ = some f :=
  ⟨h.c 0 (by simp), h.c 1 (by simp), h.c 2 (by simp), h.c 3 (by simp), h.c 4 (by simp), h.c 5 (by simp)⟩

end Go.Proofs.Ytcjgbholgbjejaa

/-
  The document's Name.
-/
namespace Go.Proofs.Ytcjgbholgbjejaa
open Go.RowKit Go.Shelf
set_option linter.unusedVariables false
set_option maxRecDepth 100000

theorem OwnU.sl {w : World} {B : Nat} {v : Value} {l : List UInt8} (h : OwnU w B v l) : Sl w B w.heap.size v (iz l) := by
  have hlt := fun k hk => World.ownsRowF.lt h k hk
  obtain ⟨a, c, hv, hx⟩ := h.shape
  rcases h.2 with ⟨rfl, h0⟩ | ⟨g, cap, cur, fz, rfl, hg, hh, hfz, hcap, _⟩
  · have e : l = [] := List.eq_nil_of_length_eq_zero h0
    subst e
    exact ⟨none, 0, rfl, by simp [iz], fun _ => rfl, fun h => by simp [iz] at h⟩
  · refine ⟨some ⟨g, 0, none⟩, cap, by rw [iz_len], by rw [iz_len]; exact hcap, fun h => by simp at h, fun h0 => ⟨g, 0, rfl, hg, (hlt g rfl).2, fun j hj => ?_⟩⟩
    rw [iz_len] at hj
    obtain ⟨g', he, _, hc⟩ := hx (by omega)
    injection hv with hv
    rw [← hv] at he
    injection he with he
    injection he with he
    subst he
    rw [Nat.zero_add, hc j hj, iz_get l j hj, List.getD, List.getElem?_eq_getElem hj]
    rfl

theorem OwnU.but {w w' : World} {B : Nat} {v : Value} {l : List UInt8} {G : Nat → Prop} (h : OwnU w B v l) (ha : Aside G w w') (hG : ∀ b, v.ownBlock = some b → ¬ G b) : OwnU w' B v l := by
  have hlt := fun k hk => World.ownsRowF.lt h k hk
  refine ⟨h.1, ?_⟩
  rcases h.2 with h2 | ⟨g, cap, cur, fz, hv, hg, hh, r⟩
  · exact .inl h2
  · exact .inr ⟨g, cap, cur, fz, hv, hg, (ha.block g (by subst hv; exact (hlt g rfl).2) (hG g (by rw [hv]; rfl))).trans hh, r⟩

end Go.Proofs.Ytcjgbholgbjejaa

/-
  What Write stands on: two bytes of a number, the deferred function, the bytes so far and the packer.
-/
namespace Go.Proofs.Ytcjgbholgbjejaa
open Go.RowKit Go.Shelf
set_option linter.unusedVariables false
set_option linter.unusedSimpArgs false
set_option maxRecDepth 100000

theorem rowB_all {l : List UInt8} {cap : Nat} : ∀ u ∈ rowB l cap, ∃ x : Int, u = .int .u8 x := by
  intro u hu
  unfold rowB at hu
  rcases List.mem_append.mp hu with hu | hu
  · rw [ub_iz] at hu
    obtain ⟨x, _, rfl⟩ := List.mem_map.mp hu
    exact ⟨x, rfl⟩
  · exact ⟨0, (List.mem_replicate.mp hu).2⟩

/-- A packer's blocks are not those of a row of bytes. -/
theorem pk_apart {w : World} {p bm e B : Nat} {K : KK} {v : Value} {l : List UInt8} (h : Pk w p bm K e) (ho : OwnB w B v l) (b : Nat) (hb : v.ownBlock = some b) : ¬ (b = p ∨ b = bm) := by
  rcases ho with ⟨rfl, _⟩ | ⟨g, cap, fz, rfl, _, _, _, _, hg⟩
  · simp [Value.ownBlock] at hb
  · simp [Value.ownBlock] at hb
    subst hb
    rintro (rfl | rfl)
    · have := h.self
      rw [World.cell?, hg] at this
      simp only [List.getElem?_toArray] at this
      have hm := rowB_all _ (List.mem_of_getElem? (by simpa using this))
      obtain ⟨x, hx⟩ := hm
      cases hx
    · obtain ⟨D, ⟨es, clock, hm, _⟩, _⟩ := h.map
      rw [hg] at hm
      cases hm

/-- What is written so far: the message's cells, the slice of the bytes, no error, the pointers to the lists, the bytes. -/
structure W0 (w wr : World) (M N B0 : Nat) (xs ys : List Value) (bv : Value) (b : List UInt8) : Prop where
  x : Cel wr M xs
  xl : 0 < xs.length
  c2 : Cel wr (M + 1) [bv]
  c3 : Cel wr (M + 2) [.int .i64 0]
  y : Cel wr N ys
  yl : 0 < ys.length
  hN : N < B0
  hM : M + 3 ≤ B0
  ne : N ≠ M + 1 ∧ N ≠ M + 2
  row : OwnB wr B0 bv b
  bel : Below M w wr
  size : B0 ≤ wr.heap.size

section
variable {w wr w' : World} {M N B0 p bm e : Nat} {xs ys : List Value} {bv : Value} {b : List UInt8} {K : KK}
theorem W0.aside {G : Nat → Prop} (h : W0 w wr M N B0 xs ys bv b) (ha : Aside G wr w') (hG : ∀ k, k < B0 → ¬ G k) (hr : ∀ k, bv.ownBlock = some k → ¬ G k) : W0 w w' M N B0 xs ys bv b := by
  have hm := h.hM
  exact ⟨h.x.aside h.xl ha (hG _ (by omega)), h.xl, h.c2.aside (by simp) ha (hG _ (by omega)), h.c3.aside (by simp) ha (hG _ (by omega)), h.y.aside h.yl ha (hG _ h.hN), h.yl, h.hN, hm, h.ne, h.row.aside ha hr, below_aside h.bel ha fun k hk => ⟨Nat.lt_of_lt_of_le (by omega) h.size, hG k (by omega)⟩, Nat.le_trans h.size ha.size⟩
theorem W0.later (h : W0 w wr M N B0 xs ys bv b) (hb : Below wr.heap.size wr w') : W0 w w' M N B0 xs ys bv b :=
  h.aside (G := fun _ => False) (Aside.of_all hb) (fun _ _ h => h) (fun _ _ h => h)
/-- Another slice of the bytes is stored. -/
theorem W0.put {v : Value} {b' : List UInt8} (h : W0 w wr M N B0 xs ys bv b) (ho : OwnB wr B0 v b') : W0 w (wr.setCell ⟨M + 1, 0, none⟩ v) M N B0 xs ys v b' := by
  have hm := h.hM
  refine ⟨h.x.other (by simp) _, h.xl, ?_, h.c3.other (by simp) _, h.y.other (by simpa using h.ne.1.symm) _, h.yl, h.hN, hm, h.ne, ?_, h.bel.setCell (by simp) _, Nat.le_trans h.size (by simp [World.setCell])⟩
  · have := h.c2.set (o := 0) (by simp) v
    simpa using this
  · refine ho.aside (G := fun k => k = M + 1) (Aside.setCell _ _ rfl) fun k hk hg => ?_
    have := (ho.lt k hk).1
    omega
/-- The bytes so far are laid in another row, and its slice is stored. -/
theorem W0.app (h : W0 w wr M N B0 xs ys bv b) {xv : Value} {l' : List UInt8} {lo hi : Nat} (hx : Sl wr lo hi xv (iz l')) (hb : b.length + l'.length ≤ 1000000) :
    ∃ a' c' w', (Builtin.append_ #[67, 67] 67 #[bv, xv]).run Try.prog wr = .ok (.slice a' (b.length + l'.length) c') w' ∧
      w'.cell? ⟨M + 1, 0, none⟩ = some bv ∧ (∀ j, w'.frozen? ⟨M + 1, j, none⟩ = false) ∧ W0 w (w'.setCell ⟨M + 1, 0, none⟩ (.slice a' (b.length + l'.length) c')) M N B0 xs ys (.slice a' (b.length + l'.length) c') (b ++ l') ∧
      ∀ p bm K e, Pk wr p bm K e → B0 ≤ p → B0 ≤ bm → Pk (w'.setCell ⟨M + 1, 0, none⟩ (.slice a' (b.length + l'.length) c')) p bm K e := by
  have hm := h.hM
  obtain ⟨a', c', w', h1, h2, ha⟩ := run_appBs B0 bv xv b l' h.row hx hb h.size
  have hlt := h.row.lt
  have hG : ∀ k, k < B0 → ¬ bv.ownBlock = some k := fun k hk hg => by have := (hlt k hg).1; omega
  have k2 := h.c2.aside (by simp) ha (hG _ (by omega))
  have k0 := h.x.aside h.xl ha (hG _ (by omega))
  have k3 := h.c3.aside (by simp) ha (hG _ (by omega))
  have k4 := h.y.aside h.yl ha (hG _ h.hN)
  refine ⟨a', c', w', h1, k2.c 0 (by simp), k2.fz, ⟨k0.other (by simp) _, h.xl, ?_, k3.other (by simp) _, k4.other (by simpa using h.ne.1.symm) _, h.yl, h.hN, hm, h.ne, ?_, ?_, ?_⟩, fun p bm K e hp p1 p2 => ?_⟩
  · have := k2.set (o := 0) (by simp) (.slice a' (b.length + l'.length) c')
    simpa using this
  · refine h2.aside (G := fun k => k = M + 1) (Aside.setCell _ _ rfl) fun k hk hg => ?_
    have := (h2.lt k hk).1
    omega
  · exact (below_aside h.bel ha fun k hk => ⟨Nat.lt_of_lt_of_le (by omega) h.size, hG k (by omega)⟩).setCell (by simp) _
  · exact Nat.le_trans h.size (Nat.le_trans ha.size (by simp [World.setCell]))
  · have := hp.aside ha (fun hg => pk_apart hp h.row p hg (.inl rfl)) (fun hg => pk_apart hp h.row bm hg (.inr rfl))
    exact this.aside (G := fun k => k = M + 1) (Aside.setCell _ _ rfl) (by omega) (by omega)
end

theorem cel_new1 (w : World) (a : Value) (T : TypeId) : Cel (w.alloc (.cells #[a] T)) w.heap.size [a] := ⟨fun j hj => by
    match j, hj with
    | 0, _ => simp [go_sem], fun j => by simp [go_sem]⟩

theorem oper_app_run {w w' : World} {v v' xv : Value} {ops : Array Oper} {o : Oper} {a : Act} {K : Act → World → Prop} {Q : Exit → Act → World → Prop} (s x : Operand) (t u : TypeId)
    (ho : o.op = .call { callee := .builtin .append, args := #[s, x], argTypes := #[t, u] }) (hgd : o.guard = .none) (hs : a.eval s = v) (hx : a.eval x = xv)
    (hrun : (Builtin.append_ #[t, u] o.type #[v, xv]).run Try.prog w = .ok v' w') (h : K (a.put o.dst v') w') : if Region.wanted o (yielded ops a.tmps) = true then Oper.wp Try.prog o a w K Q else K (a.put o.dst undef) w := by
  rw [if_pos (by simp [Region.wanted, hgd])]
  unfold Oper.wp
  simp [execOp, ho, resolve, invoke, builtin, hs, hx, hrun, Result.andThen]
  exact h

end Go.Proofs.Ytcjgbholgbjejaa

/-
  Messages, plainly: the message that bytes are.
-/
namespace Go.Proofs.Ytcjgbholgbjejaa
open Go.RowKit Go.Shelf
set_option linter.unusedVariables false
set_option linter.unusedSimpArgs false
set_option maxRecDepth 100000

/-- What reading some comes to: these, and where they end; or the fault. -/
inductive RD (α : Type) where
  | ok (l : List α) (p : Nat)
  | bad (e a : Int)

def RD.cons {α : Type} (x : α) : RD α → RD α
  | .ok l q => .ok (x :: l) q
  | .bad e a => .bad e a

/-- A number of the head. -/
def hd (b : List UInt8) (k : Nat) : Int := nAt2 (iz b) (2 * k)

/-! ### faults -/

/-! ### with others behind -/

/-! ### what stands is read -/

end Go.Proofs.Ytcjgbholgbjejaa

/-
  The numbers at a message's head: numbers, Head.
-/
namespace Go.Proofs.Ytcjgbholgbjejaa
open Go.RowKit Go.Shelf
set_option linter.unusedVariables false
set_option linter.unusedSimpArgs false
set_option maxRecDepth 100000

/-- The first k numbers, then noughts. -/
def pre (b : List UInt8) : Nat → List Value
  | 0 => [.int .i64 0, .int .i64 0, .int .i64 0, .int .i64 0, .int .i64 0, .int .i64 0]
  | k + 1 => (pre b k).set k (.int .i64 (hd b k))
end Go.Proofs.Ytcjgbholgbjejaa

/-
  An entry of a list is read, and laid behind the others.
-/
namespace Go.Proofs.Ytcjgbholgbjejaa
open Go.RowKit Go.Shelf
set_option linter.unusedVariables false
set_option linter.unusedSimpArgs false
set_option maxRecDepth 100000

theorem info_qn : (Try.prog.info? 50).map (fun i => (i.zero, i.size, i.bytes)) = some (some (.agg #[.string ⟨#[]⟩, .int .i64 0, .int .i64 0]), 3, 32) := by kernel_rfl
theorem info_rc : (Try.prog.info? 48).map (fun i => (i.zero, i.size, i.bytes)) = some (some (.agg #[.string ⟨#[]⟩, .int .i64 0, .int .i64 0, .int .i64 0, .string ⟨#[]⟩]), 5, 56) := by kernel_rfl

/-- append to rows of questions, of records. -/
theorem run_appQn {w : World} {B hi : Nat} {v u : Value} {l m : List Qn} (h : OwnQn w B v l) (hx : SQ w hi u m) (hnm : l.length + m.length ≤ 1000000) (hB : B ≤ w.heap.size) :
    ∃ a' c' w', (Builtin.append_ #[22, 22] 22 #[v, u]).run Try.prog w = .ok (.slice a' (l.length + m.length) c') w' ∧ OwnQn w' B (.slice a' (l.length + m.length) c') (l ++ m) ∧ Aside (fun b => v.ownBlock = some b) w w' ∧
      ((Value.slice a' (l.length + m.length) c').ownBlock = v.ownBlock ∨ (Value.slice a' (l.length + m.length) c').ownBlock = some w.heap.size) := by
  obtain ⟨i0, hi, hz0, hz1, hz2⟩ := info_parts info_qn
  obtain ⟨a', c', w', h1, h2, h3, h4⟩ := row_more (ty := 22) 32 Try.underlying22 hi hz0 hz1 hz2 rfl (by decide) (by decide) h hx (acq_len m) (acq_one m) hnm hB
  refine ⟨a', c', w', h1, ?_, h3, h4⟩
  unfold OwnQn
  rw [List.length_append, acq_app]
  exact h2
theorem run_appRc {w : World} {B hi : Nat} {v u : Value} {l m : List Rc} (h : OwnRc w B v l) (hx : SR w hi u m) (hnm : l.length + m.length ≤ 1000000) (hB : B ≤ w.heap.size) :
    ∃ a' c' w', (Builtin.append_ #[23, 23] 23 #[v, u]).run Try.prog w = .ok (.slice a' (l.length + m.length) c') w' ∧ OwnRc w' B (.slice a' (l.length + m.length) c') (l ++ m) ∧ Aside (fun b => v.ownBlock = some b) w w' ∧
      ((Value.slice a' (l.length + m.length) c').ownBlock = v.ownBlock ∨ (Value.slice a' (l.length + m.length) c').ownBlock = some w.heap.size) := by
  obtain ⟨i0, hi, hz0, hz1, hz2⟩ := info_parts info_rc
  obtain ⟨a', c', w', h1, h2, h3, h4⟩ := row_more (ty := 23) 56 Try.underlying23 hi hz0 hz1 hz2 rfl (by decide) (by decide) h hx (acr_len m) (acr_one m) hnm hB
  refine ⟨a', c', w', h1, ?_, h3, h4⟩
  unfold OwnRc
  rw [List.length_append, acr_app]
  exact h2

/-- One that was just built, as a slice. -/
theorem sq_one (w : World) (x : Qn) : SQ (w.alloc (.cells #[.string (bs x.n), .int .i64 x.t, .int .i64 x.c] 50)) (w.heap.size + 1) (.slice (some ⟨w.heap.size, 0, none⟩) 1 1) [x] :=
  ⟨_, 1, rfl, by simp, fun h => by simp at h, fun _ => ⟨w.heap.size, 0, rfl, by omega, fun i u hu => by
    have hc := cel_new3 w (.string (bs x.n)) (.int .i64 x.t) (.int .i64 x.c) 50
    rw [Nat.zero_add]
    match i, hu with
    | 0, hu => rw [hc.c 0 (by simp)]; simpa [acq, cq] using hu
    | 1, hu => rw [hc.c 1 (by simp)]; simpa [acq, cq] using hu
    | 2, hu => rw [hc.c 2 (by simp)]; simpa [acq, cq] using hu
    | i + 3, hu => simp [acq, cq] at hu⟩⟩
theorem sr_one (w : World) (x : Rc) : SR (w.alloc (.cells #[.string (bs x.n), .int .i64 x.t, .int .i64 x.c, .int .i64 x.l, .string (bs x.d)] 48)) (w.heap.size + 1) (.slice (some ⟨w.heap.size, 0, none⟩) 1 1) [x] :=
  ⟨_, 1, rfl, by simp, fun h => by simp at h, fun _ => ⟨w.heap.size, 0, rfl, by omega, fun i u hu => by
    have hc := cel_new w (.string (bs x.n)) (.int .i64 x.t) (.int .i64 x.c) (.int .i64 x.l) (.string (bs x.d)) 48
    rw [Nat.zero_add]
    match i, hu with
    | 0, hu => rw [hc.c 0 (by simp)]; simpa [acr, cr] using hu
    | 1, hu => rw [hc.c 1 (by simp)]; simpa [acr, cr] using hu
    | 2, hu => rw [hc.c 2 (by simp)]; simpa [acr, cr] using hu
    | 3, hu => rw [hc.c 3 (by simp)]; simpa [acr, cr] using hu
    | 4, hu => rw [hc.c 4 (by simp)]; simpa [acr, cr] using hu
    | i + 5, hu => simp [acr, cr] at hu⟩⟩

end Go.Proofs.Ytcjgbholgbjejaa

/-
  What Read stands on: what is read so far, the deferred function.
-/
namespace Go.Proofs.Ytcjgbholgbjejaa
open Go.RowKit Go.Shelf
set_option linter.unusedVariables false
set_option linter.unusedSimpArgs false
set_option maxRecDepth 100000

def RD.app {α : Type} (l : List α) : RD α → RD α
  | .ok l' q => .ok (l ++ l') q
  | .bad e a => .bad e a
/-- What is read so far. -/
structure R0 (w wr : World) (M H B0 : Nat) (i0 i1 : Int) (hs : List Value) (v2 v3 v4 v5 : Value) (lq : List Qn) (la ln lr : List Rc) : Prop where
  x : Cel wr M [.int .i64 i0, .int .i64 i1, v2, v3, v4, v5]
  f : Cel wr (M + 1) [.int .i64 0, .int .i64 0]
  h : Cel wr H hs
  hl : 0 < hs.length
  q : OwnQn wr B0 v2 lq
  a : OwnRc wr B0 v3 la
  n : OwnRc wr B0 v4 ln
  r : OwnRc wr B0 v5 lr
  n34 : ∀ k, v3.ownBlock = some k → v4.ownBlock = some k → False
  n35 : ∀ k, v3.ownBlock = some k → v5.ownBlock = some k → False
  n45 : ∀ k, v4.ownBlock = some k → v5.ownBlock = some k → False
  bel : Below M w wr
  size : B0 ≤ wr.heap.size
  hH : M + 2 ≤ H
  hB : H < B0

section
variable {w wr w' : World} {M H B0 : Nat} {i0 i1 : Int} {hs : List Value} {v2 v3 v4 v5 : Value} {lq : List Qn} {la ln lr : List Rc}
theorem R0.later (h : R0 w wr M H B0 i0 i1 hs v2 v3 v4 v5 lq la ln lr) (hb : Below wr.heap.size wr w') : R0 w w' M H B0 i0 i1 hs v2 v3 v4 v5 lq la ln lr :=
  ⟨h.x.below (by simp) hb, h.f.below (by simp) hb, h.h.below h.hl hb, h.hl, row_below h.q hb, row_below h.a hb, row_below h.n hb, row_below h.r hb, h.n34, h.n35, h.n45, below_aside h.bel (Aside.of_all hb : Aside (fun _ => False) wr w') (fun k hk => ⟨by have := h.size; have := h.hB; have := h.hH; omega, id⟩), Nat.le_trans h.size hb.size, h.hH, h.hB⟩

end

end Go.Proofs.Ytcjgbholgbjejaa

/-
  The message that bytes are: Read.
-/
namespace Go.Proofs.Ytcjgbholgbjejaa
open Go.RowKit Go.Shelf
set_option linter.unusedVariables false
set_option linter.unusedSimpArgs false
set_option maxRecDepth 100000

section
variable {w wr w' : World} {M H B0 : Nat} {i0 i1 : Int} {hs : List Value} {v2 v3 v4 v5 : Value} {lq : List Qn} {la ln lr : List Rc}
theorem R0.drew (h : R0 w wr M H B0 i0 i1 hs v2 v3 v4 v5 lq la ln lr) : R0 w wr.drew M H B0 i0 i1 hs v2 v3 v4 v5 lq la ln lr := h.later (Below.refl _ _).drew
/-- What is read is the message. -/
theorem R0.mg (h : R0 w wr M H B0 i0 i1 hs v2 v3 v4 v5 lq la ln lr) (k0 : lq.length ≤ 65535) (k1 : la.length ≤ 65535) (k2 : ln.length ≤ 65535) (k3 : lr.length ≤ 65535) : Mg wr wr.heap.size (.agg #[.int .i64 i0, .int .i64 i1, v2, v3, v4, v5]) ⟨i0, i1, lq, la, ln, lr⟩ :=
  ⟨v2, v3, v4, v5, rfl, Lst.own h.q (by show lq.length ≤ 1000000; omega), Lst.own h.a (by show la.length ≤ 1000000; omega), Lst.own h.n (by show ln.length ≤ 1000000; omega), Lst.own h.r (by show lr.length ≤ 1000000; omega)⟩
end

end Go.Proofs.Ytcjgbholgbjejaa

/-
  Flags: the opcode, the code, another code; the statement about them.
-/
namespace Go.Proofs.Ytcjgbholgbjejaa
open Go.RowKit Go.Shelf
set_option linter.unusedVariables false
set_option linter.unusedSimpArgs false
set_option maxRecDepth 100000

theorem i64_and15 (n : Int) : bits .and .i64 n 15 = n % 16 := by
  have h15 : (BitVec.ofInt 64 15).toNat = 2 ^ 4 - 1 := by decide
  have key : (BitVec.ofInt 64 n &&& BitVec.ofInt 64 15).toNat = (n % ((2 ^ 64 : Nat) : Int)).toNat % 2 ^ 4 := by
    rw [BitVec.toNat_and, BitVec.toNat_ofInt, h15, Nat.and_two_pow_sub_one_eq_mod]
  show IntKind.i64.wrap ((BitVec.ofInt 64 n &&& BitVec.ofInt 64 15).toNat : Nat) = n % 16
  rw [key, IntKind.wrap_i64]
  omega
def cdF (f : Int) : Int := f % 16
/-- The same value is told, nothing in memory turns. -/
def Tell0 (w : World) (v : Value) (e : Ending) (w' : World) : Prop := e = .returned v ∧ w = w'

theorem mcode_any (f : Int) (w : World) : Calls Try.prog 28 #[.int .i64 f] w (Tell0 w (.int .i64 (cdF f))) := by
  go_enter Try.func28, Try.ntmps28
  go_wp2
  go_ret
  exact ⟨by rw [i64_and15]; rfl, rfl⟩
end Go.Proofs.Ytcjgbholgbjejaa

/-
  The bare answer: Reply, and its flags.
-/
namespace Go.Proofs.Ytcjgbholgbjejaa
open Go.RowKit Go.Shelf
set_option linter.unusedVariables false
set_option linter.unusedSimpArgs false
set_option maxRecDepth 100000

/-- The answer while questions are being taken over. -/
structure Rp (w wr : World) (N : Nat) (i f : Int) (qv : Value) (l : List Qn) : Prop where
  bel : Below N w wr
  z : Cel wr (N + 1) [.int .i64 0, .int .i64 0, .slice none 0 0, .slice none 0 0, .slice none 0 0, .slice none 0 0]
  r : Cel wr (N + 2) [.int .i64 i, .int .i64 f, qv, .slice none 0 0, .slice none 0 0, .slice none 0 0]
  own : OwnQn wr (N + 3) qv l
  size : N + 3 ≤ wr.heap.size

section
variable {w wr w' : World} {N : Nat} {i f : Int} {qv : Value} {l : List Qn}
theorem Rp.later (h : Rp w wr N i f qv l) (hb : Below wr.heap.size wr w') : Rp w w' N i f qv l :=
  ⟨below_aside h.bel (Aside.of_all hb : Aside (fun _ => False) wr w') (fun k hk => ⟨by have := h.size; omega, id⟩), h.z.below (by simp) hb, h.r.below (by simp) hb, row_below h.own hb, Nat.le_trans h.size hb.size⟩
theorem Rp.aside {b : Nat} (h : Rp w wr N i f qv l) (ha : Aside (fun k => k = b) wr w') (hb : N + 3 ≤ b) (ho : ∀ k, qv.ownBlock = some k → k ≠ b) : Rp w w' N i f qv l :=
  ⟨below_aside h.bel ha (fun k hk => ⟨by have := h.size; omega, by omega⟩), h.z.aside (by simp) ha (by omega), h.r.aside (by simp) ha (by omega), row_aside h.own ha ho, Nat.le_trans h.size ha.size⟩
/-- A question is laid behind the others. -/
theorem Rp.app (h : Rp w wr N i f qv l) {hi : Nat} {u : Value} {x : Qn} (hx : SQ wr hi u [x]) (hl : l.length + 1 ≤ 1000000) :
    ∃ a c w6, (Builtin.append_ #[22, 22] 22 #[qv, u]).run Try.prog wr = .ok (.slice a (l.length + 1) c) w6 ∧ w6.frozen? ⟨N + 2, 2, none⟩ = false ∧ w6.cell? ⟨N + 2, 2, none⟩ = some qv ∧
      Rp w (w6.setCell ⟨N + 2, 2, none⟩ (.slice a (l.length + 1) c)) N i f (.slice a (l.length + 1) c) (l ++ [x]) ∧ (∀ b, (Value.slice a (l.length + 1) c).ownBlock = some b → qv.ownBlock = some b ∨ wr.heap.size ≤ b) := by
  obtain ⟨a, c, w6, h1, h2, h3, h4⟩ := run_appQn h.own hx hl h.size
  simp only [List.length_singleton] at h1 h2 h4
  have hlt := World.ownsRow.lt h.own
  have hG : ∀ k, k < N + 3 → ¬ qv.ownBlock = some k := fun k hk hg => by have := (hlt k hg).1; omega
  have z6 := h.z.aside (by simp) h3 (hG _ (by omega))
  have r6 := h.r.aside (by simp) h3 (hG _ (by omega))
  have hs := Nat.le_trans h.size h3.size
  have hst : Aside (fun k => k = N + 2) w6 (w6.setCell ⟨N + 2, 2, none⟩ (.slice a (l.length + 1) c)) := Aside.setCell w6 (p := ⟨N + 2, 2, none⟩) _ rfl
  refine ⟨a, c, w6, h1, r6.fz 2, r6.c 2 (by simp), ⟨?_, z6.other (a := ⟨N + 2, 2, none⟩) (by show N + 2 ≠ N + 1; omega) _, r6.set (o := 2) (by simp) _, row_aside h2 hst fun k hk hg => by have := (World.ownsRow.lt h2 k hk).1; omega, Nat.le_trans hs hst.size⟩, fun b hb => ?_⟩
  · exact below_aside (below_aside h.bel h3 (fun k hk => ⟨by have := h.size; omega, hG k (by omega)⟩)) hst (fun k hk => ⟨by omega, by omega⟩)
  · rcases h4 with h4 | h4
    · exact .inl (by rw [← h4]; exact hb)
    · right
      rw [h4] at hb
      injection hb with hb
      omega
end

section
variable {w : World} {q : Nat} {a0 a1 a2 a3 a4 a5 : Value}
/-- Six cells stored one after another. -/
def put6 (w : World) (q : Nat) (b0 b1 b2 b3 b4 b5 : Value) : World :=
  (((((w.setCell ⟨q, 0, none⟩ b0).setCell ⟨q, 1, none⟩ b1).setCell ⟨q, 2, none⟩ b2).setCell ⟨q, 3, none⟩ b3).setCell ⟨q, 4, none⟩ b4).setCell ⟨q, 5, none⟩ b5
theorem cel_put6 (h : Cel w q [a0, a1, a2, a3, a4, a5]) (b0 b1 b2 b3 b4 b5 : Value) : Cel (put6 w q b0 b1 b2 b3 b4 b5) q [b0, b1, b2, b3, b4, b5] := by
  have := (((((h.set (o := 0) (by simp) b0).set (o := 1) (by simp) b1).set (o := 2) (by simp) b2).set (o := 3) (by simp) b3).set (o := 4) (by simp) b4).set (o := 5) (by simp) b5
  simp only [List.set_cons_zero, List.set_cons_succ] at this
  exact this
theorem aside_put6 (w : World) (q : Nat) (b0 b1 b2 b3 b4 b5 : Value) : Aside (fun k => k = q) w (put6 w q b0 b1 b2 b3 b4 b5) := by
  have st : ∀ (x : World) (o : Nat) (v : Value), Aside (fun k => k = q) x (x.setCell ⟨q, o, none⟩ v) := fun x o v => Aside.setCell x (p := ⟨q, o, none⟩) v rfl
  exact (((((st _ _ _).trans (st _ _ _)).trans (st _ _ _)).trans (st _ _ _)).trans (st _ _ _)).trans (st _ _ _)
end

theorem row_base {w : World} {B B' k n : Nat} {e : TypeId} {v : Value} {xs : List Value} (h : w.ownsRow B e k v n xs) (hB : B' ≤ B) : w.ownsRow B' e k v n xs := by
  refine ⟨h.1, ?_⟩
  rcases h.2 with h2 | ⟨g, cap, cur, h2⟩
  · exact .inl h2
  · exact .inr ⟨g, cap, cur, h2.1, Nat.le_trans hB h2.2.1, h2.2.2⟩

end Go.Proofs.Ytcjgbholgbjejaa

/-
  Questions and records copied with room to spare; that room is as it was.
-/
namespace Go.Proofs.Ytcjgbholgbjejaa
open Go.RowKit Go.Shelf
set_option linter.unusedVariables false
set_option linter.unusedSimpArgs false
set_option maxRecDepth 100000

/-- The marks. -/
def qmark : Qn := ⟨[], 7, 0⟩
def rmark : Rc := ⟨[], 7, 0, 0, []⟩
/-- A copy with a mark behind it. -/
def CpQ (w : World) (B : Nat) (v : Value) (l : List Qn) : Prop := ∃ a c, v = .slice a l.length c ∧ OwnQn w B (.slice a (l.length + 1) c) (l ++ [qmark])
def CpR (w : World) (B : Nat) (v : Value) (l : List Rc) : Prop := ∃ a c, v = .slice a l.length c ∧ OwnRc w B (.slice a (l.length + 1) c) (l ++ [rmark])
theorem own_cut (a : Option Addr) (n m c : Nat) : (Value.slice a n c).ownBlock = (Value.slice a m c).ownBlock := by cases a <;> rfl
section
variable {w w' : World} {B : Nat} {v : Value}
theorem CpQ.below {l : List Qn} (h : CpQ w B v l) (hb : Below w.heap.size w w') : CpQ w' B v l := by
  obtain ⟨a, c, rfl, h1⟩ := h
  exact ⟨a, c, rfl, row_below h1 hb⟩
theorem CpR.below {l : List Rc} (h : CpR w B v l) (hb : Below w.heap.size w w') : CpR w' B v l := by
  obtain ⟨a, c, rfl, h1⟩ := h
  exact ⟨a, c, rfl, row_below h1 hb⟩
theorem CpQ.base {B' : Nat} {l : List Qn} (h : CpQ w B v l) (hB : B' ≤ B) : CpQ w B' v l := by
  obtain ⟨a, c, rfl, h1⟩ := h
  exact ⟨a, c, rfl, row_base h1 hB⟩
theorem CpR.base {B' : Nat} {l : List Rc} (h : CpR w B v l) (hB : B' ≤ B) : CpR w B' v l := by
  obtain ⟨a, c, rfl, h1⟩ := h
  exact ⟨a, c, rfl, row_base h1 hB⟩
theorem CpQ.aside {G : Nat → Prop} {l : List Qn} (h : CpQ w B v l) (ha : Aside G w w') (hG : ∀ k, v.ownBlock = some k → ¬ G k) : CpQ w' B v l := by
  obtain ⟨a, c, rfl, h1⟩ := h
  exact ⟨a, c, rfl, row_aside h1 ha fun k hk => hG k (by rw [own_cut a _ (l.length + 1)]; exact hk)⟩
theorem CpR.aside {G : Nat → Prop} {l : List Rc} (h : CpR w B v l) (ha : Aside G w w') (hG : ∀ k, v.ownBlock = some k → ¬ G k) : CpR w' B v l := by
  obtain ⟨a, c, rfl, h1⟩ := h
  exact ⟨a, c, rfl, row_aside h1 ha fun k hk => hG k (by rw [own_cut a _ (l.length + 1)]; exact hk)⟩
theorem CpQ.lt {l : List Qn} (h : CpQ w B v l) : ∀ k, v.ownBlock = some k → B ≤ k ∧ k < w.heap.size := by
  obtain ⟨a, c, rfl, h1⟩ := h
  exact fun k hk => World.ownsRow.lt h1 k (by rw [own_cut a _ l.length]; exact hk)
theorem CpR.lt {l : List Rc} (h : CpR w B v l) : ∀ k, v.ownBlock = some k → B ≤ k ∧ k < w.heap.size := by
  obtain ⟨a, c, rfl, h1⟩ := h
  exact fun k hk => World.ownsRow.lt h1 k (by rw [own_cut a _ l.length]; exact hk)
theorem CpQ.sq {l : List Qn} (h : CpQ w B v l) (hl : l.length ≤ 900000) : SQ w w.heap.size v l := by
  obtain ⟨a, c, rfl, h1⟩ := h
  have h2 := Lst.own h1 (by rw [List.length_append, List.length_singleton]; omega)
  rw [List.length_append, List.length_singleton, acq_app] at h2
  exact Lst.part h2 (by omega)
theorem CpR.sr {l : List Rc} (h : CpR w B v l) (hl : l.length ≤ 900000) : SR w w.heap.size v l := by
  obtain ⟨a, c, rfl, h1⟩ := h
  have h2 := Lst.own h1 (by rw [List.length_append, List.length_singleton]; omega)
  rw [List.length_append, List.length_singleton, acr_app] at h2
  exact Lst.part h2 (by omega)
end

theorem size_rc (wx : World) : (sizeOf (Try.prog.elem 23)).run Try.prog wx = .ok 5 wx := by kernel_rfl
theorem row_cap {w : World} {B k n : Nat} {e : TypeId} {a : Option Addr} {m c : Nat} {xs : List Value} (h : w.ownsRow B e k (.slice a m c) n xs) : n ≤ c := by
  rcases h.2 with ⟨h2, h0⟩ | ⟨g, cap, cur, h2, _, _, h3, _⟩
  · omega
  · injection h2 with _ _ h2
    omega

end Go.Proofs.Ytcjgbholgbjejaa

/-
  What is said besides, as the statements compare and copy it: SameEdns, BigEdns, CopyEdns.
-/
namespace Go.Proofs.Ytcjgbholgbjejaa
open Go.RowKit Go.Shelf
set_option linter.unusedVariables false
set_option linter.unusedSimpArgs false
set_option maxRecDepth 100000

set_option maxHeartbeats 1000000 in
theorem sameE_yes {w : World} {hi hi' : Nat} {u v : Value} {e : Ed} (h : Eg w hi u e) (h' : Eg w hi' v e) (h1 : hi ≤ w.heap.size) (h2 : hi' ≤ w.heap.size) :
    Calls Try.prog 13 #[u, v] w (Tells w (.bool true)) := by
  obtain ⟨o, rfl, hs⟩ := h
  obtain ⟨o', rfl, hs'⟩ := h'
  obtain ⟨es, ex, ev, eb, l⟩ := e
  simp only at hs hs' ⊢
  have HN := Lib.hid (Lst.len hs)
  obtain ⟨a, c, rfl⟩ := Lst.shape hs
  obtain ⟨a', c', rfl⟩ := Lst.shape hs'
  have hb0 : Below w.heap.size w ((w.alloc (.cells #[.int .i64 es, .int .i64 ex, .int .i64 ev, .bool eb, .slice a l.length c] 30)).alloc (.cells #[.int .i64 es, .int .i64 ex, .int .i64 ev, .bool eb, .slice a' l.length c'] 30)) := ((Below.refl _ _).alloc (Nat.le_refl _) _).alloc (by simp) _
  have hx := (cel_new w (.int .i64 es) (.int .i64 ex) (.int .i64 ev) (.bool eb) (.slice a l.length c) 30).below (by simp) ((Below.refl _ _).alloc (Nat.le_refl _) (.cells #[.int .i64 es, .int .i64 ex, .int .i64 ev, .bool eb, .slice a' l.length c'] 30))
  have hy := cel_new (w.alloc (.cells #[.int .i64 es, .int .i64 ex, .int .i64 ev, .bool eb, .slice a l.length c] 30)) (.int .i64 es) (.int .i64 ex) (.int .i64 ev) (.bool eb) (.slice a' l.length c') 30
  rw [World.size_alloc] at hy
  have HS := Lib.hid (show SO _ hi _ l from Lst.below hs hb0 h1)
  have HS' := Lib.hid (show SO _ hi' _ l from Lst.below hs' hb0 h2)
  have hbb := fun wx => (show (binOp .neq 4 (.bool eb) (.bool eb)).run Try.prog wx = .ok (.bool false) wx by cases eb <;> kernel_rfl)
  obtain ⟨N, hN⟩ : ∃ N, w.heap.size = N := ⟨_, rfl⟩
  have HB0 := Lib.hid hb0
  rw [hN] at hx hy HB0 h1 h2
  have HX0 := Lib.hid hx
  have HY0 := Lib.hid hy
  have hsz : ((w.alloc (.cells #[.int .i64 es, .int .i64 ex, .int .i64 ev, .bool eb, .slice a l.length c] 30)).alloc (.cells #[.int .i64 es, .int .i64 ex, .int .i64 ev, .bool eb, .slice a' l.length c'] 30)).heap.size = N + 2 := by simp [hN]
  obtain ⟨W, hW⟩ : ∃ W, (w.alloc (.cells #[.int .i64 es, .int .i64 ex, .int .i64 ev, .bool eb, .slice a l.length c] 30)).alloc (.cells #[.int .i64 es, .int .i64 ex, .int .i64 ev, .bool eb, .slice a' l.length c'] 30) = W := ⟨_, rfl⟩
  rw [hW] at HB0 HX0 HY0 HS HS' hsz
  obtain ⟨c0, c1, c2, c3, c4⟩ := HX0.out.five
  obtain ⟨d0, d1, d2, d3, d4⟩ := HY0.out.five
  have HSZ := Lib.hid hsz
  have HD0 := Lib.hid (Below.refl W.heap.size W)
  have HH := Lib.hid (And.intro h1 h2)
  clear hs hs' hb0 hx hy hsz h1 h2
  go_enter Try.func13, Try.ntmps13
  go_wp2_with fail
  clear c0 c1 c2 c3 c4 d0 d1 d2 d3 d4
  go_loopg [5] l.length (fun g v5 wr => ∃ k : Nat, k + g = l.length ∧ v5 = .int .i64 k ∧ Hid (Below W.heap.size W wr))
  case atStart => exact ⟨0, by omega, rfl, by first | exact HD0 | (rw [hW]; exact HD0)⟩
  case round =>
    clear HD0
    obtain ⟨k, hk, rfl, HB⟩ := hrel
    have hlen := HN.out
    obtain ⟨x0, x1, x2, x3, x4⟩ := (HX0.out.below (by simp) HB.out).five
    obtain ⟨y0, y1, y2, y3, y4⟩ := (HY0.out.below (by simp) HB.out).five
    by_cases hlt : k < l.length
    · obtain ⟨b, off, c2, he, hb, hc⟩ := HS.out.at_ k hlt
      obtain ⟨b', off', c2', he', hb', hc'⟩ := HS'.out.at_ k hlt
      injection he with he hn3 hc3
      injection he' with he' hn3' hc3'
      clear hn3 hc3 hn3' hc3'
      subst he; subst he'
      obtain ⟨p0, p1⟩ := hc.keep fun o => HB.out.cell (p := ⟨b, o, none⟩) (by have := HSZ.out; have := HH.out.1; show b < W.heap.size; omega)
      obtain ⟨q0, q1⟩ := hc'.keep fun o => HB.out.cell (p := ⟨b', o, none⟩) (by have := HSZ.out; have := HH.out.2; show b' < W.heap.size; omega)
      have HE := fun wx => neqO l[k] wx
      obtain ⟨x, hx⟩ : ∃ x, l[k] = x := ⟨_, rfl⟩
      rw [hx] at p0 p1 q0 q1 HE
      have HB2 := Lib.hid (fun n => below_drewN HB.out n)
      clear hc hc' hx HB
      go_wp2_with fail
      go_quiet (fail)
      go_wp2_with fail
      go_roundg (l.length - (k + 1))
      case measure => omega
      case rel => exact ⟨k + 1, by omega, by go_num, HB2.out _⟩
    · have t1 : ¬ ((k : Int) < l.length) := by omega
      have HBB := Lib.hid (HB0.out.trans (HB.out.mono (by have := HSZ.out; rw [hN] at *; omega)))
      go_wp2_with fail
      go_ret
      exact ⟨rfl, by rw [hN]; exact HBB.out⟩

section
variable {w : World} {q : Nat} {a0 a1 a2 a3 a4 : Value}
/-- Five cells stored one after another. -/
def put5 (w : World) (q : Nat) (b0 b1 b2 b3 b4 : Value) : World :=
  ((((w.setCell ⟨q, 0, none⟩ b0).setCell ⟨q, 1, none⟩ b1).setCell ⟨q, 2, none⟩ b2).setCell ⟨q, 3, none⟩ b3).setCell ⟨q, 4, none⟩ b4
theorem cel_put5 (h : Cel w q [a0, a1, a2, a3, a4]) (b0 b1 b2 b3 b4 : Value) : Cel (put5 w q b0 b1 b2 b3 b4) q [b0, b1, b2, b3, b4] := by
  have := ((((h.set (o := 0) (by simp) b0).set (o := 1) (by simp) b1).set (o := 2) (by simp) b2).set (o := 3) (by simp) b3).set (o := 4) (by simp) b4
  simp only [List.set_cons_zero, List.set_cons_succ] at this
  exact this
theorem aside_put5 (w : World) (q : Nat) (b0 b1 b2 b3 b4 : Value) : Aside (fun k => k = q) w (put5 w q b0 b1 b2 b3 b4) := by
  have st : ∀ (x : World) (o : Nat) (v : Value), Aside (fun k => k = q) x (x.setCell ⟨q, o, none⟩ v) := fun x o v => Aside.setCell x (p := ⟨q, o, none⟩) v rfl
  exact ((((st _ _ _).trans (st _ _ _)).trans (st _ _ _)).trans (st _ _ _)).trans (st _ _ _)
end

theorem run_appOt {w : World} {B hi : Nat} {v u : Value} {l m : List Ot} (h : OwnO w B v l) (hx : SO w hi u m) (hnm : l.length + m.length ≤ 1000000) (hB : B ≤ w.heap.size) :
    ∃ a' c' w', (Builtin.append_ #[28, 28] 28 #[v, u]).run Try.prog w = .ok (.slice a' (l.length + m.length) c') w' ∧ OwnO w' B (.slice a' (l.length + m.length) c') (l ++ m) ∧ Aside (fun b => v.ownBlock = some b) w w' ∧
      ((Value.slice a' (l.length + m.length) c').ownBlock = v.ownBlock ∨ (Value.slice a' (l.length + m.length) c').ownBlock = some w.heap.size) := by
  obtain ⟨i0, hi, hz0, hz1, hz2⟩ := info_parts info_ot
  obtain ⟨a', c', w', r1, r2, r3, r4⟩ := row_more 24 Try.underlying28 hi hz0 hz1 hz2 (by rfl) (by decide) (by decide) h hx (by rw [aco_len]) (aco_one m) hnm hB
  exact ⟨a', c', w', r1, by unfold OwnO; rw [aco_app, List.length_append]; exact r2, r3, r4⟩

end Go.Proofs.Ytcjgbholgbjejaa

/-
  May something be said: bounded, Check.
-/
namespace Go.Proofs.Ytcjgbholgbjejaa
open Go.RowKit Go.Shelf
set_option linter.unusedVariables false
set_option linter.unusedSimpArgs false
set_option maxRecDepth 100000

theorem wr64 (n : Int) (h0 : -4000000000000000000 ≤ n) (h1 : n ≤ 4000000000000000000) : IntKind.i64.wrap n = n := by
  rw [IntKind.wrap_i64]
  omega

theorem bounded_any (n m : Int) (w : World) : Calls Try.prog 45 #[.int .i64 n, .int .i64 m] w (Tell0 w (.bool (bnd n m))) := by
  by_cases h : 0 ≤ n
  · have t1 : decide (0 ≤ n) = true := by simp [h]
    have e : bnd n m = decide (n ≤ m) := by unfold bnd; simp [h]
    rw [e]
    obtain ⟨r, hr⟩ : ∃ r, decide (n ≤ m) = r := ⟨_, rfl⟩
    rw [hr]
    go_enter Try.func45, Try.ntmps45
    go_wp2
    go_ret
    exact ⟨rfl, rfl⟩
  · have t1 : decide (0 ≤ n) = false := by simp [h]
    have e : bnd n m = false := by unfold bnd; simp [h]
    rw [e]
    go_enter Try.func45, Try.ntmps45
    go_wp2
    go_ret
    exact ⟨rfl, rfl⟩

theorem szO_le (M : Nat) : ∀ l : List Ot, (∀ x ∈ l, x.d.length ≤ M) → szO l ≤ l.length * (4 + M)
  | [], _ => by simp [szO]
  | x :: r, h => by
    have ih := szO_le M r fun y hy => h y (by simp [hy])
    have hx := h x (by simp)
    have e : szO (x :: r) = 4 + x.d.length + szO r := by simp [szO]
    rw [e, List.length_cons, Nat.add_mul]
    omega
theorem szO_app (a b : List Ot) : szO (a ++ b) = szO a + szO b := by simp [szO]

set_option maxHeartbeats 4000000 in
theorem checkE_any {w : World} {hi : Nat} {u : Value} {e : Ed} (h : Eg w hi u e) (h1 : hi ≤ w.heap.size) (hl : e.o.length ≤ 900000) (hd : ∀ x ∈ e.o, x.d.length ≤ 1000000) :
    Calls Try.prog 26 #[u] w (Tells w (.int .i64 (chkE e))) := by
  obtain ⟨o, rfl, hs⟩ := h
  obtain ⟨es, ex, ev, eb, l⟩ := e
  obtain ⟨r, hr⟩ : ∃ r, chkE ⟨es, ex, ev, eb, l⟩ = r := ⟨_, rfl⟩
  rw [hr]
  unfold chkE at hr
  simp only at hs hr hl hd ⊢
  have H0 := Lib.hid (fun wx => bounded_any es 65535 wx)
  have H1 := Lib.hid (fun wx => bounded_any ex 127 wx)
  have H2 := Lib.hid (fun wx => bounded_any ev 255 wx)
  obtain ⟨b0, hb0⟩ : ∃ b, bnd es 65535 = b := ⟨_, rfl⟩
  obtain ⟨b1, hb1⟩ : ∃ b, bnd ex 127 = b := ⟨_, rfl⟩
  obtain ⟨b2, hb2⟩ : ∃ b, bnd ev 255 = b := ⟨_, rfl⟩
  rw [hb0] at H0 hr
  rw [hb1] at H1 hr
  rw [hb2] at H2 hr
  have HN := Lib.hid (Lst.len hs)
  have HD := Lib.hid hd
  have HL := Lib.hid hl
  obtain ⟨a, c, rfl⟩ := Lst.shape hs
  have hbl : Below w.heap.size w (w.alloc (.cells #[.int .i64 es, .int .i64 ex, .int .i64 ev, .bool eb, .slice a l.length c] 30)) := (Below.refl _ _).alloc (Nat.le_refl _) _
  have hx := cel_new w (.int .i64 es) (.int .i64 ex) (.int .i64 ev) (.bool eb) (.slice a l.length c) 30
  have HS := Lib.hid (show SO w hi _ l from hs)
  have HB := Lib.hid hbl
  obtain ⟨N, hN⟩ : ∃ N, w.heap.size = N := ⟨_, rfl⟩
  obtain ⟨W, hW⟩ : ∃ W, w.alloc (.cells #[.int .i64 es, .int .i64 ex, .int .i64 ev, .bool eb, .slice a l.length c] 30) = W := ⟨_, rfl⟩
  rw [hW] at HB hx
  rw [hN] at hx HB
  have HSW := Lib.hid (show N + 1 ≤ W.heap.size by rw [← hW, World.size_alloc, hN]; exact Nat.le_refl _)
  have HHI := Lib.hid (show hi ≤ N by omega)
  obtain ⟨c0, c1, c2, c3, c4⟩ := hx.five
  clear hs hbl hx hb0 hb1 hb2 h1 hl hd
  by_cases hall : b0 = true ∧ b1 = true ∧ b2 = true
  · obtain ⟨rfl, rfl, rfl⟩ := hall
    simp only [true_and] at hr
    have HR := Lib.hid hr
    clear hr
    go_enter Try.func26, Try.ntmps26
    go_wp2_with fail
    refine (H0.out _).mono ?_; rintro e w2 ⟨rfl, rfl⟩
    go_wp2_with fail
    refine (H1.out _).mono ?_; rintro e w2 ⟨rfl, rfl⟩
    go_wp2_with fail
    refine (H2.out _).mono ?_; rintro e w2 ⟨rfl, rfl⟩
    go_wp2_with fail
    clear c0 c1 c2 c3 c4
    go_loopg [3, 25] l.length (fun g v3 v25 wr => ∃ k : Nat, k + g = l.length ∧ v25 = .int .i64 k ∧ v3 = .int .i64 (szO (l.take k)) ∧ Hid ((l.take k).all (fun x => bnd x.c 65535) = true) ∧ Hid (Below N w wr) ∧ N + 1 ≤ wr.heap.size)
    case atStart => exact ⟨0, by omega, rfl, rfl, by simp [Hid], by first | exact HB | (rw [hW]; exact HB), by first | exact HSW.out | (rw [hW]; exact HSW.out)⟩
    case round =>
      clear hW
      obtain ⟨k, hk, rfl, rfl, HA, HBR, hsz⟩ := hrel
      have hlen := HN.out
      by_cases hlt : k < l.length
      · obtain ⟨b, off, c2', he, hb, hc⟩ := HS.out.at_ k hlt
        injection he with he hn3 hc3
        clear hn3 hc3
        subst he
        obtain ⟨p0, p1⟩ := hc.keep fun o => HBR.out.cell (p := ⟨b, o, none⟩) (Nat.lt_of_lt_of_le hb HHI.out)
        have HTK := Lib.hid (show l.take (k + 1) = l.take k ++ [l[k]] by rw [List.take_add_one, List.getElem?_eq_getElem hlt]; rfl)
        have HM := Lib.hid (List.getElem_mem hlt)
        have HDX := Lib.hid (HD.out l[k] (List.getElem_mem hlt))
        obtain ⟨x, hx⟩ : ∃ x, l[k] = x := ⟨_, rfl⟩
        rw [hx] at p0 p1 HTK HM HDX
        have HC := Lib.hid (fun wx => bounded_any x.c 65535 wx)
        obtain ⟨bb, hbb⟩ : ∃ b, bnd x.c 65535 = b := ⟨_, rfl⟩
        rw [hbb] at HC
        have HBB := Lib.hid hbb
        have hs1 := szO_le 1000000 (l.take k) (fun y hy => HD.out y (List.mem_of_mem_take hy))
        have hs2 : (l.take k).length = k := by rw [List.length_take]; omega
        have hs4 : szO (l.take (k + 1)) = szO (l.take k) + (4 + x.d.length) := by rw [HTK.out, szO_app]; simp [szO]
        obtain ⟨s, hsk⟩ : ∃ s, szO (l.take k) = s := ⟨_, rfl⟩
        rw [hs2, hsk] at hs1
        rw [hsk] at hs4 ⊢
        have HS4 := Lib.hid hs4
        have hd9 : x.d.length ≤ 1000000 := HDX.out
        have hl9 := HL.out
        have hw1 : IntKind.i64.wrap ((4 : Int) + x.d.length) = (4 : Int) + x.d.length := wr64 _ (by omega) (by omega)
        have hw2 : IntKind.i64.wrap ((s : Int) + ((4 : Int) + x.d.length)) = (s : Int) + ((4 : Int) + x.d.length) := wr64 _ (by omega) (by omega)
        have hds : (bs x.d).size = x.d.length := bs_size x.d
        have HB2 := Lib.hid (HBR.out.alloc (by omega) (.cells #[.int .i64 x.c, .string (bs x.d)] 61) : Below N w _)
        have HSZ := Lib.hid (show N + 1 ≤ (wr.alloc (.cells #[.int .i64 x.c, .string (bs x.d)] 61)).heap.size by simp; omega)
        clear hc hx hb hbb hs1 hs2 hs4 hsk hsz HBR
        cases bb with
        | false =>
          have HE := Lib.hid (show r = 5 by
            rw [← HR.out, if_neg]
            intro h
            have := List.all_eq_true.mp h x HM.out
            rw [HBB.out] at this
            cases this)
          clear HA
          go_wp2_with fail
          refine (HC.out _).mono ?_; rintro e w2 ⟨rfl, rfl⟩
          go_wp2_with fail
          go_ret
          exact ⟨by rw [HE.out]; rfl, by first | exact HB2.out | (rw [hN]; exact HB2.out)⟩
        | true =>
          have HA2 := Lib.hid (show (l.take (k + 1)).all (fun x => bnd x.c 65535) = true by rw [HTK.out, List.all_append, HA.out]; simp [HBB.out])
          clear HA
          go_wp2_with fail
          refine (HC.out _).mono ?_; rintro e w2 ⟨rfl, rfl⟩
          go_wp2_with fail
          go_roundg (l.length - (k + 1))
          case measure => omega
          case rel => exact ⟨k + 1, by omega, by go_num, by rw [HS4.out]; go_num, HA2, HB2, HSZ.out⟩
      · have t1 : ¬ ((k : Int) < l.length) := by omega
        have hkl : l.take k = l := List.take_of_length_le (by omega)
        rw [hkl] at HA ⊢
        obtain ⟨s, hsk⟩ : ∃ s, szO l = s := ⟨_, rfl⟩
        have hr2 := HR.out
        rw [if_pos HA.out, hsk] at hr2
        rw [hsk]
        clear hkl HA hsk
        by_cases hbig : 65535 < s
        · rw [if_pos hbig] at hr2
          subst hr2
          have t2 : decide ((65535 : Int) < s) = true := by simp; omega
          go_wp2_with fail
          go_ret
          exact ⟨rfl, by first | exact HBR.out | (rw [hN]; exact HBR.out)⟩
        · rw [if_neg hbig] at hr2
          subst hr2
          have t2 : decide ((65535 : Int) < s) = false := by simp; omega
          go_wp2_with fail
          go_ret
          exact ⟨rfl, by first | exact HBR.out | (rw [hN]; exact HBR.out)⟩
  · have HE : r = 5 := by rw [← hr, if_neg (fun h => hall ⟨h.1, h.2.1, h.2.2.1⟩)]
    subst HE
    have HBO := HB
    clear hr HN HD HL HS HHI
    cases b0 with
    | false =>
      go_enter Try.func26, Try.ntmps26
      go_wp2_with fail
      refine (H0.out _).mono ?_; rintro e w2 ⟨rfl, rfl⟩
      go_wp2_with fail
      go_ret
      exact ⟨rfl, by first | exact HBO.out | (rw [hN]; exact HBO.out)⟩
    | true =>
      cases b1 with
      | false =>
        go_enter Try.func26, Try.ntmps26
        go_wp2_with fail
        refine (H0.out _).mono ?_; rintro e w2 ⟨rfl, rfl⟩
        go_wp2_with fail
        refine (H1.out _).mono ?_; rintro e w2 ⟨rfl, rfl⟩
        go_wp2_with fail
        go_ret
        exact ⟨rfl, by first | exact HBO.out | (rw [hN]; exact HBO.out)⟩
      | true =>
        cases b2 with
        | true => exact absurd ⟨rfl, rfl, rfl⟩ hall
        | false =>
          go_enter Try.func26, Try.ntmps26
          go_wp2_with fail
          refine (H0.out _).mono ?_; rintro e w2 ⟨rfl, rfl⟩
          go_wp2_with fail
          refine (H1.out _).mono ?_; rintro e w2 ⟨rfl, rfl⟩
          go_wp2_with fail
          refine (H2.out _).mono ?_; rintro e w2 ⟨rfl, rfl⟩
          go_wp2_with fail
          go_ret
          exact ⟨rfl, by first | exact HBO.out | (rw [hN]; exact HBO.out)⟩
end Go.Proofs.Ytcjgbholgbjejaa

/-
  The records of a list that are of the type, and those that are not: opts, others.
-/
namespace Go.Proofs.Ytcjgbholgbjejaa
open Go.RowKit Go.Shelf
set_option linter.unusedVariables false
set_option linter.unusedSimpArgs false
set_option maxRecDepth 100000

theorem isO_any (x : Rc) (w : World) : Calls Try.prog 47 #[.agg #[.string (bs x.n), .int .i64 x.t, .int .i64 x.c, .int .i64 x.l, .string (bs x.d)]] w (Tells w (.bool (isO x))) := by
  obtain ⟨n, t, c, l, d⟩ := x
  by_cases h : t = 41
  · have e : isO ⟨n, t, c, l, d⟩ = true := by unfold isO; simp [h]
    subst h
    rw [e]
    go_enter Try.func47, Try.ntmps47
    go_wp2
    go_ret
    exact ⟨rfl, (Below.refl _ _).alloc (Nat.le_refl _) _⟩
  · have e : isO ⟨n, t, c, l, d⟩ = false := by unfold isO; simp [h]
    rw [e]
    have t1 : (t == 41) = false := by simpa using h
    go_enter Try.func47, Try.ntmps47
    go_wp2
    go_ret
    exact ⟨by simp [h], (Below.refl _ _).alloc (Nat.le_refl _) _⟩
/-- A row of the call's own, or a place in front of somebody else's to which no room belongs. -/
def Kp (w : World) (B : Nat) (v : Value) (l : List Rc) : Prop := OwnRc w B v l ∨ (l = [] ∧ ∃ a, v = .slice (some a) 0 0)
section
variable {w w' : World} {B : Nat} {v : Value} {l : List Rc}
theorem Kp.below (h : Kp w B v l) (hb : Below w.heap.size w w') : Kp w' B v l := h.imp (fun h => row_below h hb) id
theorem Kp.aside {G : Nat → Prop} (h : Kp w B v l) (ha : Aside G w w') (hG : ∀ k, B ≤ k → ¬ G k) : Kp w' B v l := h.imp (fun h => row_aside h ha fun k hk => hG k (World.ownsRow.lt h k hk).1) id
theorem Kp.base {B' : Nat} (h : Kp w B v l) (hB : B' ≤ B) : Kp w B' v l := h.imp (fun h => row_base h hB) id
theorem Kp.shape (h : Kp w B v l) : ∃ a c, v = .slice a l.length c := by
  rcases h with h | ⟨rfl, a, rfl⟩
  · exact row_shape h
  · exact ⟨_, _, rfl⟩
theorem Kp.sr (h : Kp w B v l) (hl : l.length ≤ 1000000) : SR w w.heap.size v l := by
  rcases h with h | ⟨rfl, a, rfl⟩
  · exact Lst.own h hl
  · exact ⟨some a, 0, rfl, by simp, fun h => (by cases h), fun h => absurd h (by simp)⟩
theorem kp_start (w : World) (B : Nat) (a : Option Addr) : Kp w B (.slice a 0 0) [] := by
  cases a with
  | none => exact .inl (World.ownsRow_nil _ _ _ _)
  | some a => exact .inr ⟨rfl, a, rfl⟩
/-- A record more. -/
theorem Kp.app (h : Kp w B v l) {hi : Nat} {u : Value} {x : Rc} (hx : SR w hi u [x]) (hl : l.length + 1 ≤ 1000000) (hB : B ≤ w.heap.size) :
    ∃ a c w', (Builtin.append_ #[23, 23] 23 #[v, u]).run Try.prog w = .ok (.slice a (l.length + 1) c) w' ∧ Kp w' B (.slice a (l.length + 1) c) (l ++ [x]) ∧ Aside (fun b => B ≤ b) w w' := by
  rcases h with h | ⟨rfl, a, rfl⟩
  · obtain ⟨a, c, w', h1, h2, h3, _⟩ := run_appRc h hx hl hB
    exact ⟨a, c, w', h1, .inl h2, h3.mono fun k _ hk => (World.ownsRow.lt h k hk).1⟩
  · obtain ⟨ua, uc, rfl, _, _, h2⟩ := hx
    obtain ⟨b, off, rfl, _, h4⟩ := h2 (by simp)
    obtain ⟨i0, hi0, hz0, hz1, hz2⟩ := info_parts info_rc
    have hr := run_append_grow (P := Try.prog) w 23 23 48 i0 _ Try.underlying23 hi0 hz0 a 0 0 [] (by simp) (by simp) ⟨b, off, none⟩ 1 uc (acr [x]) (by rw [acr_len, hz1]; rfl) (fun j v hv => by rw [WideShapes.add_plain]; exact h4 j v hv) (by omega) (by decide) (by rw [hz2]; decide)
    have hg := grownCap_ge w (0 + 1) 0 48
    have hcm := grownCap_le_maxLen w (0 + 1) 0 48 (by decide)
    obtain ⟨G, hG⟩ : ∃ G, grownCap w (0 + 1) 0 48 = G := ⟨_, rfl⟩
    rw [hG] at hr hg hcm
    refine ⟨_, _, _, hr, .inl ⟨by rw [acr_len], .inr ⟨w.heap.size, _, _, rfl, hB, World.alloc_heap_new w.drew _, hg, hcm, ?_, ?_⟩⟩, ?_⟩
    · have e1 : (acr [x]).length = 5 := rfl
      simp only [Array.size_append, List.size_toArray, size_zeroCells, e1, List.length_nil, List.nil_append, List.length_singleton]
      show 0 + 5 + (G - (0 + 1)) * 5 = G * 5
      omega
    · simp [acr, cr]
    · exact ⟨rfl, rfl, rfl, by simp, fun k hk hg => Below.heap_alloc w.drew _ k hk⟩
end

set_option maxHeartbeats 1000000 in
theorem those_opts {w : World} {hi : Nat} {u : Value} {l : List Rc} (h : SR w hi u l) (h1 : hi ≤ w.heap.size) (hl : l.length ≤ 900000) :
    Calls Try.prog 46 #[u, .func (.func 47) #[] #[]] w (fun e w' => ∃ v, e = .returned v ∧ Kp w' w.heap.size v (l.filter isO) ∧ Below w.heap.size w w') := by
  have HX := Lib.hid h
  have HN := Lib.hid (Lst.len h)
  have HL := Lib.hid hl
  obtain ⟨a, c, rfl⟩ := Lst.shape h
  obtain ⟨N, hN⟩ : ∃ N, w.heap.size = N := ⟨_, rfl⟩
  have HK0 := Lib.hid (kp_start w N a)
  have HB0 := Lib.hid (show Below N w w from Below.refl _ _)
  have HHI := Lib.hid (show hi ≤ N by omega)
  clear h h1 hl
  go_enter Try.func46, Try.ntmps46
  go_wp2_with fail
  go_loopg [5, 12] l.length (fun g v5 v12 wr => ∃ k : Nat, k + g = l.length ∧ v12 = .int .i64 k ∧ Hid (Kp wr N v5 ((l.take k).filter isO)) ∧ Hid (Below N w wr) ∧ N ≤ wr.heap.size)
  case atStart => exact ⟨0, by omega, rfl, by simpa using HK0, HB0, by omega⟩
  case round =>
    clear HK0 HB0
    obtain ⟨k, hk, rfl, HK, HB, hsz⟩ := hrel
    have hlen := HN.out
    by_cases hlt : k < l.length
    · obtain ⟨b, off, c2, he, hb, hc⟩ := HX.out.at_ k hlt
      injection he with he hn3 hc3
      clear hn3 hc3
      subst he
      obtain ⟨c0, c1, c2, c3, c4⟩ := hc.keep fun o => HB.out.cell (p := ⟨b, o, none⟩) (Nat.lt_of_lt_of_le hb HHI.out)
      have HTK := Lib.hid (show l.take (k + 1) = l.take k ++ [l[k]] by rw [List.take_add_one, List.getElem?_eq_getElem hlt]; rfl)
      obtain ⟨x, hx⟩ : ∃ x, l[k] = x := ⟨_, rfl⟩
      rw [hx] at c0 c1 c2 c3 c4 HTK
      have HC := Lib.hid (fun wx => isO_any x wx)
      obtain ⟨L, hL⟩ : ∃ L, (l.take k).filter isO = L := ⟨_, rfl⟩
      rw [hL] at HK
      have HLL := Lib.hid (show L.length ≤ 900000 by rw [← hL]; exact Nat.le_trans (List.length_filter_le _ _) (Nat.le_trans (by rw [List.length_take]; omega) HL.out))
      have HTF := Lib.hid (show (l.take (k + 1)).filter isO = L ++ [x].filter isO by rw [HTK.out, List.filter_append, hL])
      obtain ⟨g, hg⟩ : ∃ g, wr.heap.size = g := ⟨_, rfl⟩
      have HQC := Lib.hid (show Cel (wr.alloc (.cells #[.string (bs x.n), .int .i64 x.t, .int .i64 x.c, .int .i64 x.l, .string (bs x.d)] 48)) g [.string (bs x.n), .int .i64 x.t, .int .i64 x.c, .int .i64 x.l, .string (bs x.d)] by
        have := cel_new wr (.string (bs x.n)) (.int .i64 x.t) (.int .i64 x.c) (.int .i64 x.l) (.string (bs x.d)) 48
        rwa [hg] at this)
      have hb1 : Below wr.heap.size wr (wr.alloc (.cells #[.string (bs x.n), .int .i64 x.t, .int .i64 x.c, .int .i64 x.l, .string (bs x.d)] 48)) := (Below.refl _ _).alloc (Nat.le_refl _) _
      have HGN := Lib.hid (show N ≤ g by omega)
      replace HK := Lib.hid (HK.out.below hb1)
      replace HB := Lib.hid (HB.out.alloc hsz (.cells #[.string (bs x.n), .int .i64 x.t, .int .i64 x.c, .int .i64 x.l, .string (bs x.d)] 48))
      clear hc hx hb hb1 hL hsz
      go_wp2_with fail
      refine (HC.out _).mono ?_; rintro e w3 ⟨rfl, hb⟩
      have HQ3 := Lib.hid (HQC.out.below (by simp) hb)
      replace HK := Lib.hid (HK.out.below hb)
      replace HB := Lib.hid (HB.out.trans (hb.mono (by have := HGN.out; simp; omega)))
      have HS3 := Lib.hid (show g < w3.heap.size from HQ3.out.lt (by simp))
      clear hb
      by_cases hp : isO x = true
      · rw [hp]
        have hone := sr_one w3 x
        have hb4 : Below w3.heap.size w3 (w3.alloc (.cells #[.string (bs x.n), .int .i64 x.t, .int .i64 x.c, .int .i64 x.l, .string (bs x.d)] 48)) := (Below.refl _ _).alloc (Nat.le_refl _) _
        have hsz4 : N ≤ (w3.alloc (.cells #[.string (bs x.n), .int .i64 x.t, .int .i64 x.c, .int .i64 x.l, .string (bs x.d)] 48)).heap.size := by have := HS3.out; have := HGN.out; simp; omega
        obtain ⟨a6, c6, w6, hr, hk6, ha6⟩ := (HK.out.below hb4).app hone (by have := HLL.out; omega) hsz4
        have hf : (l.take (k + 1)).filter isO = L ++ [x] := by rw [HTF.out, List.filter_cons_of_pos (by simpa using hp), List.filter_nil]
        have HK6 := Lib.hid (show Kp w6 N (.slice a6 (L.length + 1) c6) ((l.take (k + 1)).filter isO) by rw [hf]; exact hk6)
        have HB6 := Lib.hid (below_aside (HB.out.alloc (by have := HS3.out; have := HGN.out; omega) _) ha6 (fun k hk => ⟨by omega, by omega⟩))
        have HSZ := Lib.hid (Nat.le_trans hsz4 ha6.size)
        obtain ⟨av, cv, rfl⟩ := HK.out.shape
        have HR := Lib.hid hr
        obtain ⟨q0, q1, q2, q3, q4⟩ := HQ3.out.five
        clear hone hb4 hsz4 hr hk6 ha6 hf HK HB HQC HQ3
        go_wp2_with (at_builtin; refine wpList_append_run (.tmp 19) (.tmp 21) 23 23 rfl rfl rfl rfl HR.out ?_)
        go_roundg (l.length - (k + 1))
        case measure => omega
        case rel => exact ⟨k + 1, by omega, by go_num, HK6, HB6, HSZ.out⟩
      · have hp2 : (isO x) = false := by simpa using hp
        rw [hp2]
        have hfe : (l.take (k + 1)).filter isO = L := by rw [HTF.out, List.filter_cons_of_neg (by simpa using hp), List.filter_nil, List.append_nil]
        have HK6 := HK
        rw [← hfe] at HK6
        clear hfe
        have HSZ := Lib.hid (show N ≤ w3.heap.size by have := HS3.out; have := HGN.out; omega)
        clear HK HQC HQ3
        go_wp2_with fail
        go_roundg (l.length - (k + 1))
        case measure => omega
        case rel => exact ⟨k + 1, by omega, by go_num, HK6, HB, HSZ.out⟩
    · have t1 : ¬ ((k : Int) < l.length) := by omega
      have hkl : l.take k = l := List.take_of_length_le (by omega)
      rw [hkl] at HK
      clear hkl
      go_wp2_with fail
      go_ret
      exact ⟨_, rfl, by first | exact HK.out | (rw [hN]; exact HK.out), by first | exact HB.out | (rw [hN]; exact HB.out)⟩

theorem opts_any {w : World} {hi : Nat} {u : Value} {l : List Rc} (h : SR w hi u l) (h1 : hi ≤ w.heap.size) (hl : l.length ≤ 900000) :
    Calls Try.prog 31 #[u] w (fun e w' => ∃ v, e = .returned v ∧ Kp w' w.heap.size v (opL l) ∧ Below w.heap.size w w') := by
  have H := Lib.hid (those_opts h h1 hl)
  obtain ⟨a, c, rfl⟩ := Lst.shape h
  clear h
  go_enter Try.func31, Try.ntmps31
  go_wp2_with fail
  refine H.out.mono ?_; rintro e w1 ⟨v, rfl, hs, hb⟩
  have HS := Lib.hid hs
  have HB := Lib.hid hb
  clear hs hb
  go_wp2_with fail
  go_ret
  exact ⟨_, rfl, HS.out, HB.out⟩
end Go.Proofs.Ytcjgbholgbjejaa

/-
  The room behind copied records is as it was.
-/
namespace Go.Proofs.Ytcjgbholgbjejaa
open Go.RowKit Go.Shelf
set_option linter.unusedVariables false
set_option linter.unusedSimpArgs false
set_option maxRecDepth 100000

/-- A message's copy, with marks behind its lists. -/
def CpM (w : World) (B : Nat) (v : Value) (m : Ms) : Prop := ∃ q a n r, v = .agg #[.int .i64 m.id, .int .i64 m.fl, q, a, n, r] ∧ CpQ w B q m.q ∧ CpR w B a m.an ∧ CpR w B n m.ns ∧ CpR w B r m.ar
theorem CpM.below {w w' : World} {B : Nat} {v : Value} {m : Ms} (h : CpM w B v m) (hb : Below w.heap.size w w') : CpM w' B v m := by
  obtain ⟨q, a, n, r, rfl, h1, h2, h3, h4⟩ := h
  exact ⟨q, a, n, r, rfl, h1.below hb, h2.below hb, h3.below hb, h4.below hb⟩
theorem CpM.mg {w : World} {B : Nat} {v : Value} {m : Ms} (h : CpM w B v m) (hl : m.q.length + m.an.length + m.ns.length + m.ar.length ≤ 900000) : Mg w w.heap.size v m := by
  obtain ⟨q, a, n, r, rfl, h1, h2, h3, h4⟩ := h
  exact ⟨q, a, n, r, rfl, h1.sq (by omega), h2.sr (by omega), h3.sr (by omega), h4.sr (by omega)⟩

end Go.Proofs.Ytcjgbholgbjejaa

/-
  A region whose loads are fixed by what holds till its last operation, a store, comes up.
-/
namespace Go.Proofs.Ytcjgbholgbjejaa
open Go.RowKit Go.Shelf
set_option linter.unusedVariables false
set_option linter.unusedSimpArgs false

section
variable {P : Program} {md : Region.Mode} {ops : Array Oper} {Q : Exit → Act → World → Prop} {S : World → Prop} {k : Nat}

/-- In whatever order; S holds behind each operation but number k. -/
def Till (P : Program) (md : Region.Mode) (ops : Array Oper) (Q : Exit → Act → World → Prop) (S : World → Prop) (k : Nat) (n : Nat) (l : Array Bool) (a : Act) (w : World) : Prop :=
  match n with
  | 0 => Region.ready md ops l = [] ∧ Q .normal a w
  | n + 1 => (Region.ready md ops l = [] → Q .normal a w) ∧ ∀ i, i ∈ Region.ready md ops l → wpOp P ops Q i (fun a' w' => (i ≠ k → S w') ∧ Till P md ops Q S k n (l.setIfInBounds i true) a' w') a w

theorem Till.any (n : Nat) : ∀ (l : Array Bool) (a : Act) (w : World), Till P md ops Q S k n l a w → wpAny P md ops Q n l a w := by
  induction n with
  | zero => exact fun _ _ _ h => h
  | succ n ih => exact fun l a w h => ⟨h.1, fun i hi => wpOp_mono (fun a' w' hh => ih _ a' w' hh.2) (h.2 i hi)⟩

/-- While i has not come up, nothing that waits for it may. -/
theorem not_ready {i j : Nat} {l : Array Bool} (hi : i ∈ Region.ready md ops l) {o : Oper} (ho : ops[j]? = some o) (hj : j ∈ Region.ready md ops l) {e : Edge} (he : e ∈ o.after) (hb : Region.binds md e = true) : e.on ≠ i := by
  rintro rfl
  obtain ⟨_, o', ho', hall⟩ := mem_ready.1 hj
  obtain rfl : o = o' := by rw [ho] at ho'; exact Option.some.inj ho'
  have h1 := hall e he hb
  have h0 := (mem_ready.1 hi).1
  by_cases hs : e.on < l.size
  · simp only [Array.getD, hs, dite_true] at h0 h1
    rw [h0] at h1
    cases h1
  · simp only [Array.getD, hs, dite_false] at h1
    cases h1

/-- Number k waits for number i. -/
def waitsB (md : Region.Mode) (ops : Array Oper) (k i : Nat) : Bool := match ops[k]? with
  | some o => o.after.any fun e => Region.binds md e && e.on == i
  | none => false

def TillAll (P : Program) (md : Region.Mode) (ops : Array Oper) (Q : Exit → Act → World → Prop) (S : World → Prop) (k : Nat) (n : Nat) (l : Array Bool) (a : Act) (w : World) (rs : List Nat) : Prop :=
  ∀ i, i ∈ rs → wpOp P ops Q i (fun a' w' => (i ≠ k → S w') ∧ Till P md ops Q S k n (l.setIfInBounds i true) a' w') a w
theorem TillAll.nil {n : Nat} {l : Array Bool} {a : Act} {w : World} : TillAll P md ops Q S k n l a w [] := fun _ h => by cases h
theorem TillAll.cons {n : Nat} {l : Array Bool} {a : Act} {w : World} {i : Nat} {o : Oper} {rs : List Nat} (ho : ops[i]? = some o)
    (h : ∀ K' : Act → World → Prop, Shut (∀ a w, S w → (S w → Till P md ops Q S k n (l.setIfInBounds i true) a w) → K' a w) → if Region.wanted o (yielded ops a.tmps) = true then Oper.wp P o a w K' Q else K' (a.put o.dst undef) w)
    (hs : TillAll P md ops Q S k n l a w rs) (hik : i ≠ k := by decide) : TillAll P md ops Q S k n l a w (i :: rs) := fun j hj => by
  rcases List.mem_cons.1 hj with rfl | hj
  · exact wpOp_step ho fun K' hK => h K' fun a w hS hW => hK a w ⟨fun _ => hS, hW hS⟩
  · exact hs j hj
/-- The last one. -/
theorem TillAll.last {n : Nat} {l : Array Bool} {a : Act} {w : World} {o : Oper} {rs : List Nat} (ho : ops[k]? = some o)
    (h : ∀ K' : Act → World → Prop, Shut (∀ a w, True → (True → Till P md ops Q S k n (l.setIfInBounds k true) a w) → K' a w) → if Region.wanted o (yielded ops a.tmps) = true then Oper.wp P o a w K' Q else K' (a.put o.dst undef) w)
    (hs : TillAll P md ops Q S k n l a w rs) : TillAll P md ops Q S k n l a w (k :: rs) := fun j hj => by
  rcases List.mem_cons.1 hj with rfl | hj
  · exact wpOp_step ho fun K' hK => h K' fun a w _ hW => hK a w ⟨fun hk => absurd rfl hk, hW trivial⟩
  · exact hs j hj
end
end Go.Proofs.Ytcjgbholgbjejaa

/-
  A region whose loads are fixed by what holds till the first of some last operations, stores, comes up.
-/
namespace Go.Proofs.Ytcjgbholgbjejaa
open Go.RowKit Go.Shelf
set_option linter.unusedVariables false
set_option linter.unusedSimpArgs false

section
variable {P : Program} {md : Region.Mode} {ops : Array Oper} {Q : Exit → Act → World → Prop} {S : World → Prop} {ks : List Nat}

/-- In whatever order; S holds behind each operation but those of ks. -/
def Tilk (P : Program) (md : Region.Mode) (ops : Array Oper) (Q : Exit → Act → World → Prop) (S : World → Prop) (ks : List Nat) (n : Nat) (l : Array Bool) (a : Act) (w : World) : Prop :=
  match n with
  | 0 => Region.ready md ops l = [] ∧ Q .normal a w
  | n + 1 => (Region.ready md ops l = [] → Q .normal a w) ∧ ∀ i, i ∈ Region.ready md ops l → wpOp P ops Q i (fun a' w' => (i ∉ ks → S w') ∧ Tilk P md ops Q S ks n (l.setIfInBounds i true) a' w') a w

theorem Tilk.any (n : Nat) : ∀ (l : Array Bool) (a : Act) (w : World), Tilk P md ops Q S ks n l a w → wpAny P md ops Q n l a w := by
  induction n with
  | zero => exact fun _ _ _ h => h
  | succ n ih => exact fun l a w h => ⟨h.1, fun i hi => wpOp_mono (fun a' w' hh => ih _ a' w' hh.2) (h.2 i hi)⟩

/-- What yields the same wherever S holds may be taken first, if all of ks wait for it. -/
theorem tilk_first {i : Nat} {oi : Oper} {v : Value} (hi : ops[i]? = some oi) (hw : ∀ k ∈ ks, waitsB md ops k i = true) (hns : Region.noSelect ops = true)
    (hQ : ∀ c a w, Q (.panic c) (a.put oi.dst v) w → Q (.panic c) a w) (n : Nat) : ∀ (l : Array Bool) (a : Act) (w : World),
      (∀ j oj, ops[j]? = some oj → j ≠ i → l.getD j true = false → (∀ e ∈ oj.after, Region.binds md e = true → e.on ≠ i) → oi.apart ops oj = true) →
      i ∈ Region.ready md ops l → YieldsIf P ops S oi v a → S w → Tilk P md ops Q S ks n (l.setIfInBounds i true) (a.put oi.dst v) w → Tilk P md ops Q S ks (n + 1) l a w := by
  have hsel := Region.noSelect_spec hns
  induction n with
  | zero =>
    intro l a w _ hr hy hS H
    refine ⟨fun h => absurd (h ▸ hr) (by simp), fun j hj => ?_⟩
    rcases Nat.decEq j i with hji | rfl
    · have hm := ready_mono hj hji
      rw [H.1] at hm
      exact absurd hm (by simp)
    · exact hy.wpOp hi hS ⟨fun _ => hS, H⟩
  | succ n ih =>
    intro l a w hf hr hy hS H
    refine ⟨fun h => absurd (h ▸ hr) (by simp), fun j hj => ?_⟩
    rcases Nat.decEq j i with hji | rfl
    · obtain ⟨hun, oj, hoj, _⟩ := mem_ready.1 hj
      have hjk : j ∉ ks := by
        intro hjk
        have hwj := hw j hjk
        unfold waitsB at hwj
        rw [hoj] at hwj
        obtain ⟨e, he, hbe⟩ := Array.any_eq_true'.mp hwj
        rw [Bool.and_eq_true] at hbe
        exact not_ready hr hoj hj he hbe.1 (by simpa using hbe.2)
      have hap := hf j oj hoj hji hun fun e' he' hb' => not_ready hr hoj hj he' hb'
      refine wpOp_mono ?_ (wpOp_putIf hoj hap (fun cs b => hsel i oi cs b hi) (fun cs b => hsel j oj cs b hoj) hQ hy (H.2 j (ready_mono hj hji)))
      rintro a' w' ⟨hy', hS', hT⟩
      refine ⟨hS', ih _ a' w' (fun m om hm hmi hmu hmn => hf m om hm hmi ?_ hmn) (ready_mono hr (Ne.symm hji)) hy' (hS' hjk) ?_⟩
      · rcases Nat.decEq j m with hjm | rfl
        · rwa [getD_set_ne true hjm] at hmu
        · exact hun
      · rw [Array.setIfInBounds_comm _ _ hji]
        exact hT
    · exact hy.wpOp hi hS ⟨fun _ => hS, H⟩

theorem tilk_take {i : Nat} {oi : Oper} {v : Value} {n : Nat} {l : Array Bool} {a : Act} {w : World} (hi : ops[i]? = some oi) (hs : Region.noSelect ops = true) (hf : Region.free md ops l i = true)
    (hr : (Region.ready md ops l).contains i = true) (hQ : ∀ c a w, Q (.panic c) (a.put oi.dst v) w → Q (.panic c) a w) (hy : YieldsIf P ops S oi v a) (hS : S w)
    (h : Tilk P md ops Q S ks n (l.setIfInBounds i true) (a.put oi.dst v) w) (hw : (ks.all fun k => waitsB md ops k i) = true := by kernel_rfl) : Tilk P md ops Q S ks (n + 1) l a w :=
  tilk_first hi (List.all_eq_true.mp hw) hs hQ n l a w (Region.free_spec hi hf) (by simpa using hr) hy hS h

def TilkAll (P : Program) (md : Region.Mode) (ops : Array Oper) (Q : Exit → Act → World → Prop) (S : World → Prop) (ks : List Nat) (n : Nat) (l : Array Bool) (a : Act) (w : World) (rs : List Nat) : Prop :=
  ∀ i, i ∈ rs → wpOp P ops Q i (fun a' w' => (i ∉ ks → S w') ∧ Tilk P md ops Q S ks n (l.setIfInBounds i true) a' w') a w
theorem TilkAll.nil {n : Nat} {l : Array Bool} {a : Act} {w : World} : TilkAll P md ops Q S ks n l a w [] := fun _ h => by cases h
theorem TilkAll.cons {n : Nat} {l : Array Bool} {a : Act} {w : World} {i : Nat} {o : Oper} {rs : List Nat} (ho : ops[i]? = some o)
    (h : ∀ K' : Act → World → Prop, Shut (∀ a w, S w → (S w → Tilk P md ops Q S ks n (l.setIfInBounds i true) a w) → K' a w) → if Region.wanted o (yielded ops a.tmps) = true then Oper.wp P o a w K' Q else K' (a.put o.dst undef) w)
    (hs : TilkAll P md ops Q S ks n l a w rs) (hik : i ∉ ks := by decide) : TilkAll P md ops Q S ks n l a w (i :: rs) := fun j hj => by
  rcases List.mem_cons.1 hj with rfl | hj
  · exact wpOp_step ho fun K' hK => h K' fun a w hS hW => hK a w ⟨fun _ => hS, hW hS⟩
  · exact hs j hj
/-- One of the last. -/
theorem TilkAll.last {i : Nat} {n : Nat} {l : Array Bool} {a : Act} {w : World} {o : Oper} {rs : List Nat} (ho : ops[i]? = some o)
    (h : ∀ K' : Act → World → Prop, Shut (∀ a w, True → (True → Tilk P md ops Q S ks n (l.setIfInBounds i true) a w) → K' a w) → if Region.wanted o (yielded ops a.tmps) = true then Oper.wp P o a w K' Q else K' (a.put o.dst undef) w)
    (hs : TilkAll P md ops Q S ks n l a w rs) (hik : i ∈ ks := by decide) : TilkAll P md ops Q S ks n l a w (i :: rs) := fun j hj => by
  rcases List.mem_cons.1 hj with rfl | hj
  · exact wpOp_step ho fun K' hK => h K' fun a w _ hW => hK a w ⟨fun hk => absurd hik hk, hW trivial⟩
  · exact hs j hj
theorem tilk_ready {rs : List Nat} {n : Nat} {l : Array Bool} {a : Act} {w : World} (hr : Region.ready md ops l = rs) (hne : rs ≠ []) (h : TilkAll P md ops Q S ks n l a w rs) : Tilk P md ops Q S ks (n + 1) l a w :=
  ⟨fun h0 => absurd (hr ▸ h0) hne, hr ▸ h⟩
theorem tilk_done {l : Array Bool} {a : Act} {w : World} (hr : Region.ready md ops l = []) (h : Q .normal a w) (n : Nat) : Tilk P md ops Q S ks n l a w := by
  cases n with
  | zero => exact ⟨hr, h⟩
  | succ n => exact ⟨fun _ => h, fun i hi => by rw [hr] at hi; cases hi⟩
theorem wp_region_tilk {id : Nat} {a : Act} {w : World} (ks : List Nat) (hm : P.follows .mixedOrders = true) (hS : S w.drew)
    (h : S w.drew → Tilk P .any ops Q S ks ops.size (Array.replicate ops.size false) a w.drew) : (Code.region id ops true).wp P Q a w :=
  wp_region_any hm (Tilk.any _ _ _ _ (h hS))
end
end Go.Proofs.Ytcjgbholgbjejaa
