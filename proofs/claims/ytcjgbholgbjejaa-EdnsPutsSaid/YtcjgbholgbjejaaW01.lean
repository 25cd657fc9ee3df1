/-
  A text's reader: over, passes, digit, next, stands, fail.
-/
import Derived.Lib.LazyBuf
import Derived.Test.YtcjgbholgbjejaaW00
import Derived.Deep.QuietTactic
import Derived.BigQuiet
import Derived.Laws.Panics
import Derived.WalkLawsBesides
import Derived.BigRegion
import Derived.RegionTactic
import Derived.Recover
import Derived.Defers
import Derived.LoopN
import Derived.Deep.LoopGhost
import Derived.Deep.RegionHeld3
import Derived.Laws.CopyOwn
import Derived.Outline
import Derived.LaidEqlPtr
import Derived.Maps.OwnSet
import Derived.Deep.RegionLaw
import Derived.Laws.OwnMore
import Derived.Maps.Own
import Derived.Lib.FrozenHead
import Derived.Test.YtcjgbholgbjejaaShelf
import Derived.Lib.AppendZeros
import Derived.Deep.Slices
import Derived.ChangeArms
import Derived.Maps.AppendAt
import Derived.Laws.MakeOwn
namespace Go.Proofs.Ytcjgbholgbjejaa
open Go.RowKit Go.Shelf
set_option linter.unusedVariables false
set_option maxRecDepth 100000
set_option linter.unusedSimpArgs false

/-- Block r is a reader that stands at p in the text t. -/
def Rd (w : World) (r : Nat) (t : List UInt8) (p : Nat) : Prop :=
  w.cell? ⟨r, 0, none⟩ = some (.string (bs t)) ∧ w.cell? ⟨r, 1, none⟩ = some (.int .i64 p) ∧ ∀ j, w.frozen? ⟨r, j, none⟩ = false

theorem Rd.lt {w : World} {r : Nat} {t : List UInt8} {p : Nat} (h : Rd w r t p) : r < w.heap.size := World.block_lt_of_cell? w _ h.1
theorem Rd.block {w w' : World} {r : Nat} {t : List UInt8} {p : Nat} (h : Rd w r t p) (hk : w'.heap[r]? = w.heap[r]?) : Rd w' r t p :=
  ⟨(World.cell?_of_block (a := ⟨r, 0, none⟩) hk).trans h.1, (World.cell?_of_block (a := ⟨r, 1, none⟩) hk).trans h.2.1, fun j => (World.frozen?_of_block (a := ⟨r, j, none⟩) hk).trans (h.2.2 j)⟩
theorem Drawn.aside {w w' : World} (h : Drawn w w') (G : Nat → Prop) : Aside G w w' := Aside.of_all (h.below _)

end Go.Proofs.Ytcjgbholgbjejaa

/-
  A text's reader: label.
-/
namespace Go.Proofs.Ytcjgbholgbjejaa
open Go.RowKit Go.Shelf
set_option linter.unusedVariables false
set_option maxRecDepth 100000
set_option linter.unusedSimpArgs false

theorem back_U {w : World} {B : Nat} {v : Value} {l : List UInt8} (h : OwnU w B v l) : (convert 67 9 v).run Try.prog w = .ok (.string (bs l)) w := by
  obtain ⟨a, c, rfl, hc⟩ := h.shape
  by_cases h0 : 0 < l.length
  · obtain ⟨g, rfl, _, hg⟩ := hc h0
    exact run_convert_bytes_back (P := Try.prog) w 67 9 5 ⟨g, 0, none⟩ c l Try.underlying67 Try.underlying5 Try.underlying9 (fun j hj => by
      rw [WideShapes.add_plain, Nat.zero_add, hg j hj, List.getD, List.getElem?_eq_getElem hj]; rfl)
  · have hl : l = [] := List.eq_nil_of_length_eq_zero (by omega)
    subst hl
    rcases a with _ | ad
    · rw [run_convert_bytes_nil w 67 5 Try.underlying67 Try.underlying5 _ c 9 Try.underlying9]; rfl
    · rw [run_convert_bytes_string w 67 9 5 _ _ c Try.underlying67 Try.underlying5 Try.underlying9, run_bytesToString w ad _ c [] (by simpa using run_loadCells_list (P := Try.prog) w ad [] (by simp))]
      rfl

end Go.Proofs.Ytcjgbholgbjejaa

/-
  Same, Parent, the program's and the document's.
-/
namespace Go.Proofs.Ytcjgbholgbjejaa
open Go.RowKit Go.Shelf
set_option linter.unusedVariables false
set_option maxRecDepth 100000

def same (a b : List UInt8) : Bool := decide (chk a = 0 ∧ chk b = 0 ∧ low a = low b)

end Go.Proofs.Ytcjgbholgbjejaa

/-
  What the document's examples say: faulty, awake.
-/
namespace Go.Proofs.Ytcjgbholgbjejaa
open Go.RowKit Go.Shelf
set_option linter.unusedVariables false
set_option maxRecDepth 100000
set_option linter.unusedSimpArgs false

/-- Labels that a name may have. -/
def Shorts (l : List (List UInt8)) : Prop := (∀ x ∈ l, 0 < x.length ∧ x.length ≤ 63) ∧ (wire l).length ≤ 254

instance (l : List (List UInt8)) : Decidable (Shorts l) := by unfold Shorts; infer_instance

end Go.Proofs.Ytcjgbholgbjejaa

/-
  A name in a message, read plainly: byte by byte, part by part.
-/
namespace Go.Proofs.Ytcjgbholgbjejaa
open Go.RowKit
set_option linter.unusedVariables false
set_option maxRecDepth 100000

/-- Bytes as numbers. -/
def iz (b : List UInt8) : List Int := b.map fun x => (x.toNat : Int)

@[simp] theorem iz_len (b : List UInt8) : (iz b).length = b.length := by simp [iz]

theorem iz_byte (b : List UInt8) : ByteL (iz b) := fun n hn => by
  obtain ⟨x, _, rfl⟩ := List.mem_map.mp hn
  have : x.toNat < 256 := x.toNat_lt
  omega

theorem iz_get (b : List UInt8) (k : Nat) (h : k < b.length) : (iz b).getD k 0 = (b[k].toNat : Int) := by
  rw [List.getD, iz, List.getElem?_map, List.getElem?_eq_getElem h]; rfl

theorem iz_app (a b : List UInt8) : iz (a ++ b) = iz a ++ iz b := List.map_append

/-- What reading tells: the name, where it ends, the fault, its place. -/
abbrev Got := List UInt8 × Nat × Int × Nat

/-- What a pointer of these two bytes leads to. -/
def ptr (x y : UInt8) : Nat := 256 * (x.toNat - 192) + y.toNat

/-- From the place i on; a: where reading began; part: where this part began; next: where the first part ended, 0 till it is left; n: the labels so far. -/
def rd (b : List UInt8) (a part i next : Nat) (n : List UInt8) : Got :=
  if h : i < b.length then
    if b[i].toNat = 0 then (n ++ [0], if next = 0 then i + 1 else next, 0, 0)
    else if b[i].toNat < 64 then
      if b.length < i + (1 + b[i].toNat) then ([], 0, 4, b.length)
      else if 254 < n.length + (1 + b[i].toNat) then ([], 0, 3, a)
      else rd b a part (i + (1 + b[i].toNat)) next (n ++ (b.drop i).take (1 + b[i].toNat))
    else if b[i].toNat < 192 then ([], 0, 4, i)
    else if h1 : i + 1 < b.length then
      if part ≤ ptr b[i] b[i + 1] then ([], 0, 150, i)
      else rd b a (ptr b[i] b[i + 1]) (ptr b[i] b[i + 1]) (if next = 0 then i + 2 else next) n
    else ([], 0, 4, b.length)
  else ([], 0, 4, b.length)
termination_by (part, b.length - i)
decreasing_by
  · apply Prod.Lex.right; omega
  · apply Prod.Lex.left; omega

theorem rd_end {b : List UInt8} {a part i next : Nat} {n : List UInt8} (h : b.length ≤ i) : rd b a part i next n = ([], 0, 4, b.length) := by
  rw [rd, dif_neg (by omega)]

theorem rd_zero {b : List UInt8} {a part i next : Nat} {n : List UInt8} (h : i < b.length) (h0 : b[i].toNat = 0) : rd b a part i next n = (n ++ [0], if next = 0 then i + 1 else next, 0, 0) := by
  rw [rd, dif_pos h, if_pos h0]

theorem rd_short {b : List UInt8} {a part i next : Nat} {n : List UInt8} (h : i < b.length) (h0 : b[i].toNat ≠ 0) (h1 : b[i].toNat < 64) (h2 : b.length < i + (1 + b[i].toNat)) : rd b a part i next n = ([], 0, 4, b.length) := by
  rw [rd, dif_pos h, if_neg h0, if_pos h1, if_pos h2]

theorem rd_long {b : List UInt8} {a part i next : Nat} {n : List UInt8} (h : i < b.length) (h0 : b[i].toNat ≠ 0) (h1 : b[i].toNat < 64) (h2 : ¬ b.length < i + (1 + b[i].toNat)) (h3 : 254 < n.length + (1 + b[i].toNat)) : rd b a part i next n = ([], 0, 3, a) := by
  rw [rd, dif_pos h, if_neg h0, if_pos h1, if_neg h2, if_pos h3]

theorem rd_label {b : List UInt8} {a part i next : Nat} {n : List UInt8} (h : i < b.length) (h0 : b[i].toNat ≠ 0) (h1 : b[i].toNat < 64) (h2 : ¬ b.length < i + (1 + b[i].toNat)) (h3 : ¬ 254 < n.length + (1 + b[i].toNat)) :
    rd b a part i next n = rd b a part (i + (1 + b[i].toNat)) next (n ++ (b.drop i).take (1 + b[i].toNat)) := by
  conv => lhs; rw [rd, dif_pos h, if_neg h0, if_pos h1, if_neg h2, if_neg h3]

theorem rd_mid {b : List UInt8} {a part i next : Nat} {n : List UInt8} (h : i < b.length) (h1 : 64 ≤ b[i].toNat) (h2 : b[i].toNat < 192) : rd b a part i next n = ([], 0, 4, i) := by
  rw [rd, dif_pos h, if_neg (by omega), if_neg (by omega), if_pos h2]

theorem rd_half {b : List UInt8} {a part i next : Nat} {n : List UInt8} (h : i < b.length) (h1 : 192 ≤ b[i].toNat) (h2 : b.length ≤ i + 1) : rd b a part i next n = ([], 0, 4, b.length) := by
  rw [rd, dif_pos h, if_neg (by omega), if_neg (by omega), if_neg (by omega), dif_neg (by omega)]

theorem rd_back {b : List UInt8} {a part i next : Nat} {n : List UInt8} (h : i < b.length) (h1 : 192 ≤ b[i].toNat) (h2 : i + 1 < b.length) (h3 : part ≤ ptr b[i] b[i + 1]) : rd b a part i next n = ([], 0, 150, i) := by
  rw [rd, dif_pos h, if_neg (by omega), if_neg (by omega), if_neg (by omega), dif_pos h2, if_pos h3]

theorem rd_go {b : List UInt8} {a part i next : Nat} {n : List UInt8} (h : i < b.length) (h1 : 192 ≤ b[i].toNat) (h2 : i + 1 < b.length) (h3 : ¬ part ≤ ptr b[i] b[i + 1]) :
    rd b a part i next n = rd b a (ptr b[i] b[i + 1]) (ptr b[i] b[i + 1]) (if next = 0 then i + 2 else next) n := by
  conv => lhs; rw [rd, dif_pos h, if_neg (by omega), if_neg (by omega), if_neg (by omega), dif_pos h2, if_neg h3]

/-- What is told of any place. -/
def rda (b : List UInt8) (a : Int) : Got := if a < 0 ∨ (b.length : Int) < a then ([], 0, 5, 0) else rd b a.toNat a.toNat a.toNat 0 []

def gotV (r : Got) : Value := .tuple #[.string (bs r.1), .int .i64 r.2.1, .agg #[.int .i64 r.2.2.1, .int .i64 r.2.2.2]]

end Go.Proofs.Ytcjgbholgbjejaa

/-
  cmp.Or of two numbers; the byte at a place; where a pointer leads.
-/
namespace Go.Proofs.Ytcjgbholgbjejaa
open Go.RowKit Go.Shelf
set_option linter.unusedVariables false
set_option maxRecDepth 100000

/-- The slice at a place. -/
theorem Sl.spot {w : World} {lo hi : Nat} {v : Value} {l : List Int} (h : Sl w lo hi v l) (p : Nat) (hp : p < l.length) :
    ∃ g off c, v = .slice (some ⟨g, off, none⟩) l.length c ∧ g < hi ∧ w.cell? ⟨g, off + p, none⟩ = some (.int .u8 (l.getD p 0)) := by
  obtain ⟨a, c, rfl, _, _, hx⟩ := h
  obtain ⟨g, off, rfl, _, h2, h3⟩ := hx (by omega)
  exact ⟨g, off, c, rfl, h2, h3 p hp⟩

end Go.Proofs.Ytcjgbholgbjejaa

/-
  Read.
-/
namespace Go.Proofs.Ytcjgbholgbjejaa
open Go.RowKit Go.Shelf
set_option linter.unusedVariables false
set_option maxRecDepth 100000

/-- Where the result's block and one behind it stand. -/
structure Rdy (w w1 : World) : Prop where
  below : Below (w.heap.size + 1) (w.alloc (.cells #[.int .i64 0, .int .i64 0] 76)) w1

theorem Rdy.lt {w w1 : World} (h : Rdy w w1) : w.heap.size < w1.heap.size := below_lt h.below
theorem Rdy.call {w w1 w2 : World} (h : Rdy w w1) (hb : Below w1.heap.size w1 w2) : Rdy w w2 := ⟨h.below.trans (hb.mono h.lt)⟩
theorem Rdy.alloc {w w1 : World} (h : Rdy w w1) (o : Obj) : Rdy w (w1.alloc o) := ⟨h.below.alloc h.lt o⟩
theorem Rdy.set {w w1 : World} (h : Rdy w w1) {p : Addr} (hp : w.heap.size < p.block) (x : Value) : Rdy w (w1.setCell p x) := ⟨h.below.setCell hp x⟩
theorem Rdy.cells {w w1 : World} (h : Rdy w w1) : w1.cell? ⟨w.heap.size, 0, none⟩ = some (.int .i64 0) ∧ w1.cell? ⟨w.heap.size, 1, none⟩ = some (.int .i64 0) ∧ ∀ j, w1.frozen? ⟨w.heap.size, j, none⟩ = false := res_cells h.below
theorem Rdy.fin {w w1 : World} (h : Rdy w w1) (x y : Value) (o : Obj) : Below w.heap.size w (((w1.setCell ⟨w.heap.size, 0, none⟩ x).setCell ⟨w.heap.size, 1, none⟩ y).alloc o) := by
  have := ((((Below.refl w.heap.size w).alloc (Nat.le_refl _) _).trans (h.below.mono (Nat.le_succ _))).setCell (p := ⟨w.heap.size, 0, none⟩) (Nat.le_refl _) x).setCell (p := ⟨w.heap.size, 1, none⟩) (Nat.le_refl _) y
  exact this.alloc this.size o
theorem Rdy.old {w w1 : World} (h : Rdy w w1) : Below w.heap.size w w1 := ((Below.refl w.heap.size w).alloc (Nat.le_refl _) _).trans (h.below.mono (Nat.le_succ _))
theorem Rdy.on {w w1 w2 : World} (h : Rdy w w1) (hb : Below (w.heap.size + 1) w1 w2) : Rdy w w2 := ⟨h.below.trans hb⟩

end Go.Proofs.Ytcjgbholgbjejaa

/-
  The reader that goes along a message: a name, a number.
-/
namespace Go.Proofs.Ytcjgbholgbjejaa
open Go.RowKit Go.Shelf
set_option linter.unusedVariables false
set_option linter.unusedSimpArgs false
set_option maxRecDepth 100000

/-- Where the next part begins, the first fault, its place. -/
structure RS where
  a : Int
  e : Int
  p : Int

/-- The reader's own cells. -/
structure Rdr (w : World) (r : Nat) (vb : Value) (s : RS) : Prop where
  c0 : w.cell? ⟨r, 0, none⟩ = some vb
  c1 : w.cell? ⟨r, 1, none⟩ = some (.int .i64 s.a)
  c2 : w.cell? ⟨r, 2, none⟩ = some (.int .i64 s.e)
  c3 : w.cell? ⟨r, 3, none⟩ = some (.int .i64 s.p)
  fz : ∀ j, w.frozen? ⟨r, j, none⟩ = false

/-- Cells of a block, none of them frozen. -/
structure Cel (w : World) (q : Nat) (l : List Value) : Prop where
  c : ∀ j (h : j < l.length), w.cell? ⟨q, j, none⟩ = some l[j]
  fz : ∀ j, w.frozen? ⟨q, j, none⟩ = false

section
variable {w w' : World} {r q : Nat} {vb : Value} {s : RS} {l : List Value}
theorem Rdr.lt (h : Rdr w r vb s) : r < w.heap.size := World.block_lt_of_cell? w ⟨r, 0, none⟩ h.c0
theorem Rdr.aside {G : Nat → Prop} (h : Rdr w r vb s) (ha : Aside G w w') (hg : ¬ G r) : Rdr w' r vb s :=
  ⟨ha.cell_lt h.c0 hg, ha.cell_lt h.c1 hg, ha.cell_lt h.c2 hg, ha.cell_lt h.c3 hg, fun j => (ha.frozen (p := ⟨r, j, none⟩) h.lt hg).trans (h.fz j)⟩
theorem Rdr.below (h : Rdr w r vb s) (hb : Below w.heap.size w w') : Rdr w' r vb s := h.aside (G := fun _ => False) (Aside.of_all hb) (fun h => h)
theorem Cel.lt (h : Cel w q l) (h0 : 0 < l.length) : q < w.heap.size := World.block_lt_of_cell? w ⟨q, 0, none⟩ (h.c 0 h0)
theorem Cel.aside {G : Nat → Prop} (h : Cel w q l) (h0 : 0 < l.length) (ha : Aside G w w') (hg : ¬ G q) : Cel w' q l :=
  ⟨fun j hj => ha.cell_lt (h.c j hj) hg, fun j => (ha.frozen (p := ⟨q, j, none⟩) (h.lt h0) hg).trans (h.fz j)⟩
theorem Cel.below (h : Cel w q l) (h0 : 0 < l.length) (hb : Below w.heap.size w w') : Cel w' q l := h.aside (G := fun _ => False) h0 (Aside.of_all hb) (fun h => h)
theorem Cel.set (h : Cel w q l) {o : Nat} (ho : o < l.length) (v : Value) : Cel (w.setCell ⟨q, o, none⟩ v) q (l.set o v) := by
  refine ⟨fun j hj => ?_, fun j => by rw [World.frozen?_setCell]; exact h.fz j⟩
  rw [List.length_set] at hj
  by_cases hjo : o = j
  · subst hjo
    rw [List.getElem_set_self]
    exact World.cell?_setCell_same _ _ _ (h.c o ho)
  · rw [List.getElem_set_ne hjo, World.cell?_setCell_other _ _ _ _ (fun e => hjo (congrArg Addr.off e))]
    exact h.c j hj
theorem Cel.other (h : Cel w q l) {a : Addr} (ha : a.block ≠ q) (v : Value) : Cel (w.setCell a v) q l :=
  ⟨fun j hj => by rw [World.cell?_setCell_other _ _ _ _ (fun e => ha (congrArg Addr.block e))]; exact h.c j hj, fun j => by rw [World.frozen?_setCell]; exact h.fz j⟩
end

/-- A name is read. -/
def stN (b : List UInt8) (s : RS) : RS := if s.e ≠ 0 then s else ⟨(rda b s.a).2.1, (rda b s.a).2.2.1, (rda b s.a).2.2.2⟩
/-- A number of two bytes, of four. -/
def st2 (b : List UInt8) (s : RS) : RS := if s.e ≠ 0 then s else ⟨getF 2 b.length s.a (s.a + 2), getE 2 b.length s.a, getA 2 b.length s.a⟩
def st4 (b : List UInt8) (s : RS) : RS := if s.e ≠ 0 then s else ⟨getF 4 b.length s.a (s.a + 4), getE 4 b.length s.a, getA 4 b.length s.a⟩
/-- What came of one part is being stored: the cell, where the next part begins, the fault; in any order. -/
structure Half (w w2 : World) (r q o : Nat) (vb v old : Value) (l : List Value) (s t : RS) (f g h : Bool) : Prop where
  rd : Rdr w2 r vb ⟨if g = true then t.a else s.a, if h = true then t.e else s.e, if h = true then t.p else s.p⟩
  ce : Cel w2 q (if f = true then l.set o v else l)
  ho : o < l.length
  hne : r ≠ q
  has : Aside (fun b => b = r ∨ b = q) w w2
  old : w2.cell? ⟨q, o, none⟩ = some (if f = true then v else old)

section
variable {w w2 w3 : World} {r q o : Nat} {vb v old : Value} {l : List Value} {s t : RS} {f g h : Bool}
theorem Half.pos (H : Half w w2 r q o vb v old l s t f g h) : 0 < (if f = true then l.set o v else l).length := by
  have := H.ho
  split
  · rw [List.length_set]; omega
  · omega
theorem Half.later (H : Half w w2 r q o vb v old l s t f g h) (hb : Below w2.heap.size w2 w3) : Half w w3 r q o vb v old l s t f g h := by
  exact ⟨H.rd.below hb, H.ce.below H.pos hb, H.ho, H.hne, H.has.trans (Aside.of_all hb), cell_later hb H.old⟩
theorem Half.sq (H : Half w w2 r q o vb v old l s t false g h) : Half w (w2.setCell ⟨q, o, none⟩ v) r q o vb v old l s t true g h := by
  have hne := H.hne
  have hR := H.rd
  have hc : Cel w2 q l := H.ce
  refine ⟨⟨(World.cell?_setCell_other _ _ _ _ (fun e => hne (congrArg Addr.block e).symm)).trans hR.c0, (World.cell?_setCell_other _ _ _ _ (fun e => hne (congrArg Addr.block e).symm)).trans hR.c1, (World.cell?_setCell_other _ _ _ _ (fun e => hne (congrArg Addr.block e).symm)).trans hR.c2, (World.cell?_setCell_other _ _ _ _ (fun e => hne (congrArg Addr.block e).symm)).trans hR.c3, fun j => by rw [World.frozen?_setCell]; exact hR.fz j⟩, ?_, H.ho, hne, H.has.trans (Aside.setCell w2 (p := ⟨q, o, none⟩) v (.inr rfl)), ?_⟩
  · rw [if_pos rfl]; exact hc.set H.ho v
  · rw [if_pos rfl]; exact World.cell?_setCell_same _ _ _ H.old
end

end Go.Proofs.Ytcjgbholgbjejaa

/-
  SameBytes.
-/
namespace Go.Proofs.Ytcjgbholgbjejaa
open Go.RowKit
set_option linter.unusedVariables false
set_option maxRecDepth 100000

/-- A slice of bytes as a string. -/
theorem conv_sl {w : World} {lo hi : Nat} {v : Value} {l : List Int} (h : Sl w lo hi v l) : (convert 67 9 v).run Try.prog w = .ok (.string (strOfNums l)) w := by
  obtain ⟨a, c, rfl, hc, hn, hp⟩ := h
  by_cases h0 : 0 < l.length
  · obtain ⟨b, off, rfl, _, _, hx⟩ := hp h0
    exact run_convert_bytes_arg w 67 5 Try.underlying67 Try.underlying5 b off l.length c l rfl hx 9 Try.underlying9
  · have hl : l = [] := List.eq_nil_of_length_eq_zero (by omega)
    subst hl
    rcases a with _ | ad
    · rw [run_convert_bytes_nil w 67 5 Try.underlying67 Try.underlying5 _ c 9 Try.underlying9]; rfl
    · rw [run_convert_bytes_string w 67 9 5 _ _ c Try.underlying67 Try.underlying5 Try.underlying9, run_bytesToString w ad _ c [] (by simpa using run_loadCells_list (P := Try.prog) w ad [] (by simp))]
      rfl

end Go.Proofs.Ytcjgbholgbjejaa

/-
  The document's Read.
-/
namespace Go.Proofs.Ytcjgbholgbjejaa
open Go.RowKit Go.Shelf
set_option linter.unusedVariables false
set_option maxRecDepth 100000

theorem str_iz (m : List UInt8) : strOfNums (iz m) = bs m := by
  unfold strOfNums bs iz
  rw [List.map_map]
  congr 2
  conv => rhs; rw [← List.map_id m]
  refine List.map_congr_left fun x _ => ?_
  simp

theorem lex_lt {L p i T : Nat} (hT : T < p) (hi : i ≤ L) : T * (L + 1) + (L - T) < p * (L + 1) + (L - i) := by
  have h := Nat.mul_le_mul_right (L + 1) (show T + 1 ≤ p from hT)
  rw [Nat.add_mul] at h
  generalize T * (L + 1) = x at *
  generalize p * (L + 1) = y at *
  omega

end Go.Proofs.Ytcjgbholgbjejaa

/-
  LentBytes: a copy, with three marks behind it.
-/
namespace Go.Proofs.Ytcjgbholgbjejaa
open Go.RowKit
set_option linter.unusedVariables false
set_option maxRecDepth 100000

/-- What LentBytes lends: the bytes, and three marks behind them. -/
def lentL (l : List Int) : List Int := l ++ [160 + (l.length : Int) % 90, 160 + ((l.length : Int) + 1) % 90, 160 + ((l.length : Int) + 2) % 90]

theorem lentL_len (l : List Int) : (lentL l).length = l.length + 3 := by simp [lentL]

/-- Block g is lent: the bytes l, and the marks. -/
def LentAt (w : World) (g : Nat) (l : List Int) : Prop := w.heap[g]? = some (.cells ((lentL l).map (Value.int .u8)).toArray 5 (0, 0))

theorem LentAt.sl {w : World} {g : Nat} {l : List Int} (h : LentAt w g l) : Sl w g (g + 1) (.slice (some ⟨g, 0, none⟩) (l.length + 3) (l.length + 3)) (lentL l) := by
  have := Own.sl (g := g) (l := lentL l) (w := w) (.inr ⟨rfl, h⟩)
  rw [lentL_len] at this
  exact this

theorem LentAt.at_ {w : World} {g g' : Nat} {l : List Int} (h : LentAt w g l) (e : g = g') : LentAt w g' l := e ▸ h

theorem LentAt.later {w w' : World} {g : Nat} {l : List Int} (h : LentAt w g l) (hb : Below w.heap.size w w') (hg : g < w.heap.size) : LentAt w' g l := (hb.block g hg).trans h

theorem LentAt.lt {w : World} {g : Nat} {l : List Int} (h : LentAt w g l) : g < w.heap.size := (Array.getElem?_eq_some_iff.mp h).1

theorem LentAt.only {w w' : World} {g k : Nat} {l : List Int} (h : LentAt w g l) (ho : Only k w w') (hg : g ≠ k) : LentAt w' g l := (ho.2.2.2.2 g hg).trans h

end Go.Proofs.Ytcjgbholgbjejaa

/-
  What is read is a name, or there is a fault; plainly.
-/
namespace Go.Proofs.Ytcjgbholgbjejaa
open Go.RowKit Go.Shelf
set_option linter.unusedVariables false
set_option maxRecDepth 100000

/-- Reading, way by way. -/
theorem rd_ind (b : List UInt8) (a : Nat) (M : Nat → Nat → Nat → List UInt8 → Got → Prop)
    (fault : ∀ part i next n (e : Int) k, e ≠ 0 → (k ≤ b.length ∨ k = a) → M part i next n ([], 0, e, k))
    (zero : ∀ part i next n (h : i < b.length), b[i].toNat = 0 → M part i next n (n ++ [0], if next = 0 then i + 1 else next, 0, 0))
    (label : ∀ part i next n R (h : i < b.length), b[i].toNat ≠ 0 → b[i].toNat < 64 → i + (1 + b[i].toNat) ≤ b.length → n.length + (1 + b[i].toNat) ≤ 254 →
      M part (i + (1 + b[i].toNat)) next (n ++ (b.drop i).take (1 + b[i].toNat)) R → M part i next n R)
    (lead : ∀ part i next n R (h : i + 1 < b.length), 192 ≤ (b[i]'(by omega)).toNat → ptr (b[i]'(by omega)) b[i + 1] < part →
      M (ptr (b[i]'(by omega)) b[i + 1]) (ptr (b[i]'(by omega)) b[i + 1]) (if next = 0 then i + 2 else next) n R → M part i next n R)
    (part i next : Nat) (n : List UInt8) : M part i next n (rd b a part i next n) := by
  obtain ⟨g, hg⟩ : ∃ g, part * (b.length + 1) + (b.length - i) = g := ⟨_, rfl⟩
  induction g using Nat.strongRecOn generalizing part i next n with
  | _ g ih =>
    by_cases h : i < b.length
    · by_cases h0 : b[i].toNat = 0
      · rw [rd_zero h h0]; exact zero _ _ _ _ h h0
      by_cases h1 : b[i].toNat < 64
      · by_cases h2 : b.length < i + (1 + b[i].toNat)
        · rw [rd_short h h0 h1 h2]; exact fault _ _ _ _ _ _ (by decide) (.inl (Nat.le_refl _))
        by_cases h3 : 254 < n.length + (1 + b[i].toNat)
        · rw [rd_long h h0 h1 h2 h3]; exact fault _ _ _ _ _ _ (by decide) (.inr rfl)
        rw [rd_label h h0 h1 h2 h3]
        exact label _ _ _ _ _ h h0 h1 (by omega) (by omega) (ih _ (by rw [← hg]; omega) _ _ _ _ rfl)
      by_cases h2 : b[i].toNat < 192
      · rw [rd_mid h (by omega) h2]; exact fault _ _ _ _ _ _ (by decide) (.inl (by omega))
      by_cases h3 : i + 1 < b.length
      · by_cases h4 : part ≤ ptr b[i] b[i + 1]
        · rw [rd_back h (by omega) h3 h4]; exact fault _ _ _ _ _ _ (by decide) (.inl (by omega))
        rw [rd_go h (by omega) h3 h4]
        exact lead _ _ _ _ _ h3 (by omega) (by omega) (ih _ (by rw [← hg]; exact lex_lt (by omega) (by omega)) _ _ _ _ rfl)
      · rw [rd_half h (by omega) (by omega)]; exact fault _ _ _ _ _ _ (by decide) (.inl (Nat.le_refl _))
    · rw [rd_end (by omega)]; exact fault _ _ _ _ _ _ (by decide) (.inl (Nat.le_refl _))

theorem rd_kept (b : List UInt8) (a part i next : Nat) (n : List UInt8) (h0 : next ≠ 0) (he : (rd b a part i next n).2.2.1 = 0) : (rd b a part i next n).2.1 = next := by
  refine rd_ind b a (fun _ _ next _ R => next ≠ 0 → R.2.2.1 = 0 → R.2.1 = next) ?_ ?_ ?_ ?_ part i next n h0 he
  · intro part i next n e k he hk h0 h; exact absurd h he
  · intro part i next n h h0 hn _; show (if next = 0 then i + 1 else next) = next; rw [if_neg hn]
  · intro part i next n R h h0 h1 h2 h3 ih hn he; exact ih hn he
  · intro part i next n R h h0 h1 ih hn he
    have := ih (by rw [if_neg hn]; exact hn) he
    rw [if_neg hn] at this
    exact this

/-- Where a name ends whose first part is not left yet. -/
theorem rd_next (b : List UInt8) (a part i : Nat) (n : List UInt8) (hn : n.length ≤ 254) (he : (rd b a part i 0 n).2.2.1 = 0) :
    i < (rd b a part i 0 n).2.1 ∧ (rd b a part i 0 n).2.1 ≤ b.length ∧ (rd b a part i 0 n).2.1 + n.length ≤ i + 256 := by
  have := rd_ind b a (fun part i next n R => next = 0 → n.length ≤ 254 → R = rd b a part i next n → R.2.2.1 = 0 → i < R.2.1 ∧ R.2.1 ≤ b.length ∧ R.2.1 + n.length ≤ i + 256) ?_ ?_ ?_ ?_ part i 0 n rfl hn rfl he
  · exact this
  · intro part i next n e k he hk _ _ _ h; exact absurd h he
  · intro part i next n h h0 hn hl _ _
    subst hn
    show i < i + 1 ∧ i + 1 ≤ b.length ∧ i + 1 + n.length ≤ i + 256
    omega
  · intro part i next n R h h0 h1 h2 h3 ih hn hl hR he
    have hlen : ((b.drop i).take (1 + b[i].toNat)).length = 1 + b[i].toNat := by rw [List.length_take, List.length_drop]; omega
    have := ih hn (by rw [List.length_append, hlen]; omega) (by rw [hR, rd_label h h0 h1 (by omega) (by omega)]) he
    rw [List.length_append, hlen] at this
    omega
  · intro part i next n R h h0 h1 ih hn hl hR he
    subst hn
    rw [rd_go (by omega) h0 h (by omega), if_pos rfl] at hR
    have := rd_kept b a _ _ (i + 2) n (by omega) (by rw [← hR]; exact he)
    rw [← hR] at this
    omega

end Go.Proofs.Ytcjgbholgbjejaa

/-
  octet.Put16, Put32.
-/
namespace Go.Proofs.Ytcjgbholgbjejaa
open Go.RowKit
set_option linter.unusedVariables false
set_option maxRecDepth 100000

/-- The error that Put tells, and the bytes. -/
def putE (m n : Int) : Int := if 0 ≤ n ∧ n ≤ m then 0 else 5

def putL2 (n : Int) : List Int := if 0 ≤ n ∧ n ≤ 65535 then [n / 256, n % 256] else []

def PutPost (w : World) (E : Int) (L : List Int) (e : Ending) (w' : World) : Prop :=
  ∃ v g, e = .returned (.tuple #[v, .int .i64 E]) ∧ Own w' g v L ∧ w.heap.size ≤ g ∧ g < w'.heap.size ∧ Below w.heap.size w w'

set_option maxHeartbeats 400000 in
theorem put2_any (n : Int) (w : World) : Calls Try.prog 64 #[.int .i64 n] w (PutPost w (putE 65535 n) (putL2 n)) := by
  have hm := make2
  by_cases h : 0 ≤ n ∧ n ≤ 65535
  · have e1 : putE 65535 n = 0 := by unfold putE; rw [if_pos h]
    have e2 : putL2 n = [n / 256, n % 256] := by unfold putL2; rw [if_pos h]
    rw [e1, e2]
    clear e1 e2
    obtain ⟨h0, h1⟩ := h
    go_enter Try.func64, Try.ntmps64
    go_wp2
    refine wp_loop_rounds 3 ?_
    iterate 3 (rw [rounds_succ]; go_wp2)
    go_ret2
    exact ⟨_, w.heap.size + 1, rfl, .inr ⟨rfl, two_alloc _ _ _⟩, by omega, by simp, ((Below.refl _ _).alloc (Nat.le_refl _) _).alloc (by simp) _⟩
  · have e1 : putE 65535 n = 5 := by unfold putE; rw [if_neg h]
    have e2 : putL2 n = [] := by unfold putL2; rw [if_neg h]
    rw [e1, e2]
    clear e1 e2
    have h : n < 0 ∨ 65535 < n := by omega
    go_enter Try.func64, Try.ntmps64
    go_wp2
    refine wp_loop_rounds 3 ?_
    iterate 3 (rw [rounds_succ]; go_wp2)
    go_ret2
    exact ⟨_, w.heap.size, rfl, .inl ⟨rfl, rfl⟩, by omega, by simp; omega, ((Below.refl _ _).alloc (Nat.le_refl _) _).alloc (by simp) _⟩

set_option maxHeartbeats 400000 in
theorem put16_any (n : Int) (w : World) : Calls Try.prog 60 #[.int .i64 n] w (PutPost w (putE 65535 n) (putL2 n)) := by
  go_enter Try.func60, Try.ntmps60
  go_wp2_with (go_at_call 64; refine (put2_any n _).mono ?_; rintro e w1 ⟨v, g, rfl, h1, h2, h3, h4⟩; have H1 := Lib.hid h1; have H2 := Lib.hid h2; have H3 := Lib.hid h3; have H4 := Lib.hid h4; clear h1 h2 h3 h4)
  go_ret2
  exact ⟨v, g, rfl, H1.out, H2.out, H3.out, H4.out⟩

end Go.Proofs.Ytcjgbholgbjejaa

/-
  Rows of bytes of the call's own, made by append or out of a text: nothing of them is frozen, what lies behind their length is zeros.
-/
namespace Go.Proofs.Ytcjgbholgbjejaa
open Go.RowKit Go.Shelf
set_option linter.unusedVariables false
set_option maxRecDepth 100000

/-- The bytes l, then zeros up to the capacity. -/
def rowB (l : List UInt8) (cap : Nat) : List Value := ub l ++ List.replicate (cap - l.length) (.int .u8 0)

theorem ub_len (l : List UInt8) : (ub l).length = l.length := by simp [ub]
theorem ub_iz (l : List UInt8) : ub l = (iz l).map (Value.int .u8) := by unfold ub iz; rw [List.map_map]; rfl
theorem ub_app (a b : List UInt8) : ub (a ++ b) = ub a ++ ub b := List.map_append
theorem rowB_len {l : List UInt8} {cap : Nat} (h : l.length ≤ cap) : (rowB l cap).length = cap := by unfold rowB; rw [List.length_append, ub_len, List.length_replicate]; omega
theorem rowB_get {l : List UInt8} {cap j : Nat} (h : j < l.length) : (rowB l cap)[j]? = some (.int .u8 ((l.getD j 0).toNat : Nat)) := by
  unfold rowB
  rw [List.getElem?_append_left (by rw [ub_len]; exact h), ub, List.getElem?_map, List.getElem?_eq_getElem h, List.getD, List.getElem?_eq_getElem h]
  rfl

/-- v is nil, or such a row, in a block from B on. -/
def OwnB (w : World) (B : Nat) (v : Value) (l : List UInt8) : Prop :=
  (v = .slice none 0 0 ∧ l = []) ∨ ∃ g cap, ∃ fz : Nat × Nat, v = .slice (some ⟨g, 0, none⟩) l.length cap ∧ B ≤ g ∧ l.length ≤ cap ∧ cap ≤ maxLen ∧ (fz.2 = 0 ∨ cap ≤ fz.1) ∧ w.heap[g]? = some (.cells (rowB l cap).toArray 5 fz)

section
variable {w w' : World} {B B' : Nat} {v : Value} {l : List UInt8} {G : Nat → Prop}
theorem OwnB.nil (w : World) (B : Nat) : OwnB w B (.slice .none 0 0) [] := .inl ⟨rfl, rfl⟩
theorem OwnB.lt (h : OwnB w B v l) : ∀ k, v.ownBlock = some k → B ≤ k ∧ k < w.heap.size := by
  intro k hk
  rcases h with ⟨rfl, _⟩ | ⟨g, cap, fz, rfl, hB, _, _, _, hg⟩
  · simp [Value.ownBlock] at hk
  · simp [Value.ownBlock] at hk
    subst hk
    exact ⟨hB, (Array.getElem?_eq_some_iff.1 hg).1⟩
theorem OwnB.aside (h : OwnB w B v l) (ha : Aside G w w') (hG : ∀ b, v.ownBlock = some b → ¬ G b) : OwnB w' B v l := by
  have hlt := h.lt
  rcases h with h2 | ⟨g, cap, fz, hv, hg, h1, h2, h3, hh⟩
  · exact .inl h2
  · exact .inr ⟨g, cap, fz, hv, hg, h1, h2, h3, (ha.block g (by subst hv; exact (hlt g rfl).2) (hG g (by rw [hv]; rfl))).trans hh⟩
theorem OwnB.mono (h : OwnB w B v l) (hB : B' ≤ B) : OwnB w B' v l := by
  rcases h with h2 | ⟨g, cap, fz, hv, hg, r⟩
  · exact .inl h2
  · exact .inr ⟨g, cap, fz, hv, Nat.le_trans hB hg, r⟩
theorem OwnB.below (h : OwnB w B v l) (hb : Below w.heap.size w w') : OwnB w' B v l := h.aside (G := fun _ => False) (Aside.of_all hb) fun _ _ h => h
theorem OwnB.shape (h : OwnB w B v l) : ∃ a c, v = .slice a l.length c := by
  rcases h with ⟨rfl, rfl⟩ | ⟨g, cap, fz, rfl, _⟩
  · exact ⟨none, 0, rfl⟩
  · exact ⟨_, cap, rfl⟩
theorem OwnB.cells (h : OwnB w B v l) {g : Nat} (hg : v.ownBlock = some g) : ∀ j, j < l.length → w.cell? ⟨g, j, none⟩ = some (.int .u8 ((l.getD j 0).toNat : Nat)) := by
  intro j hj
  rcases h with ⟨rfl, _⟩ | ⟨g', cap, fz, rfl, _, _, _, _, hh⟩
  · simp [Value.ownBlock] at hg
  · simp [Value.ownBlock] at hg
    subst hg
    rw [World.cell?, hh]
    simpa using rowB_get (cap := cap) hj
theorem OwnB.some_ (h : OwnB w B v l) (h0 : 0 < l.length) : ∃ g c, v = .slice (some ⟨g, 0, none⟩) l.length c ∧ v.ownBlock = some g := by
  rcases h with ⟨rfl, rfl⟩ | ⟨g, cap, fz, rfl, _⟩
  · simp at h0
  · exact ⟨g, cap, rfl, rfl⟩
theorem OwnB.sl (h : OwnB w B v l) : Sl w B w.heap.size v (iz l) := by
  have hlt := h.lt
  have hc := fun g hg => h.cells (g := g) hg
  rcases h with ⟨rfl, rfl⟩ | ⟨g, cap, fz, rfl, hB, hl, _, _, hh⟩
  · exact ⟨none, 0, rfl, by simp [iz], fun _ => rfl, fun h => by simp [iz] at h⟩
  · refine ⟨some ⟨g, 0, none⟩, cap, by rw [iz_len], by rw [iz_len]; exact hl, fun h => by simp at h, fun _ => ⟨g, 0, rfl, hB, (hlt g rfl).2, fun j hj => ?_⟩⟩
    rw [iz_len] at hj
    rw [Nat.zero_add, hc g rfl j hj, iz_get l j hj, List.getD, List.getElem?_eq_getElem hj]
    rfl
end

/-- A text as bytes. -/
theorem conv_B (w : World) (s : List UInt8) (hs : s.length ≤ 1000000) : ∃ cap W, (convert 9 67 (.string (bs s))).run Try.prog w = .ok (.slice (some ⟨w.heap.size, 0, none⟩) s.length cap) W ∧ OwnB W w.heap.size (.slice (some ⟨w.heap.size, 0, none⟩) s.length cap) s ∧ Below w.heap.size w W ∧ w.heap.size < W.heap.size := by
  have h := run_bytes_of_string (P := Try.prog) w 9 67 5 (bs s) Try.underlying9 Try.underlying67 Try.underlying5
  rw [bs_size] at h
  have hge := grownCap_ge w s.length 0 5
  have hlist : (bytesRow (bs s) (grownCap w s.length 0 5)) = (rowB s (grownCap w s.length 0 5)).toArray := by
    unfold bytesRow rowB ub
    rw [bs_size]
    simp [bs]
  have hsz : (rowB s (grownCap w s.length 0 5)).toArray.size = grownCap w s.length 0 5 := by simp only [List.size_toArray, rowB_len hge]
  rw [hlist, hsz] at h
  exact ⟨_, _, h, .inr ⟨w.heap.size, grownCap w s.length 0 5, (grownCap w s.length 0 5, grownCap w s.length 0 5 + 1), rfl, Nat.le_refl _, hge, grownCap_le_maxLen w s.length 0 5 (by unfold maxLen; omega), .inr (Nat.le_refl _), heap_alloc_new w.drew _⟩, (Below.refl _ w).drew.alloc (Nat.le_refl _) _, by simp⟩

/-- Cells written into a row that is marked behind its end. -/
theorem store_marked (P : Program) (g t : Nat) (fz : Nat × Nat) : ∀ (vs : List Value) (o i : Nat) (cur : Array Value) (w : World), w.heap[g]? = some (.cells cur t fz) → (fz.2 = 0 ∨ cur.size ≤ fz.1) → o + i + vs.length ≤ cur.size → (∀ x ∈ vs, x.oneCell' = true) →
    (storeCells ⟨g, o, none⟩ vs i).run P w = .ok () (w.setRow g (cur.toList.take (o + i) ++ vs ++ cur.toList.drop (o + i + vs.length)).toArray) := by
  intro vs
  induction vs with
  | nil =>
    intro o i cur w hg _ _ _
    have : cur.toList.take (o + i) ++ [] ++ cur.toList.drop (o + i + ([] : List Value).length) = cur.toList := by simp
    rw [this, Array.toArray_toList, setRow_self w g cur t fz hg]
    rfl
  | cons x r ih =>
    intro o i cur w hg hz hl h1
    rw [List.length_cons] at hl
    have hlt : o + i < cur.size := by omega
    have hx : w.cell? ⟨g, o + i, none⟩ = some cur[o + i] := by simp [World.cell?, hg, hlt]
    have hf : w.frozen? ⟨g, o + i, none⟩ = false := by
      have : ¬ (fz.1 ≤ o + i ∧ o + i < fz.2) := by omega
      simp only [World.frozen?, hg]
      simpa using this
    have hstep : (store ((⟨g, o, none⟩ : Addr).add i) x).run P w = .ok () (w.setRow g (cur.setIfInBounds (o + i) x)) := by
      rw [WideShapes.add_plain, run_store P w _ x _ (h1 x List.mem_cons_self), hx]
      simp [hf, setCell_eq_setRow w g (o + i) cur t fz x hg]
    have hrest := ih o (i + 1) (cur.setIfInBounds (o + i) x) _ (setRow_heap w g cur _ t fz hg) (by simpa using hz) (by simp; omega) (fun y hy => h1 y (List.mem_cons_of_mem _ hy))
    have hlist : (cur.setIfInBounds (o + i) x).toList.take (o + (i + 1)) ++ r ++ (cur.setIfInBounds (o + i) x).toList.drop (o + (i + 1) + r.length) = cur.toList.take (o + i) ++ (x :: r) ++ cur.toList.drop (o + i + (r.length + 1)) := by
      rw [Array.toList_setIfInBounds]
      have hl2 : o + i < cur.toList.length := by simpa using hlt
      rw [show o + (i + 1) = o + i + 1 by omega, List.take_set, List.drop_set_of_lt (by omega), List.take_add_one, List.getElem?_eq_getElem hl2]
      rw [List.set_append_right _ _ (by rw [List.length_take]; omega)]
      have hl3 : cur.toList.length = cur.size := Array.length_toList
      have e1 : o + i - (cur.toList.take (o + i)).length = 0 := by rw [List.length_take]; omega
      rw [e1, Option.toList_some, List.set_cons_zero, List.append_assoc, List.append_assoc, List.append_assoc, List.singleton_append]
      congr 4
      omega
    simp only [storeCells, Sem.run_bind, hstep, Result.andThen_ok, hrest, setRow_setRow, hlist, List.length_cons]

/-- append of bytes, as it runs. -/
theorem run_appB {w : World} (B : Nat) (v xv : Value) (l l' : List UInt8) {lo hi : Nat} (hown : OwnB w B v l) (hx : Sl w lo hi xv (iz l')) (h0 : 0 < l'.length) (hb : l.length + l'.length ≤ 1000000) (hB : B ≤ w.heap.size) :
    ∃ v' w', (Builtin.append_ #[67, 67] 67 #[v, xv]).run Try.prog w = .ok v' w' ∧ OwnB w' B v' (l ++ l') ∧ w.grownBy w' v.ownBlock ∧ (v'.ownBlock = v.ownBlock ∨ v'.ownBlock = some w.heap.size) := by
  obtain ⟨i0, hi, hz0, hz1, hz2⟩ := info_parts Try.info5
  obtain ⟨ad, c, rfl, hc, hn, hp⟩ := hx
  rw [iz_len] at hc hp
  rw [iz_len]
  obtain ⟨g', off, rfl, _, _, hcell⟩ := hp h0
  have hnews : ∀ j u, (ub l')[j]? = some u → w.cell? ((⟨g', off, none⟩ : Addr).add j) = some u := by
    intro j u hu
    have hj : j < l'.length := by have := (List.getElem?_eq_some_iff.mp hu).1; rwa [ub_len] at this
    rw [WideShapes.add_plain, hcell j hj, iz_get l' j hj]
    rw [ub, List.getElem?_map, List.getElem?_eq_getElem hj] at hu
    exact hu
  have hm : (ub l').length = l'.length := ub_len _
  have fin : ∀ (need cap : Nat), l.length + l'.length ≤ cap → cap ≤ maxLen → ∀ W, W.heap[w.heap.size]? = some (.cells (ub l ++ ub l' ++ List.replicate (cap - (l.length + l'.length)) (Value.int .u8 0)).toArray 5 (0, 0)) →
      OwnB W B (.slice (some ⟨w.heap.size, 0, none⟩) (l.length + l'.length) cap) (l ++ l') := fun need cap h1 h2 W hW => by
    refine .inr ⟨w.heap.size, cap, (0, 0), by rw [List.length_append], hB, by rw [List.length_append]; exact h1, h2, .inl rfl, ?_⟩
    rw [hW, rowB, ub_app, List.length_append]
  rcases hown with ⟨rfl, rfl⟩ | ⟨g, cap, fz, rfl, hbg, hlc, hcm, hfz, hg⟩
  · have hr := run_append_nil (P := Try.prog) w 67 67 5 i0 (.int .u8 0) Try.underlying67 hi hz0 ⟨g', off, none⟩ l'.length c (ub l') (by rw [hz1, hm]; omega) hnews (by omega) (by simp at hb; omega) (by rw [hz2]; simp at hb; omega)
    have hge := grownCap_ge w l'.length 0 5
    have h := fin 0 (grownCap w l'.length 0 5) (by simpa using hge) (grownCap_le_maxLen w l'.length 0 5 (by simp at hb; unfold maxLen; omega)) (w.drew.alloc (.cells (ub l' ++ List.replicate (grownCap w l'.length 0 5 - l'.length) (Value.int .u8 0)).toArray 5)) (by
      refine (heap_alloc_new w.drew _).trans ?_
      simp [ub])
    simp only [List.length_nil, Nat.zero_add] at h
    refine ⟨_, _, hr, ?_, ⟨rfl, rfl, rfl, by simp, fun k hk _ => Below.heap_alloc w.drew _ _ hk⟩, .inr rfl⟩
    rw [zeroCells_one _ rfl]
    simp only [List.append_toArray]
    exact h
  · by_cases hroom : l.length + l'.length ≤ cap
    · have hf := run_firstCells_some (P := Try.prog) w i0.size l'.length ⟨g', off, none⟩ l'.length c (ub l') (by rw [hz1, hm]; omega) hnews
      have hst := store_marked Try.prog g 5 fz (ub l') (l.length * i0.size) 0 _ w hg (by simpa [rowB_len hlc] using hfz) (by simp [rowB_len hlc, hz1, hm]; omega) (ub_one _)
      have hlist : (rowB l cap).toArray.toList.take (l.length * i0.size + 0) ++ ub l' ++ (rowB l cap).toArray.toList.drop (l.length * i0.size + 0 + (ub l').length) = rowB (l ++ l') cap := by
        rw [hz1, hm]
        unfold rowB
        simp only [Nat.mul_one, Nat.add_zero]
        rw [List.take_left' (ub_len l), ub_app, List.length_append, List.append_assoc, List.append_assoc, List.drop_append, List.drop_eq_nil_of_le (by rw [ub_len]; omega), List.nil_append, List.drop_replicate, ub_len]
        congr 3
        omega
      rw [hlist] at hst
      refine ⟨.slice (some ⟨g, 0, none⟩) (l.length + l'.length) cap, w.setRow g (rowB (l ++ l') cap).toArray, ?_, .inr ⟨g, cap, fz, by rw [List.length_append], hbg, by rw [List.length_append]; exact hroom, hcm, hfz, setRow_heap w g _ _ 5 fz hg⟩, ⟨rfl, rfl, rfl, by simp, fun k _ hk => setRow_other w g k _ (fun e => hk (by simp [Value.ownBlock, e]))⟩, .inl rfl⟩
      simp [Builtin.append_, run_underlying Try.underlying67, sizeOf, typeInfo, hi, Builtin.lenOf, hroom, hf, Addr.add_lit, hst]
    · have holds : ∀ j u, (ub l)[j]? = some u → w.cell? ((⟨g, 0, none⟩ : Addr).add j) = some u := fun j u hu => by
        have hj : j < l.length := by have := (List.getElem?_eq_some_iff.mp hu).1; rwa [ub_len] at this
        rw [WideShapes.add_plain, Nat.zero_add, World.cell?, hg]
        simp [rowB, List.getElem?_append_left (show j < (ub l).length by rw [ub_len]; exact hj), hu]
      have hr := run_append_grow (P := Try.prog) w 67 67 5 i0 (.int .u8 0) Try.underlying67 hi hz0 ⟨g, 0, none⟩ l.length cap (ub l) (by rw [hz1, ub_len]; omega) holds ⟨g', off, none⟩ l'.length c (ub l') (by rw [hz1, hm]; omega) hnews (by omega) (by omega) (growslice_fits (by omega) (by rw [hz2]; omega))
      have hge := grownCap_ge w (l.length + l'.length) cap 5
      have h := fin 0 (grownCap w (l.length + l'.length) cap 5) hge (grownCap_le_maxLen w (l.length + l'.length) cap 5 (by unfold maxLen; omega)) (w.drew.alloc (.cells (ub l ++ ub l' ++ List.replicate (grownCap w (l.length + l'.length) cap 5 - (l.length + l'.length)) (Value.int .u8 0)).toArray 5)) (heap_alloc_new w.drew _)
      refine ⟨_, _, hr, ?_, ⟨rfl, rfl, rfl, by simp, fun k hk _ => Below.heap_alloc w.drew _ _ hk⟩, .inr rfl⟩
      rw [zeroCells_one _ rfl]
      simp only [List.append_toArray]
      exact h

/-- Block g is c bytes, none of them frozen. -/
def Bytes (w : World) (g c : Nat) : Prop := ∃ (l : List Int) (fz : Nat × Nat), l.length = c ∧ (fz.2 = 0 ∨ c ≤ fz.1) ∧ w.heap[g]? = some (.cells (l.map (Value.int .u8)).toArray 5 fz)

theorem Bytes.cell {w : World} {g c k : Nat} (h : Bytes w g c) (hk : k < c) : ∃ x : Int, w.cell? ⟨g, k, none⟩ = some (.int .u8 x) := by
  obtain ⟨l, fz, hl, _, hg⟩ := h
  refine ⟨l.getD k 0, ?_⟩
  rw [World.cell?, hg]
  simp [hl, hk]

theorem Bytes.frozen {w : World} {g c k : Nat} (h : Bytes w g c) (hk : k < c) : w.frozen? ⟨g, k, none⟩ = false := by
  obtain ⟨l, fz, hl, hz, hg⟩ := h
  have : ¬ (fz.1 ≤ k ∧ k < fz.2) := by omega
  simp only [World.frozen?, hg]
  simpa using this

theorem Bytes.set {w : World} {g c k : Nat} (h : Bytes w g c) (x : Int) : Bytes (w.setCell ⟨g, k, none⟩ (.int .u8 x)) g c := by
  obtain ⟨l, fz, hl, hz, hg⟩ := h
  refine ⟨l.set k x, fz, by simpa using hl, hz, ?_⟩
  simp [World.setCell, Array.getElem?_modify, hg, List.map_set]

end Go.Proofs.Ytcjgbholgbjejaa

/-
  Tails of names, and what a packer knows of them; plainly.
-/
namespace Go.Proofs.Ytcjgbholgbjejaa
open Go.RowKit Go.Shelf
set_option linter.unusedVariables false
set_option maxRecDepth 100000

/-- The name of labels. -/
def nm (ls : List (List UInt8)) : List UInt8 := wire ls ++ [0]

/-- Where label k begins. -/
def pos (ls : List (List UInt8)) (k : Nat) : Nat := (wire (ls.take k)).length

/-- The place of a tail. -/
def plc (K : List (List UInt8 × Nat)) (n : List UInt8) : Option Nat := (K.find? (fun p => p.1 == n)).map (·.2)

/-- How many labels are ahead of the first tail that is known. -/
def hdn (K : List (List UInt8 × Nat)) : List (List UInt8) → Nat
  | [] => 0
  | l :: r => if (plc K (nm (l :: r))).isSome then 0 else hdn K r + 1

/-- What a packer learns of the first h labels of a name that stands at a place. -/
def fr (at_ : Nat) : List (List UInt8) → Nat → List (List UInt8 × Nat)
  | [], _ => []
  | _ :: _, 0 => []
  | l :: r, h + 1 => (if at_ < 16384 then [(nm (l :: r), at_)] else []) ++ fr (at_ + (1 + l.length)) r h

/-- What a packer knows: names, not the root, at places that pointers lead to. -/
def GoodK (K : List (List UInt8 × Nat)) : Prop := ∀ p ∈ K, p.2 < 16384 ∧ ∃ ls, ls ≠ [] ∧ Shorts ls ∧ p.1 = nm ls

theorem good_nil : GoodK [] := fun p hp => by simp at hp
/-- A pointer's bytes; a tail that is known, or as it is. -/
def pb (x : Nat) : List UInt8 := [UInt8.ofNat (192 + x / 256), UInt8.ofNat (x % 256)]
def restb (K : List (List UInt8 × Nat)) (t : List UInt8) : List UInt8 := match plc K t with | some x => pb x | none => t

/-- What is told of a name. -/
def told (K : List (List UInt8 × Nat)) (ls : List (List UInt8)) : List UInt8 := wire (ls.take (hdn K ls)) ++ restb K (nm (ls.drop (hdn K ls)))

end Go.Proofs.Ytcjgbholgbjejaa

/-
  A packer in memory: what its map reads as; New, Known.
-/
namespace Go.Proofs.Ytcjgbholgbjejaa
open Go.RowKit Go.Shelf
set_option linter.unusedVariables false
set_option maxRecDepth 100000

/-- The map's datum tells the tails K. -/
def RepD (D : DataW Unit) (K : List (List UInt8 × Nat)) : Prop :=
  Maps.size D = K.length ∧ ∀ n : List UInt8, Maps.has D (.string n) = (plc K n).isSome ∧ ∀ x, plc K n = some x → D.atKey (.string n) (.lit (.int .i64 0)) = .lit (.int .i64 x)

/-- Block bm is a map of the tails K. -/
def Tm (w : World) (bm : Nat) (K : List (List UInt8 × Nat)) : Prop := ∃ D : DataW Unit, w.ownsMap Try.prog 9 (plainElem Try.prog 3) bm K.length D ∧ RepD D K

theorem Tm.lt {w : World} {bm : Nat} {K : List (List UInt8 × Nat)} (h : Tm w bm K) : bm < w.heap.size := let ⟨_, h, _⟩ := h; h.lt
theorem Tm.aside {G : Nat → Prop} {w w' : World} {bm : Nat} {K : List (List UInt8 × Nat)} (h : Tm w bm K) (ha : Aside G w w') (hG : ¬ G bm) : Tm w' bm K := by
  have hlt := h.lt
  obtain ⟨D, ⟨es, clock, hb, r⟩, hR⟩ := h
  exact ⟨D, ⟨es, clock, (ha.block bm hlt hG).trans hb, r⟩, hR⟩

/-- Block p is a packer: it knows the tails K, in the map bm; its last name ended at e. -/
structure Pk (w : World) (p bm : Nat) (K : List (List UInt8 × Nat)) (e : Nat) : Prop where
  self : w.cell? ⟨p, 0, none⟩ = some (.pointer (some ⟨p, 0, none⟩))
  tails : w.cell? ⟨p, 1, none⟩ = some (.map (some bm))
  fin : w.cell? ⟨p, 2, none⟩ = some (.int .i64 e)
  free : ∀ j, w.frozen? ⟨p, j, none⟩ = false
  ne : p ≠ bm
  map : Tm w bm K

theorem Pk.lt {w : World} {p bm e : Nat} {K : List (List UInt8 × Nat)} (h : Pk w p bm K e) : p < w.heap.size := World.block_lt_of_cell? w _ h.self
theorem Pk.aside {G : Nat → Prop} {w w' : World} {p bm e : Nat} {K : List (List UInt8 × Nat)} (h : Pk w p bm K e) (ha : Aside G w w') (hp : ¬ G p) (hb : ¬ G bm) : Pk w' p bm K e :=
  ⟨ha.cell_lt h.self hp, ha.cell_lt h.tails hp, ha.cell_lt h.fin hp, fun j => (ha.frozen (p := ⟨p, j, none⟩) h.lt hp).trans (h.free j), h.ne, h.map.aside ha hb⟩
theorem Pk.later {w w' : World} {p bm e : Nat} {K : List (List UInt8 × Nat)} (h : Pk w p bm K e) (hb : Below w.heap.size w w') : Pk w' p bm K e :=
  h.aside (G := fun _ => False) (Aside.of_all hb) (fun h => h) (fun h => h)

end Go.Proofs.Ytcjgbholgbjejaa

/-
  Names that a packer tells are read at their places; plainly.
-/
namespace Go.Proofs.Ytcjgbholgbjejaa
open Go.RowKit Go.Shelf
set_option linter.unusedVariables false
set_option maxRecDepth 100000

/-- From the place i on, in a part that began at part, these labels stand. -/
inductive Stand (b : List UInt8) : Nat → Nat → List (List UInt8) → Prop
  | zero {part i : Nat} (h : i < b.length) (h0 : b[i].toNat = 0) : Stand b part i []
  | label {part i : Nat} {l : List UInt8} {r : List (List UInt8)} (h0 : 0 < l.length) (h1 : l.length ≤ 63) (h2 : i + (1 + l.length) ≤ b.length) (h3 : (b.drop i).take (1 + l.length) = wire [l]) (h : Stand b part (i + (1 + l.length)) r) : Stand b part i (l :: r)
  | lead {part i to : Nat} {r : List (List UInt8)} (h : i + 1 < b.length) (h0 : 192 ≤ (b[i]'(Nat.lt_of_succ_lt h)).toNat) (h1 : ptr (b[i]'(Nat.lt_of_succ_lt h)) (b[i + 1]'h) = to) (h2 : to < part) (h3 : Stand b to to r) : Stand b part i r

theorem Stand.more {b : List UInt8} {part i : Nat} {ls : List (List UInt8)} (h : Stand b part i ls) (c : List UInt8) : Stand (b ++ c) part i ls := by
  induction h with
  | zero h h0 => exact .zero (by rw [List.length_append]; omega) (by rw [List.getElem_append_left h]; exact h0)
  | label h0 h1 h2 h3 _ ih =>
    refine .label h0 h1 (by rw [List.length_append]; omega) ?_ ih
    rw [List.drop_append_of_le_length (by omega), List.take_append_of_le_length (by rw [List.length_drop]; omega)]
    exact h3
  | lead h h0 h1 h2 _ ih =>
    refine .lead (by rw [List.length_append]; omega) ?_ ?_ h2 ih
    · rw [List.getElem_append_left]; exact h0
    · rw [List.getElem_append_left, List.getElem_append_left h]; exact h1

theorem rd_of {b : List UInt8} {part i : Nat} {ls : List (List UInt8)} (h : Stand b part i ls) (a : Nat) : ∀ (next : Nat) (pre : List (List UInt8)), (wire (pre ++ ls)).length ≤ 254 → ∃ nx, rd b a part i next (wire pre) = (nm (pre ++ ls), nx, 0, 0) := by
  induction h with
  | zero h h0 =>
    intro next pre _
    rw [rd_zero h h0, List.append_nil]
    exact ⟨_, rfl⟩
  | @label part i l r h0 h1 h2 h3 _ ih =>
    intro next pre hl
    have hlt : i < b.length := by omega
    have hb : b[i].toNat = l.length := by
      have h4 := congrArg (fun x : List UInt8 => x[0]?) h3
      simp only [wire, List.append_nil, List.getElem?_take, List.getElem?_drop] at h4
      rw [if_pos (by omega), Nat.add_zero, List.getElem?_eq_getElem hlt] at h4
      have h5 : b[i] = UInt8.ofNat l.length := by simpa using h4
      rw [h5, UInt8.toNat_ofNat']
      omega
    have hw : (wire (pre ++ [l])).length = (wire pre).length + (1 + l.length) := wire_snoc pre l
    have hsplit : pre ++ l :: r = (pre ++ [l]) ++ r := by simp
    have hle : (wire (pre ++ [l])).length ≤ (wire (pre ++ l :: r)).length := by rw [hsplit, wire_app (pre ++ [l]) r, List.length_append]; omega
    rw [rd_label hlt (by omega) (by omega) (by omega) (by omega), hb, h3, ← wire_app, hsplit]
    exact ih next (pre ++ [l]) (by rw [← hsplit]; exact hl)
  | lead h h0 h1 h2 _ ih =>
    intro next pre hl
    rw [rd_go (Nat.lt_of_succ_lt h) h0 h (by omega), h1]
    exact ih _ pre hl

/-- What is known stands where it is known. -/
structure Inv (b : List UInt8) (K : List (List UInt8 × Nat)) (e : Nat) (P : List (List UInt8 × Nat)) : Prop where
  good : GoodK K
  last : e ≤ b.length
  ahead : ∀ p ∈ K, p.2 < e
  tails : ∀ ls x, Shorts ls → (nm ls, x) ∈ K → Stand b x x ls
  names : ∀ p ∈ P, ∃ ls, p.1 = nm ls ∧ Shorts ls ∧ Stand b p.2 p.2 ls ∧ p.2 < b.length

theorem Inv.nil : Inv [] [] 0 [] := ⟨good_nil, Nat.le_refl _, fun p h => by simp at h, fun ls x _ h => by simp at h, fun p h => by simp at h⟩

theorem Inv.more {b : List UInt8} {K : List (List UInt8 × Nat)} {e : Nat} {P : List (List UInt8 × Nat)} (h : Inv b K e P) (c : List UInt8) : Inv (b ++ c) K e P :=
  ⟨h.good, by rw [List.length_append]; have := h.last; omega, h.ahead, fun ls x hs hx => (h.tails ls x hs hx).more c, fun p hp => by
    obtain ⟨ls, h1, h2, h3, h4⟩ := h.names p hp
    exact ⟨ls, h1, h2, h3.more c, by rw [List.length_append]; omega⟩⟩

/-- What is read at a name's place. -/
theorem Inv.read {b : List UInt8} {K : List (List UInt8 × Nat)} {e : Nat} {P : List (List UInt8 × Nat)} (h : Inv b K e P) {n : List UInt8} {q : Nat} (hp : (n, q) ∈ P) :
    ∃ nx, rda b q = (n, nx, 0, 0) ∧ q < nx ∧ nx ≤ b.length := by
  obtain ⟨ls, h1, h2, h3, h4⟩ := h.names _ hp
  obtain ⟨nx, hr⟩ := rd_of h3 q 0 [] (by rw [List.nil_append]; exact h2.2)
  have hr' : rd b q q q 0 [] = (nm ls, nx, 0, 0) := hr
  have hn := rd_next b q q q [] (by simp) (by rw [hr'])
  rw [hr'] at hn
  refine ⟨nx, ?_, hn.1, hn.2.1⟩
  unfold rda
  have h5 : q < b.length := h4
  rw [if_neg (by omega), Int.toNat_natCast, hr', show n = nm ls from h1]
end Go.Proofs.Ytcjgbholgbjejaa

/-
  The data of a type, part by part, plainly: as a reader goes along them, and as the document cuts them.
-/
namespace Go.Proofs.Ytcjgbholgbjejaa
open Go.RowKit Go.Shelf
set_option linter.unusedVariables false
set_option maxRecDepth 100000

/-- What a part of data is. -/
inductive PK where
  | fix (n : Nat)
  | nam
  | txt
  | rst
deriving DecidableEq

/-- Of which parts the data of a type are. -/
def kinds (t : Int) : List PK :=
  if t = 1 then [.fix 4] else if t = 28 then [.fix 16] else if t = 2 ∨ t = 5 ∨ t = 12 then [.nam] else if t = 15 then [.fix 2, .nam] else if t = 6 then [.nam, .nam, .fix 20] else if t = 16 then [.txt] else [.rst]

/-- A piece: its bytes, and whether it is a name. -/
abbrev Pc := List UInt8 × Bool

/-- What reading one part comes to. -/
inductive PR where
  | ok (x : Pc) (q : Nat)
  | bad (e : Int) (a : Nat)

/-- What reading all parts comes to. -/
inductive RR where
  | ok (l : List Pc)
  | bad (e : Int) (a : Nat)

/-- The bytes from p up to q, if these are within the data. -/
def cutP (b : List UInt8) (s e p q : Nat) : PR := if e < q then .bad 4 s else .ok ((b.drop p).take (q - p), false) q

/-- Where the texts end that begin at a place; n: at most so many. -/
def txE (b : List UInt8) (e : Nat) : Nat → Nat → Option Nat
  | 0, _ => none
  | n + 1, p => if e < p + 1 then none else (let q := p + (1 + (b.getD p 0).toNat); if q < e then txE b e n q else some q)

/-- One part, from p on; s: where the data begin, e: where they end; F: how a name is read. -/
def stepP (F : Nat → Got) (b : List UInt8) (s e p : Nat) : PK → PR
  | .fix n => cutP b s e p (p + n)
  | .nam => if e < p + 1 then .bad 4 s else if (F p).2.2.1 ≠ 0 then .bad (F p).2.2.1 (F p).2.2.2 else if e < (F p).2.1 then .bad 4 s else .ok ((F p).1, true) (F p).2.1
  | .txt => match txE b e (e + 1) p with | none => .bad 4 s | some q => cutP b s e p q
  | .rst => cutP b s e p e

/-- All parts. -/
def goP (F : Nat → Got) (b : List UInt8) (s e : Nat) : List PK → Nat → List Pc → RR
  | [], p, acc => if p < e then .bad 4 s else .ok acc
  | k :: ks, p, acc => match stepP F b s e p k with | .ok x q => goP F b s e ks q (acc ++ [x]) | .bad c a => .bad c a

/-- A name that stands as its bytes. -/
def pln (b : List UInt8) (p : Nat) : Got := if (rda b p).2.2.1 ≠ 0 ∨ (rda b p).1 ≠ (b.drop p).take ((rda b p).2.1 - p) then ([], 0, 4, 0) else ((rda b p).1, (rda b p).2.1, 0, 0)

/-- The pieces of data, or why they are not those of the type. -/
def spl (t : Int) (d : List UInt8) : RR := if t < 0 ∨ 65535 < t then .bad 5 0 else if 65535 < d.length then .bad 3 0 else goP (pln d) d 0 d.length (kinds t) 0 []

def RR.code : RR → Int
  | .ok _ => 0
  | .bad e _ => e
def RR.place : RR → Nat
  | .ok _ => 0
  | .bad _ a => a

/-! ### as the document cuts them -/

/-- How far the labels go with which bytes begin, whatever they are: the place of a byte 0. -/
def frt (s : List UInt8) : Nat → Nat → Option Nat
  | 0, _ => none
  | n + 1, p => if h : p < s.length then (if s[p].toNat = 0 then some p else frt s n (p + (1 + s[p].toNat))) else none
def front (s : List UInt8) : Option Nat := match frt s (s.length + 1) 0 with | none => none | some p => if chk (s.take (p + 1)) = 0 then some (p + 1) else none

/-- Are bytes one text or more? -/
def txs (s : List UInt8) : Nat → Nat → Bool
  | 0, _ => false
  | n + 1, p => if h : p < s.length then txs s n (p + (1 + s[p].toNat)) else decide (p = s.length)
def texts (s : List UInt8) : Bool := decide (s ≠ []) && txs s (s.length + 1) 0

/-- How long a part is. -/
def lenP (s : List UInt8) : PK → Option Nat
  | .fix n => if n ≤ s.length then some n else none
  | .nam => front s
  | .txt => if texts s then some s.length else none
  | .rst => some s.length

/-- Is a part a name? -/
def PK.isNam : PK → Bool
  | .nam => true
  | _ => false

/-- The pieces, and what is left. -/
def cuts : List PK → List UInt8 → Option (List Pc × List UInt8)
  | [], s => some ([], s)
  | k :: ks, s => match lenP s k with | none => none | some n => (cuts ks (s.drop n)).map fun r => ((s.take n, k.isNam) :: r.1, r.2)

end Go.Proofs.Ytcjgbholgbjejaa

/-
  A reader of data in memory: fail, reach.
-/
namespace Go.Proofs.Ytcjgbholgbjejaa
open Go.RowKit Go.Shelf
set_option linter.unusedVariables false
set_option linter.unusedSimpArgs false
set_option maxRecDepth 100000

/-- What a reader's parts turn: its own block, and what is new. -/
def RG (B r : Nat) (b : Nat) : Prop := b = r ∨ B ≤ b

section
variable {w w' : World} {B r s p e : Nat} {vb vf : Value} {acc : List Pc}
end

end Go.Proofs.Ytcjgbholgbjejaa

/-
  A reader of data in memory: name.
-/
namespace Go.Proofs.Ytcjgbholgbjejaa
open Go.RowKit Go.Shelf
set_option linter.unusedVariables false
set_option linter.unusedSimpArgs false
set_option maxRecDepth 100000

/-- How names are read: F tells it of the function value vf, wherever a reader goes from w on. -/
def FindOk (w : World) (B r f : Nat) (vb : Value) (F : Nat → Got) : Prop := ∀ wx, Aside (RG B r) w wx → ∀ p : Nat, Calls Try.prog f #[vb, .int .i64 p] wx (Tells wx (gotV (F p)))

theorem FindOk.later {w w' : World} {B r f : Nat} {vb : Value} {F : Nat → Got} (h : FindOk w B r f vb F) (ha : Aside (RG B r) w w') : FindOk w' B r f vb F := fun wx hx p => h wx (ha.trans hx) p

end Go.Proofs.Ytcjgbholgbjejaa

/-
  The map of parts, in memory; parts.
-/
namespace Go.Proofs.Ytcjgbholgbjejaa
open Go.RowKit Go.Shelf
set_option linter.unusedVariables false
set_option linter.unusedSimpArgs false
set_option maxRecDepth 100000

/-- A value reads as itself. -/
def heldR (v : Value) : Option (DataW Value × List MemPlace) := some (.held v, [])

def vof (rows : List (Int × Value)) (t : Int) : Option Value := (rows.find? (fun p => p.1 == t)).map (·.2)
/-- The map's datum tells these rows. -/
def RepM (D : DataW Value) (rows : List (Int × Value)) : Prop :=
  Maps.IsMap D ∧ ∀ t : Int, Maps.has D (.int .i64 t) = (vof rows t).isSome ∧ (∀ v, vof rows t = some v → ∀ z, D.atKey (.int .i64 t) z = .held v)

/-- Block bm is a map of these rows. -/
def Pm (w : World) (bm : Nat) (rows : List (Int × Value)) : Prop := ∃ D : DataW Value, w.ownsMap Try.prog 3 heldR bm rows.length D ∧ RepM D rows

theorem Pm.lt {w : World} {bm : Nat} {rows : List (Int × Value)} (h : Pm w bm rows) : bm < w.heap.size := let ⟨_, h, _⟩ := h; h.lt
theorem Pm.aside {G : Nat → Prop} {w w' : World} {bm : Nat} {rows : List (Int × Value)} (h : Pm w bm rows) (ha : Aside G w w') (hG : ¬ G bm) : Pm w' bm rows := by
  have hlt := h.lt
  obtain ⟨D, ⟨es, clock, hb, r⟩, hR⟩ := h
  exact ⟨D, ⟨es, clock, (ha.block bm hlt hG).trans hb, r⟩, hR⟩
theorem Pm.later {w w' : World} {bm : Nat} {rows : List (Int × Value)} (h : Pm w bm rows) (hb : Below w.heap.size w w') : Pm w' bm rows := h.aside (G := fun _ => False) (Aside.of_all hb) (fun h => h)

end Go.Proofs.Ytcjgbholgbjejaa

/-
  Names, and where they end; texts; plainly.
-/
namespace Go.Proofs.Ytcjgbholgbjejaa
open Go.RowKit Go.Shelf
set_option linter.unusedVariables false
set_option maxRecDepth 100000

/-- As Stand, and where the first part ends. -/
inductive StandE (b : List UInt8) : Nat → Nat → List (List UInt8) → Nat → Prop
  | zero {part i : Nat} (h : i < b.length) (h0 : b[i].toNat = 0) : StandE b part i [] (i + 1)
  | label {part i en : Nat} {l : List UInt8} {r : List (List UInt8)} (h0 : 0 < l.length) (h1 : l.length ≤ 63) (h2 : i + (1 + l.length) ≤ b.length) (h3 : (b.drop i).take (1 + l.length) = wire [l]) (h : StandE b part (i + (1 + l.length)) r en) : StandE b part i (l :: r) en
  | lead {part i to : Nat} {r : List (List UInt8)} (h : i + 1 < b.length) (h0 : 192 ≤ (b[i]'(Nat.lt_of_succ_lt h)).toNat) (h1 : ptr (b[i]'(Nat.lt_of_succ_lt h)) (b[i + 1]'h) = to) (h2 : to < part) (h3 : Stand b to to r) : StandE b part i r (i + 2)

theorem StandE.more {b : List UInt8} {part i en : Nat} {ls : List (List UInt8)} (h : StandE b part i ls en) (c : List UInt8) : StandE (b ++ c) part i ls en := by
  induction h with
  | zero h h0 => exact .zero (by rw [List.length_append]; omega) (by rw [List.getElem_append_left h]; exact h0)
  | label h0 h1 h2 h3 _ ih =>
    refine .label h0 h1 (by rw [List.length_append]; omega) ?_ ih
    rw [List.drop_append_of_le_length (by omega), List.take_append_of_le_length (by rw [List.length_drop]; omega)]
    exact h3
  | lead h h0 h1 h2 h3 =>
    refine .lead (by rw [List.length_append]; omega) ?_ ?_ h2 (h3.more c)
    · rw [List.getElem_append_left]; exact h0
    · rw [List.getElem_append_left, List.getElem_append_left h]; exact h1

theorem StandE.lt {b : List UInt8} {part i en : Nat} {ls : List (List UInt8)} (h : StandE b part i ls en) : i < en ∧ en ≤ b.length := by
  induction h with
  | zero h h0 => omega
  | label h0 h1 h2 h3 _ ih => omega
  | lead h h0 h1 h2 h3 => omega

end Go.Proofs.Ytcjgbholgbjejaa

/-
  Question: what is read, the walk.
-/
namespace Go.Proofs.Ytcjgbholgbjejaa
open Go.RowKit Go.Shelf
set_option linter.unusedVariables false
set_option linter.unusedSimpArgs false
set_option maxRecDepth 100000

/-- The reader behind each part, and what each part comes to. -/
def s1 (b : List UInt8) (a : Int) : RS := stN b ⟨a, 0, 0⟩
def s2 (b : List UInt8) (a : Int) : RS := st2 b (s1 b a)
def s3 (b : List UInt8) (a : Int) : RS := st2 b (s2 b a)
def s4 (b : List UInt8) (a : Int) : RS := st4 b (s3 b a)
end Go.Proofs.Ytcjgbholgbjejaa

/-
  Rows beside each other: bytes, numbers, texts; appends to them.
-/
namespace Go.Proofs.Ytcjgbholgbjejaa
open Go.RowKit Go.Shelf
set_option linter.unusedVariables false
set_option maxRecDepth 100000

/-- A row of numbers of the call's own. -/
def iv (l : List Nat) : List Value := l.map fun x : Nat => Value.int .i64 (x : Int)
def OwnI (w : World) (B : Nat) (v : Value) (l : List Nat) : Prop := OwnZ w B 3 (.int .i64 0) v (iv l)

theorem iv_len (l : List Nat) : (iv l).length = l.length := by simp [iv]
theorem OwnI.nil (w : World) (B : Nat) : OwnI w B (.slice .none 0 0) [] := OwnZ.nil _ _ _ _
theorem OwnI.shape {w : World} {B : Nat} {v : Value} {l : List Nat} (h : OwnI w B v l) : ∃ a c, v = .slice a l.length c := by
  rcases h with ⟨rfl, h0⟩ | ⟨g, cap, rfl, _⟩
  · have : l = [] := by simpa [iv] using h0
    subst this
    exact ⟨.none, 0, rfl⟩
  · exact ⟨_, cap, by rw [iv_len]⟩
theorem OwnI.at_ {w : World} {B : Nat} {v : Value} {l : List Nat} (h : OwnI w B v l) (j : Nat) (hj : j < l.length) : ∃ g c, v = .slice (some ⟨g, 0, none⟩) l.length c ∧ w.cell? ⟨g, j, none⟩ = some (.int .i64 (l[j] : Nat)) := by
  rcases h with ⟨_, h0⟩ | ⟨g, cap, rfl, _, hl, _, hh⟩
  · have : l = [] := by simpa [iv] using h0
    subst this
    simp at hj
  · refine ⟨g, cap, by rw [iv_len], ?_⟩
    rw [World.cell?, hh]
    simp [iv, List.getElem?_append_left, hj]
theorem OwnT.at_ {w : World} {B : Nat} {v : Value} {l : List (List UInt8)} (h : OwnT w B v l) (j : Nat) (hj : j < l.length) : ∃ g c, v = .slice (some ⟨g, 0, none⟩) l.length c ∧ w.cell? ⟨g, j, none⟩ = some (.string (bs l[j])) := by
  rcases h with ⟨_, h0⟩ | ⟨g, cap, rfl, _, hl, _, hh⟩
  · have : l = [] := by simpa using h0
    subst this
    simp at hj
  · refine ⟨g, cap, by rw [List.length_map], ?_⟩
    rw [World.cell?, hh]
    simp [List.getElem?_append_left, hj, tv]
theorem OwnZ.but {w w' : World} {B : Nat} {e : TypeId} {z v : Value} {cs : List Value} {G : Nat → Prop} (h : OwnZ w B e z v cs) (ha : Aside G w w') (hG : ∀ b, v.ownBlock = some b → ¬ G b) : OwnZ w' B e z v cs := by
  have hlt := h.lt
  rcases h with h2 | ⟨g, cap, hv, hg, h1, h2, hh⟩
  · exact .inl h2
  · exact .inr ⟨g, cap, hv, hg, h1, h2, (ha.block g (by subst hv; exact (hlt g rfl).2) (hG g (by rw [hv]; rfl))).trans hh⟩

/-- What a row's append may turn. -/
theorem aside_grown {w w' : World} {v : Value} (h : w.grownBy w' v.ownBlock) : Aside (fun b => v.ownBlock = some b) w w' := Aside.grown h fun _ h => h

/-- append of no bytes. -/
theorem run_appB0 {w : World} (B : Nat) (v : Value) (l : List UInt8) (ad : Option Addr) (c : Nat) (hown : OwnB w B v l) :
    (Builtin.append_ #[67, 67] 67 #[v, .slice ad 0 c]).run Try.prog w = .ok v w := by
  obtain ⟨i0, hi, hz0, hz1, hz2⟩ := info_parts Try.info5
  rcases hown with ⟨rfl, rfl⟩ | ⟨g, cap, fz, rfl, hbg, hlc, hcm, hfz, hg⟩
  · cases ad <;> simp [Builtin.append_, run_underlying Try.underlying67, sizeOf, typeInfo, hi, Builtin.lenOf, Builtin.firstCells, loadCells, loadCellsFrom]
  · cases ad <;> simp [Builtin.append_, run_underlying Try.underlying67, sizeOf, typeInfo, hi, Builtin.lenOf, Builtin.firstCells, loadCells, loadCellsFrom, storeCells, hlc]

/-- append of any bytes. -/
theorem run_appBs {w : World} (B : Nat) (v xv : Value) (l l' : List UInt8) {lo hi : Nat} (hown : OwnB w B v l) (hx : Sl w lo hi xv (iz l')) (hb : l.length + l'.length ≤ 1000000) (hB : B ≤ w.heap.size) :
    ∃ a' c' w', (Builtin.append_ #[67, 67] 67 #[v, xv]).run Try.prog w = .ok (.slice a' (l.length + l'.length) c') w' ∧ OwnB w' B (.slice a' (l.length + l'.length) c') (l ++ l') ∧ Aside (fun b => v.ownBlock = some b) w w' := by
  rcases Nat.eq_zero_or_pos l'.length with h0 | h0
  · have : l' = [] := List.eq_nil_of_length_eq_zero h0
    subst this
    obtain ⟨ad, c, rfl, _⟩ := hx
    have h1 := run_appB0 B v l ad c hown
    obtain ⟨a', c', rfl⟩ := hown.shape
    exact ⟨a', c', w, h1, by rw [List.append_nil]; exact hown, Aside.refl _ _⟩
  · obtain ⟨v', w', h1, h2, h3, _⟩ := run_appB B v xv l l' hown hx h0 hb hB
    obtain ⟨a', c', hv⟩ := h2.shape
    rw [List.length_append] at hv
    subst hv
    exact ⟨a', c', w', h1, h2, aside_grown h3⟩

end Go.Proofs.Ytcjgbholgbjejaa

/-
  Records: whether one may be, its lower form, which are the same.
-/
namespace Go.Proofs.Ytcjgbholgbjejaa
open Go.RowKit Go.Shelf
set_option linter.unusedVariables false
set_option linter.unusedSimpArgs false
set_option maxRecDepth 100000

/-- A record: its name, its type, its class, its TTL, its data. -/
structure Rc where
  n : List UInt8
  t : Int
  c : Int
  l : Int
  d : List UInt8

end Go.Proofs.Ytcjgbholgbjejaa

/-
  A record's lower form; which records are the same.
-/
namespace Go.Proofs.Ytcjgbholgbjejaa
open Go.RowKit Go.Shelf
set_option linter.unusedVariables false
set_option linter.unusedSimpArgs false
set_option maxRecDepth 100000

theorem Cel.five {w : World} {q : Nat} {a b c d e : Value} (h : Cel w q [a, b, c, d, e]) : w.cell? ⟨q, 0, none⟩ = some a ∧ w.cell? ⟨q, 1, none⟩ = some b ∧ w.cell? ⟨q, 2, none⟩ = some c ∧ w.cell? ⟨q, 3, none⟩ = some d ∧ w.cell? ⟨q, 4, none⟩ = some e :=
  ⟨h.c 0 (by simp), h.c 1 (by simp), h.c 2 (by simp), h.c 3 (by simp), h.c 4 (by simp)⟩

theorem cel_new (w : World) (a b c d e : Value) (T : TypeId) : Cel (w.alloc (.cells #[a, b, c, d, e] T)) w.heap.size [a, b, c, d, e] := ⟨fun j hj => by
    match j, hj with
    | 0, _ => simp [go_sem]
    | 1, _ => simp [go_sem]
    | 2, _ => simp [go_sem]
    | 3, _ => simp [go_sem]
    | 4, _ => simp [go_sem], fun j => by simp [go_sem]⟩

end Go.Proofs.Ytcjgbholgbjejaa

/-
  Write: plainly; what it asks of the packer.
-/
namespace Go.Proofs.Ytcjgbholgbjejaa
open Go.RowKit Go.Shelf
set_option linter.unusedVariables false
set_option linter.unusedSimpArgs false
set_option maxRecDepth 100000

/-- Tails, and where the last name ended; what was told. -/
abbrev KK := List (List UInt8 × Nat)
structure WR where
  out : List UInt8
  code : Int
  K : KK
  e : Nat

end Go.Proofs.Ytcjgbholgbjejaa

/-
  Numbers as bytes; whether a packer was made; a question's bytes.
-/
namespace Go.Proofs.Ytcjgbholgbjejaa
open Go.RowKit Go.Shelf
set_option linter.unusedVariables false
set_option linter.unusedSimpArgs false
set_option maxRecDepth 100000

def two (n : Int) : List UInt8 := [UInt8.ofNat (n.toNat / 256), UInt8.ofNat (n.toNat % 256)]
def four (n : Int) : List UInt8 := [UInt8.ofNat (n.toNat / 16777216), UInt8.ofNat (n.toNat / 65536 % 256), UInt8.ofNat (n.toNat / 256 % 256), UInt8.ofNat (n.toNat % 256)]

theorem cel_new3 (w : World) (a b c : Value) (T : TypeId) : Cel (w.alloc (.cells #[a, b, c] T)) w.heap.size [a, b, c] := ⟨fun j hj => by
    match j, hj with
    | 0, _ => simp [go_sem]
    | 1, _ => simp [go_sem]
    | 2, _ => simp [go_sem], fun j => by simp [go_sem]⟩

end Go.Proofs.Ytcjgbholgbjejaa

/-
  Acts that came in: types, places, whether these are places as they are, data.
-/
namespace Go.Proofs.Ytcjgbholgbjejaa
open Go.RowKit Go.Shelf
set_option linter.unusedVariables false
set_option maxRecDepth 100000

/-- A type, a number, whether it is a place as it is, data. -/
structure AQ where
  t : Int
  a : Int
  r : Bool
  d : List UInt8

/-- The cells of an act. -/
def AtQ (w : World) (b o : Nat) (x : AQ) : Prop :=
  w.cell? ⟨b, o, none⟩ = some (.int .i64 x.t) ∧ w.cell? ⟨b, o + 1, none⟩ = some (.int .i64 x.a) ∧ w.cell? ⟨b, o + 2, none⟩ = some (.bool x.r) ∧ w.cell? ⟨b, o + 3, none⟩ = some (.string (bs x.d))

/-- The slice v reads as these acts; what it leads to lies in blocks below hi. -/
def Aq (w : World) (hi : Nat) (v : Value) (l : List AQ) : Prop :=
  ∃ a c, v = .slice a l.length c ∧ (0 < l.length → ∃ b off, a = some ⟨b, off, none⟩ ∧ b < hi ∧ ∀ j (h : j < l.length), AtQ w b (off + j * 4) l[j] ∧ (Lit.int .i64 l[j].t).wf = true ∧ (Lit.int .i64 l[j].a).wf = true)

theorem AtQ.keep {w w' : World} {b o : Nat} {x : AQ} (h : AtQ w b o x) (hk : ∀ o, w'.cell? ⟨b, o, none⟩ = w.cell? ⟨b, o, none⟩) : AtQ w' b o x :=
  ⟨(hk _).trans h.1, (hk _).trans h.2.1, (hk _).trans h.2.2.1, (hk _).trans h.2.2.2⟩

theorem Aq.below {w w' : World} {hi B : Nat} {v : Value} {l : List AQ} (h : Aq w hi v l) (hb : Below B w w') (hB : hi ≤ B) : Aq w' hi v l := by
  obtain ⟨a, c, rfl, hx⟩ := h
  refine ⟨a, c, rfl, fun h0 => ?_⟩
  obtain ⟨b, off, rfl, h1, h2⟩ := hx h0
  refine ⟨b, off, rfl, h1, fun j hj => ?_⟩
  obtain ⟨c0, c1⟩ := h2 j hj
  exact ⟨c0.keep fun o => hb.cell (p := ⟨b, o, none⟩) (Nat.lt_of_lt_of_le h1 hB), c1⟩

end Go.Proofs.Ytcjgbholgbjejaa

/-
  What is written is read as it was; plainly.
-/
namespace Go.Proofs.Ytcjgbholgbjejaa
open Go.RowKit Go.Shelf
set_option linter.unusedVariables false
set_option maxRecDepth 100000

/-- From p up to q these pieces stand. -/
inductive Lies (b : List UInt8) : Nat → List Pc → Nat → Prop
  | nil {p : Nat} (h : p ≤ b.length) : Lies b p [] p
  | byt {p q : Nat} {x : List UInt8} {L : List Pc} (h : (b.drop p).take x.length = x) (h2 : p + x.length ≤ b.length) (r : Lies b (p + x.length) L q) : Lies b p ((x, false) :: L) q
  | nam {p q en : Nat} {ls : List (List UInt8)} {L : List Pc} (hs : Shorts ls) (h : StandE b p p ls en) (r : Lies b en L q) : Lies b p ((nm ls, true) :: L) q

theorem Lies.more {b : List UInt8} {p q : Nat} {L : List Pc} (h : Lies b p L q) (c : List UInt8) : Lies (b ++ c) p L q := by
  induction h with
  | nil h => exact .nil (by rw [List.length_append]; omega)
  | byt h h2 _ ih =>
    refine .byt ?_ (by rw [List.length_append]; omega) ih
    rw [List.drop_append_of_le_length (by omega), List.take_append_of_le_length (by rw [List.length_drop]; omega)]
    exact h
  | nam hs h _ ih => exact .nam hs (h.more c) ih

end Go.Proofs.Ytcjgbholgbjejaa

/-
  What was written and its reading: rows, round for round.
-/
namespace Go.Proofs.Ytcjgbholgbjejaa
open Go.RowKit Go.Shelf
set_option linter.unusedVariables false
set_option linter.unusedSimpArgs false
set_option maxRecDepth 100000

section
variable {w w' : World} {B B' : Nat} {e e' : TypeId} {k k' n n' : Nat} {v v' : Value} {xs ys : List Value} {G : Nat → Prop}
theorem row_aside (h : w.ownsRow B e k v n xs) (ha : Aside G w w') (hG : ∀ b, v.ownBlock = some b → ¬ G b) : w'.ownsRow B e k v n xs := by
  have hlt := World.ownsRow.lt h
  refine ⟨h.1, ?_⟩
  rcases h.2 with h2 | ⟨g, cap, cur, hv, hg, hh, r⟩
  · exact .inl h2
  · exact .inr ⟨g, cap, cur, hv, hg, (ha.block g (by subst hv; exact (hlt g rfl).2) (hG g (by rw [hv]; rfl))).trans hh, r⟩
theorem row_below (h : w.ownsRow B e k v n xs) (hb : Below w.heap.size w w') : w'.ownsRow B e k v n xs := row_aside (G := fun _ => False) h (Aside.of_all hb) fun _ _ h => h
theorem row_shape (h : w.ownsRow B e k v n xs) : ∃ a c, v = .slice a n c := by
  rcases h.2 with ⟨rfl, h0⟩ | ⟨g, cap, cur, rfl, _⟩
  · exact ⟨none, 0, by rw [h0]⟩
  · exact ⟨_, cap, rfl⟩
end

/-- v is a row of numbers of the call's own. -/
def OwnJ (w : World) (B : Nat) (v : Value) (l : List Nat) : Prop := w.ownsRow B 3 1 v l.length (iv l)
theorem OwnJ.at_ {w : World} {B : Nat} {v : Value} {l : List Nat} (h : OwnJ w B v l) (j : Nat) (hj : j < l.length) : ∃ g c, v = .slice (some ⟨g, 0, none⟩) l.length c ∧ w.cell? ⟨g, j, none⟩ = some (.int .i64 (l[j] : Int)) := by
  have hc := fun g hg => World.ownsRow.cells h (g := g) hg
  rcases h.2 with ⟨rfl, h0⟩ | ⟨g, cap, cur, rfl, _⟩
  · omega
  · have e1 := hc g rfl j (.int .i64 (l[j] : Int)) (by unfold iv; rw [List.getElem?_map, List.getElem?_eq_getElem hj]; rfl)
    rw [WideShapes.add_plain, Nat.zero_add] at e1
    exact ⟨g, cap, rfl, e1⟩
section
variable {w wr w' : World} {p bm B0 e : Nat} {v7 v8 v9 v10 : Value} {b : List UInt8} {q s : List Nat} {n : List AQ} {K : KK}

end

end Go.Proofs.Ytcjgbholgbjejaa

/-
  What is written is read as it was; plainly.
-/
namespace Go.Proofs.Ytcjgbholgbjejaa
open Go.RowKit Go.Shelf
set_option linter.unusedVariables false
set_option linter.unusedSimpArgs false
set_option maxRecDepth 100000

theorem getD_ahead (b c : List UInt8) (k : Nat) (h : k < b.length) : (iz (b ++ c)).getD k 0 = (iz b).getD k 0 := by
  rw [iz_app, List.getD, List.getD, List.getElem?_append_left (by rw [iz_len]; exact h)]
theorem at2_more {b : List UInt8} {i : Nat} (c : List UInt8) (h : i + 2 ≤ b.length) : nAt2 (iz (b ++ c)) i = nAt2 (iz b) i := by
  unfold nAt2
  rw [getD_ahead b c i (by omega), getD_ahead b c (i + 1) (by omega)]
theorem at4_more {b : List UInt8} {i : Nat} (c : List UInt8) (h : i + 4 ≤ b.length) : nAt4 (iz (b ++ c)) i = nAt4 (iz b) i := by
  unfold nAt4
  rw [getD_ahead b c i (by omega), getD_ahead b c (i + 1) (by omega), getD_ahead b c (i + 2) (by omega), getD_ahead b c (i + 3) (by omega)]

/-- A question stands at p; its name ends at i. -/
def LiesQ (b : List UInt8) (p : Nat) (x : Rc) (i : Nat) : Prop :=
  ∃ ls, Shorts ls ∧ x.n = nm ls ∧ StandE b p p ls i ∧ i + 4 ≤ b.length ∧ nAt2 (iz b) i = x.t ∧ nAt2 (iz b) (i + 2) = x.c

/-- A record stands from p up to en. -/
def LiesR (b : List UInt8) (p : Nat) (x : Rc) (i en : Nat) : Prop :=
  i + 10 ≤ b.length ∧ nAt4 (iz b) (i + 4) = x.l ∧ ∃ (m : Nat) (L : List Pc), nAt2 (iz b) (i + 8) = m ∧ m ≤ 65535 ∧ spl x.t x.d = .ok L ∧ Lies b (i + 10) L (i + 10 + m) ∧ en = i + 10 + m

theorem LiesQ.more {b : List UInt8} {p : Nat} {x : Rc} {i : Nat} (h : LiesQ b p x i) (c : List UInt8) : LiesQ (b ++ c) p x i := by
  obtain ⟨ls, h1, h2, h3, h4, h5, h6⟩ := h
  exact ⟨ls, h1, h2, h3.more c, by rw [List.length_append]; omega, by rw [at2_more c (by omega)]; exact h5, by rw [at2_more c (by omega)]; exact h6⟩
theorem LiesR.more {b : List UInt8} {p : Nat} {x : Rc} {i en : Nat} (h : LiesR b p x i en) (c : List UInt8) : LiesR (b ++ c) p x i en := by
  obtain ⟨h1, h2, m, L, h3, h4, h5, h6, h7⟩ := h
  exact ⟨by rw [List.length_append]; omega, by rw [at4_more c (by omega)]; exact h2, m, L, by rw [at2_more c (by omega)]; exact h3, h4, h5, h6.more c, h7⟩

end Go.Proofs.Ytcjgbholgbjejaa

/-
  Messages, plainly: whether one may be, its bytes, and that what is written stands.
-/
namespace Go.Proofs.Ytcjgbholgbjejaa
open Go.RowKit Go.Shelf
set_option linter.unusedVariables false
set_option linter.unusedSimpArgs false
set_option maxRecDepth 100000

/-- A question. -/
structure Qn where
  n : List UInt8
  t : Int
  c : Int

/-- What stands in a message, one behind the other: questions, records. -/
inductive It where
  | q (x : Qn)
  | r (x : Rc)

def Qn.rc (x : Qn) : Rc := ⟨x.n, x.t, x.c, 0, []⟩

/-- A message. -/
structure Ms where
  id : Int
  fl : Int
  q : List Qn
  an : List Rc
  ns : List Rc
  ar : List Rc

/-- All that stands in a message. -/
def Ms.its (m : Ms) : List It := m.q.map .q ++ (m.an.map .r ++ (m.ns.map .r ++ m.ar.map .r))

/-- One of these stands from p up to en. -/
def LiesI (b : List UInt8) (p : Nat) : It → Nat → Prop
  | .q x, en => ∃ i, LiesQ b p x.rc i ∧ en = i + 4
  | .r x, en => ∃ i, LiesQ b p x i ∧ LiesR b p x i en

inductive LiesIs (b : List UInt8) : Nat → List It → Nat → Prop
  | nil {p : Nat} : LiesIs b p [] p
  | cons {p q en : Nat} {it : It} {l : List It} (h : LiesI b p it q) (r : LiesIs b q l en) : LiesIs b p (it :: l) en

theorem LiesI.more {b : List UInt8} {p : Nat} {it : It} {en : Nat} (h : LiesI b p it en) (c : List UInt8) : LiesI (b ++ c) p it en := by
  cases it with
  | q x => obtain ⟨i, h1, h2⟩ := h; exact ⟨i, h1.more c, h2⟩
  | r x => obtain ⟨i, h1, h2⟩ := h; exact ⟨i, h1.more c, h2.more c⟩

theorem LiesIs.more {b : List UInt8} {p : Nat} {l : List It} {en : Nat} (h : LiesIs b p l en) (c : List UInt8) : LiesIs (b ++ c) p l en := by
  induction h with
  | nil => exact .nil
  | cons h _ ih => exact .cons (h.more c) ih

theorem LiesIs.app {b : List UInt8} : ∀ {l l' : List It} {p en : Nat}, LiesIs b p (l ++ l') en → ∃ q, LiesIs b p l q ∧ LiesIs b q l' en
  | [], l', p, en, h => ⟨p, .nil, h⟩
  | it :: l, l', p, en, h => by
    cases h with
    | cons h r =>
      obtain ⟨q, h1, h2⟩ := LiesIs.app r
      exact ⟨q, .cons h h1, h2⟩

end Go.Proofs.Ytcjgbholgbjejaa

/-
  Rows of cells in memory: what a slice reads as, and append of it to a row of the call's own.
-/
namespace Go.Proofs.Ytcjgbholgbjejaa
open Go.RowKit Go.Shelf
set_option linter.unusedVariables false
set_option linter.unusedSimpArgs false
set_option maxRecDepth 100000

section
variable {α : Type} {f : α → List Value} {k : Nat}
theorem flat_len (hf : ∀ x, (f x).length = k) (l : List α) : (l.flatMap f).length = l.length * k := by
  induction l with
  | nil => simp
  | cons x r ih => rw [List.flatMap_cons, List.length_append, ih, hf, List.length_cons, Nat.add_mul, Nat.one_mul, Nat.add_comm]
theorem flat_at (hf : ∀ x, (f x).length = k) : ∀ (l : List α) (j : Nat) (h : j < l.length) (i : Nat) (u : Value), (f l[j])[i]? = some u → (l.flatMap f)[j * k + i]? = some u
  | [], j, h, _, _, _ => by simp at h
  | x :: r, 0, h, i, u, hu => by
    have hi : i < k := by have := (List.getElem?_eq_some_iff.mp hu).1; simpa [hf] using this
    rw [List.flatMap_cons, Nat.zero_mul, Nat.zero_add, List.getElem?_append_left (by rw [hf]; exact hi)]
    exact hu
  | x :: r, j + 1, h, i, u, hu => by
    have ih := flat_at hf r j (by simpa using h) i u hu
    rw [List.flatMap_cons, List.getElem?_append_right (by rw [hf, Nat.add_mul]; omega)]
    rw [hf, show (j + 1) * k + i - k = j * k + i by rw [Nat.add_mul]; omega]
    exact ih
theorem flat_one (h1 : ∀ x, ∀ u ∈ f x, u.oneCell' = true) (l : List α) : ∀ u ∈ l.flatMap f, u.oneCell' = true := by
  intro u hu
  obtain ⟨x, _, hx⟩ := List.mem_flatMap.mp hu
  exact h1 x u hx
end

/-- The slice v, of n entries, reads as these cells; what it leads to lies in a block below hi. -/
def Lst (w : World) (hi : Nat) (v : Value) (n : Nat) (xs : List Value) : Prop :=
  ∃ a c, v = .slice a n c ∧ n ≤ 140737488351232 ∧ (a = none → n = 0 ∧ c = 0) ∧ (0 < n → ∃ b off, a = some ⟨b, off, none⟩ ∧ b < hi ∧ ∀ i u, xs[i]? = some u → w.cell? ⟨b, off + i, none⟩ = some u)

section
variable {w w' : World} {hi n : Nat} {v : Value} {xs : List Value}
theorem Lst.keep (h : Lst w hi v n xs) (hk : ∀ b o, b < hi → w'.cell? ⟨b, o, none⟩ = w.cell? ⟨b, o, none⟩) : Lst w' hi v n xs := by
  obtain ⟨a, c, rfl, hn, h0, hx⟩ := h
  refine ⟨a, c, rfl, hn, h0, fun hp => ?_⟩
  obtain ⟨b, off, rfl, h1, h2⟩ := hx hp
  exact ⟨b, off, rfl, h1, fun i u hu => (hk b _ h1).trans (h2 i u hu)⟩
theorem Lst.below {B : Nat} (h : Lst w hi v n xs) (hb : Below B w w') (hB : hi ≤ B) : Lst w' hi v n xs :=
  h.keep fun b o h1 => hb.cell (p := ⟨b, o, none⟩) (Nat.lt_of_lt_of_le h1 hB)
theorem Lst.wide {hi' : Nat} (h : Lst w hi v n xs) (hh : hi ≤ hi') : Lst w hi' v n xs := by
  obtain ⟨a, c, rfl, hn, h0, hx⟩ := h
  refine ⟨a, c, rfl, hn, h0, fun hp => ?_⟩
  obtain ⟨b, off, rfl, h1, h2⟩ := hx hp
  exact ⟨b, off, rfl, Nat.lt_of_lt_of_le h1 hh, h2⟩
theorem Lst.later (h : Lst w w.heap.size v n xs) (hb : Below w.heap.size w w') : Lst w' w'.heap.size v n xs := (h.below hb (Nat.le_refl _)).wide hb.size
theorem Lst.shape (h : Lst w hi v n xs) : ∃ a c, v = .slice a n c := by obtain ⟨a, c, rfl, _⟩ := h; exact ⟨a, c, rfl⟩
theorem Lst.len (h : Lst w hi v n xs) : n ≤ 140737488351232 := by obtain ⟨_, _, _, hn, _⟩ := h; exact hn
theorem Lst.nil (w : World) (hi : Nat) : Lst w hi (.slice none 0 0) 0 [] := ⟨none, 0, rfl, by omega, fun _ => ⟨rfl, rfl⟩, fun h => by omega⟩
theorem Lst.own {B k : Nat} {e : TypeId} (h : w.ownsRow B e k v n xs) (hn : n ≤ 1000000) : Lst w w.heap.size v n xs := by
  have hc := fun g hg => World.ownsRow.cells h (g := g) hg
  have hl := fun b hb => (World.ownsRow.lt h b hb).2
  rcases h.2 with ⟨rfl, h0⟩ | ⟨g, cap, cur, rfl, _⟩
  · subst h0
    exact ⟨none, 0, rfl, by omega, fun _ => ⟨rfl, rfl⟩, fun h => by omega⟩
  · refine ⟨_, cap, rfl, by omega, fun h => by simp at h, fun _ => ⟨g, 0, rfl, hl g rfl, fun i u hu => ?_⟩⟩
    have := hc g rfl i u hu
    rwa [WideShapes.add_plain] at this
/-- A shorter part of a row. -/
theorem Lst.part {m c : Nat} {a : Option Addr} {ys : List Value} (h : Lst w hi (.slice a n c) n (ys ++ xs)) (hm : m ≤ n) : Lst w hi (.slice a m c) m ys := by
  obtain ⟨a', c', he, hn, h0, hx⟩ := h
  injection he with e1 e2 e3
  subst e1; subst e3
  refine ⟨_, _, rfl, by omega, fun h => ⟨by have := (h0 h).1; omega, (h0 h).2⟩, fun hp => ?_⟩
  obtain ⟨b, off, h1, h2, h3⟩ := hx (by omega)
  exact ⟨b, off, h1, h2, fun i u hu => h3 i u (by rw [List.getElem?_append_left (List.getElem?_eq_some_iff.mp hu).1]; exact hu)⟩
end

/-- append of what a slice reads as to a row of the call's own. -/
theorem row_more {w : World} {B hi n m k : Nat} {t ty e : TypeId} {i : TypeInfo} {z v u : Value} {xs ys : List Value} (bytes : Nat) (ht : Try.prog.underlying t = some (.slice e)) (hti : Try.prog.info? e = some i) (hz : i.zero = some z)
    (hsize : i.size = k) (hby : i.bytes = bytes) (hzs : z.cells.size = k) (hk : 0 < k) (hb1 : bytes ≤ 1000)
    (hown : w.ownsRow B e k v n xs) (hx : Lst w hi u m ys) (hl : ys.length = m * k) (h1 : ∀ u ∈ ys, u.oneCell' = true) (hnm : n + m ≤ 1000000) (hB : B ≤ w.heap.size) :
    ∃ a' c' w', (Builtin.append_ #[t, t] ty #[v, u]).run Try.prog w = .ok (.slice a' (n + m) c') w' ∧ w'.ownsRow B e k (.slice a' (n + m) c') (n + m) (xs ++ ys) ∧ Aside (fun b => v.ownBlock = some b) w w' ∧
      ((Value.slice a' (n + m) c').ownBlock = v.ownBlock ∨ (Value.slice a' (n + m) c').ownBlock = some w.heap.size) := by
  obtain ⟨a, c, rfl, _, h0, hx⟩ := hx
  cases a with
  | none =>
    obtain ⟨hm0, hc⟩ := h0 rfl
    subst hm0; subst hc
    have hy : ys = [] := by rw [Nat.zero_mul] at hl; exact List.length_eq_zero_iff.mp hl
    subst hy
    have hr := run_append_owned_none (P := Try.prog) (w := w) B t ty e i k ht hti v n xs hown
    obtain ⟨a', c', rfl⟩ := row_shape hown
    exact ⟨a', c', w, by rw [Nat.add_zero]; exact hr, by rw [Nat.add_zero, List.append_nil]; exact hown, Aside.refl _ _, .inl rfl⟩
  | some a =>
    have hnews : ∀ j u, ys[j]? = some u → w.cell? (a.add j) = some u := by
      intro j u hu
      have hp : 0 < m := by
        rcases Nat.eq_zero_or_pos m with h | h
        · subst h; rw [Nat.zero_mul] at hl; rw [List.length_eq_zero_iff.mp hl] at hu; simp at hu
        · exact h
      obtain ⟨b, off, h2, _, h3⟩ := hx hp
      injection h2 with h2
      subst h2
      rw [WideShapes.add_plain]
      exact h3 j u hu
    have hbb : (n + m) * bytes ≤ 140737488355328 := Nat.le_trans (Nat.mul_le_mul hnm hb1) (by decide)
    obtain ⟨v', w', r1, r2, r3, _, r5⟩ := run_append_own_at (P := Try.prog) (w := w) B t ty e i z k bytes ht hti hz hsize hby hzs hk v n xs hown a m c ys hl hnews h1 (by unfold maxLen; omega) hbb hB
    obtain ⟨a', c', hv⟩ := row_shape r2
    subst hv
    exact ⟨a', c', w', r1, r2, Aside.grown r3 fun _ h => h, r5⟩
end Go.Proofs.Ytcjgbholgbjejaa
