/-
  Slices of bytes as lists, rows of the call's own, worlds that differ in one block; how they are kept.
-/
import Derived.Test.YtcjgbholgbjejaaRows
import Derived.WalkKit
import Derived.WalkSpells
import Derived.WalkLawsBesides
import Derived.OwnWalk
import Derived.IntWalk
import Derived.Lib.Hide
import Derived.LoopTactic
import Derived.Laws.BytesArg
import Derived.Laws.AppendOwnNone
import Derived.Laws.CopyOwn
import Derived.Laws.BitsLemmas
import Derived.Laws.Panics
import Derived.Deep.AppendLies
import Derived.BigQuiet
import Derived.Deep.QuietTactic
import Derived.Deep.RegionHeld
import Derived.Defers
import Derived.Recover
import Derived.RangeFuncLeaves
import Derived.RangeFuncRecord
import Derived.RangeFuncSeq
import Derived.Deep.Draws
import Derived.Below
import Derived.Outline
import Derived.LoopIn
import Derived.LoopNIn
import Derived.TacticsInMore
import Derived.OwnWalkIn
import Derived.Shelf.RegionOpen
import Derived.Shelf.Abstract
import Derived.RangeFuncCalls
import Derived.RangeFuncBound
import Derived.RangeFuncNested
import Derived.Laws.NewBlocks
import Derived.Test.YtcjgbholgbjejaaShelf
import Derived.Laws.IdiomStrings
import Derived.Lib.BufStepsIn
import Derived.Laws.Concat
import Derived.BigRegion
import Derived.ChangeAlike
import Derived.RegionTactic
import Derived.Deep.RegionHeld3
namespace Go.Proofs.Ytcjgbholgbjejaa
open Go.RowKit
set_option linter.unusedVariables false
set_option maxRecDepth 100000

/-- The slice value v reads as the bytes l; what it leads to lies in blocks from lo on, below hi. -/
def Sl (w : World) (lo hi : Nat) (v : Value) (l : List Int) : Prop :=
  ∃ a c, v = .slice a l.length c ∧ l.length ≤ c ∧ (a = none → c = 0) ∧ (0 < l.length → ∃ b off, a = some ⟨b, off, none⟩ ∧ lo ≤ b ∧ b < hi ∧ ∀ j, j < l.length → w.cell? ⟨b, off + j, none⟩ = some (.int .u8 (l.getD j 0)))

/-- Block g alone may have turned. -/
def Only (g : Nat) (w w' : World) : Prop := w'.os = w.os ∧ w'.tape = w.tape ∧ w'.output = w.output ∧ w'.heap.size = w.heap.size ∧ ∀ k, k ≠ g → w'.heap[k]? = w.heap[k]?

theorem Only.refl (g : Nat) (w : World) : Only g w w := ⟨rfl, rfl, rfl, rfl, fun _ _ => rfl⟩

theorem Only.below {g B : Nat} {w w' : World} (h : Only g w w') (hB : B ≤ g) : Below B w w' :=
  ⟨h.1, h.2.1, h.2.2.1, by rw [h.2.2.2.1]; exact Nat.le_refl _, fun k hk => h.2.2.2.2 k (by omega)⟩

theorem below_drewN {B : Nat} {a w : World} (h : Below B a w) (n : Nat) : Below B a (w.drewN n) := h.trans ⟨rfl, rfl, rfl, Nat.le_refl _, fun _ _ => rfl⟩

section
variable {w w' : World} {lo hi lo' hi' B g : Nat} {v : Value} {l : List Int}
theorem Sl.keep (h : Sl w lo hi v l) (hk : ∀ b o, lo ≤ b → b < hi → w'.cell? ⟨b, o, none⟩ = w.cell? ⟨b, o, none⟩) : Sl w' lo hi v l := by
  obtain ⟨a, c, rfl, hc, hn, hp⟩ := h
  refine ⟨a, c, rfl, hc, hn, fun h0 => ?_⟩
  obtain ⟨b, off, rfl, h1, h2, h3⟩ := hp h0
  exact ⟨b, off, rfl, h1, h2, fun j hj => (hk b _ h1 h2).trans (h3 j hj)⟩
theorem Sl.below (h : Sl w lo hi v l) (hb : Below B w w') (hB : hi ≤ B) : Sl w' lo hi v l :=
  h.keep fun b o _ h2 => hb.cell (p := ⟨b, o, none⟩) (Nat.lt_of_lt_of_le h2 hB)
theorem Sl.only (h : Sl w lo hi v l) (ho : Only g w w') (hg : g < lo ∨ hi ≤ g) : Sl w' lo hi v l :=
  h.keep fun b o h1 h2 => World.cell?_of_block (a := ⟨b, o, none⟩) (ho.2.2.2.2 b (by omega))
theorem Sl.wide (h : Sl w lo hi v l) (h1 : lo' ≤ lo) (h2 : hi ≤ hi') : Sl w lo' hi' v l := by
  obtain ⟨a, c, rfl, hc, hn, hp⟩ := h
  refine ⟨a, c, rfl, hc, hn, fun h0 => ?_⟩
  obtain ⟨b, off, rfl, h3, h4, h5⟩ := hp h0
  exact ⟨b, off, rfl, by omega, by omega, h5⟩
end

/-- A value of a row of the call's own: nil, or block g, which is just these bytes. -/
def Own (w : World) (g : Nat) (v : Value) (l : List Int) : Prop :=
  (v = .slice none 0 0 ∧ l = []) ∨ (v = .slice (some ⟨g, 0, none⟩) l.length l.length ∧ w.heap[g]? = some (.cells (l.map (Value.int .u8)).toArray 5 (0, 0)))

theorem Own.sl {w : World} {g : Nat} {v : Value} {l : List Int} (h : Own w g v l) : Sl w g (g + 1) v l := by
  rcases h with ⟨rfl, rfl⟩ | ⟨rfl, hg⟩
  · exact ⟨none, 0, rfl, by simp, fun _ => rfl, fun h => by simp at h⟩
  · refine ⟨_, _, rfl, Nat.le_refl _, fun h => by simp at h, fun _ => ⟨g, 0, rfl, Nat.le_refl _, by omega, fun j hj => ?_⟩⟩
    rw [Nat.zero_add, World.cell?, hg]
    simp [hj]

theorem Own.below {w w' : World} {g B : Nat} {v : Value} {l : List Int} (h : Own w g v l) (hb : Below B w w') (hg : g < B) : Own w' g v l := by
  rcases h with h | ⟨rfl, h⟩
  · exact .inl h
  · exact .inr ⟨rfl, (hb.block g hg).trans h⟩

theorem Own.only {w w' : World} {g k : Nat} {v : Value} {l : List Int} (h : Own w g v l) (ho : Only k w w') (hg : g ≠ k) : Own w' g v l := by
  rcases h with h | ⟨rfl, h⟩
  · exact .inl h
  · exact .inr ⟨rfl, (ho.2.2.2.2 g hg).trans h⟩

theorem Try.info5 : (Try.prog.info? 5).map (fun i => (i.zero, i.size, i.bytes)) = some (some (.int .u8 0), 1, 1) := by kernel_rfl

theorem Try.size5 : (Try.prog.info? 5).map (·.size) = some 1 := by kernel_rfl

theorem madeN (n : Nat) : madeCells #[.int .u8 0] n = (List.replicate n (Value.int .u8 0)).toArray := by
  rw [← toList_madeCells_one]

theorem makeN (n : Nat) (hn : n ≤ 1000000) (w : World) : (Instr.makeSlice 67 (.int .i64 n) (.int .i64 n)).run Try.prog w = .ok (.slice (some ⟨w.heap.size, 0, none⟩) n n) (w.alloc (.cells (List.replicate n (Value.int .u8 0)).toArray 5)) := by
  obtain ⟨i0, hi, hz0, hz1, hz2⟩ := info_parts Try.info5
  have := run_make (P := Try.prog) w 67 5 i0 (.int .u8 0) Try.underlying67 hi hz0 .i64 .i64 n n (by omega) (by omega) (by rw [hz2]; omega) (by omega)
  rw [this, hz1, Int.toNat_natCast, Nat.mul_one]
  congr 3
  exact madeN n

theorem make2 (w : World) : (Instr.makeSlice 67 (.int .i64 2) (.int .i64 2)).run Try.prog w = .ok (.slice (some ⟨w.heap.size, 0, none⟩) 2 2) (w.alloc (.cells #[.int .u8 0, .int .u8 0] 5)) := makeN 2 (by omega) w

/-- Block g is c bytes, whatever they are. -/
def BytesAt (w : World) (g c : Nat) : Prop := ∃ l : List Int, l.length = c ∧ w.heap[g]? = some (.cells (l.map (Value.int .u8)).toArray 5 (0, 0))

theorem BytesAt.cell {w : World} {g c k : Nat} (h : BytesAt w g c) (hk : k < c) : ∃ x : Int, w.cell? ⟨g, k, none⟩ = some (.int .u8 x) := by
  obtain ⟨l, hl, hg⟩ := h
  refine ⟨l.getD k 0, ?_⟩
  rw [World.cell?, hg]
  simp [hl, hk]

theorem BytesAt.frozen {w : World} {g c k : Nat} (h : BytesAt w g c) : w.frozen? ⟨g, k, none⟩ = false := by
  obtain ⟨l, hl, hg⟩ := h
  simp [World.frozen?, hg]

theorem BytesAt.set {w : World} {g c k : Nat} (h : BytesAt w g c) (x : Int) : BytesAt (w.setCell ⟨g, k, none⟩ (.int .u8 x)) g c := by
  obtain ⟨l, hl, hg⟩ := h
  refine ⟨l.set k x, by simpa using hl, ?_⟩
  simp [World.setCell, Array.getElem?_modify, hg, List.map_set]

theorem Only.set {w0 w : World} {g k : Nat} (h : Only g w0 w) (u : Value) : Only g w0 (w.setCell ⟨g, k, none⟩ u) := by
  obtain ⟨h1, h2, h3, h4, h5⟩ := h
  refine ⟨h1, h2, h3, by simp [World.setCell, h4], fun j hj => (Below.heap_setCell w ⟨g, k, none⟩ u j hj).trans (h5 j hj)⟩

theorem Own.bytes {w : World} {g : Nat} {l : List Int} (h : w.heap[g]? = some (.cells (l.map (Value.int .u8)).toArray 5 (0, 0))) : BytesAt w g l.length := ⟨l, rfl, h⟩

/-- Of block g, c bytes, the first k are those of L. -/
def Part (w : World) (g c : Nat) (L : List Int) (k : Nat) : Prop := BytesAt w g c ∧ ∀ t, t < k → w.cell? ⟨g, t, none⟩ = some (.int .u8 (L.getD t 0))

theorem Part.step {w : World} {g c k : Nat} {L : List Int} (h : Part w g c L k) (hk : k < c) (x : Int) (hx : x = L.getD k 0) : Part (w.setCell ⟨g, k, none⟩ (.int .u8 x)) g c L (k + 1) := by
  refine ⟨h.1.set _, fun t ht => ?_⟩
  by_cases e : t = k
  · subst e
    obtain ⟨y, hy⟩ := h.1.cell hk
    rw [World.cell?_setCell_same _ _ _ hy, hx]
  · rw [World.cell?_setCell_other _ _ _ _ (by first | (simp; done) | (simp; omega))]
    exact h.2 t (by omega)

/-- v is a row of the call's own, in blocks from B on, of which the first bytes are l. -/
def OwnR (w : World) (B : Nat) (v : Value) (l : List Int) : Prop := w.ownsRow B 5 1 v l.length (l.map (Value.int .u8))

theorem OwnR.sl {w : World} {B : Nat} {v : Value} {l : List Int} (h : OwnR w B v l) : Sl w B w.heap.size v l := by
  have hlt := World.ownsRow.lt h
  rcases h.2 with ⟨rfl, h0⟩ | ⟨g, cap, cur, rfl, hB, hg, hc, _⟩
  · have : l = [] := List.eq_nil_of_length_eq_zero h0
    subst this
    exact ⟨none, 0, rfl, by simp, fun _ => rfl, fun h => by simp at h⟩
  · refine ⟨_, cap, rfl, hc, fun h => by simp at h, fun _ => ⟨g, 0, rfl, hB, (hlt g rfl).2, fun j hj => ?_⟩⟩
    have := World.ownsRow.cells h (g := g) rfl j (.int .u8 (l.getD j 0)) (by rw [List.getElem?_map, List.getElem?_eq_getElem hj, List.getD, List.getElem?_eq_getElem hj]; rfl)
    rw [WideShapes.add_plain] at this
    exact this

theorem OwnR.mono {w : World} {B B' : Nat} {v : Value} {l : List Int} (h : OwnR w B v l) (hB : B' ≤ B) : OwnR w B' v l := by
  refine ⟨h.1, ?_⟩
  rcases h.2 with h2 | ⟨g, cap, cur, hv, hg, r⟩
  · exact .inl h2
  · exact .inr ⟨g, cap, cur, hv, Nat.le_trans hB hg, r⟩

/-- append onto a row of the call's own, whatever is appended. -/
theorem wpList_app {w : World} {ops : Array Oper} {rest : List Oper} {o : Oper} {a : Act} {Q : Exit → Act → World → Prop} (hgd : o.guard = none) (s x : Operand)
    (ho : o.op = .call { callee := .builtin .append, args := #[s, x], argTypes := #[67, 67] })
    (B lo hi : Nat) (v xv : Value) (l l' : List Int) (hs : a.eval s = v) (hx : a.eval x = xv) (hown : OwnR w B v l) (hsl : Sl w lo hi xv l') (hb : l.length + l'.length ≤ 1000000) (hB : B ≤ w.heap.size)
    (h : ∀ v' w', Hid (OwnR w' B v' (l ++ l')) → Hid (Below B w w') → wpList Try.prog ops Q rest (a.put o.dst v') w') : wpList Try.prog ops Q (o :: rest) a w := by
  obtain ⟨i0, hi, hz0, hz1, hz2⟩ := info_parts Try.info5
  have hown' : w.ownsRow B 5 1 v l.length (l.map (Value.int .u8)) := hown
  obtain ⟨ad, c, rfl, hc, hn, hp⟩ := hsl
  have hrow : ∀ k, v.ownBlock = some k → B ≤ k := fun k hk => (World.ownsRow.lt hown k hk).1
  rcases ad with _ | ad
  · have hc0 := hn rfl
    subst hc0
    have h0 : l' = [] := List.eq_nil_of_length_eq_zero (by omega)
    subst h0
    exact wpList_append_own_none hgd s x 67 ho B 5 i0 1 Try.underlying67 hi v l.length (l.map (Value.int .u8)) hs hown' hx (h v w (by rw [List.append_nil]; exact hown) (Below.refl _ _))
  · refine wpList_append_own w hgd s x 67 ho B 5 i0 (.int .u8 0) 1 1 Try.underlying67 hi hz0 hz1 hz2 rfl (by decide) v l.length (l.map (Value.int .u8)) hs hown' ad l'.length c (l'.map (Value.int .u8)) hx (by simp) ?_ (ints_oneCell _ _) (by unfold maxLen; omega) (by omega) hB ?_
    · intro j u hu
      rw [List.getElem?_map] at hu
      obtain ⟨n, hq, rfl⟩ := Option.map_eq_some_iff.mp hu
      have hj : j < l'.length := (List.getElem?_eq_some_iff.mp hq).1
      obtain ⟨b, off, he, _, _, hcell⟩ := hp (by omega)
      injection he with he
      subst he
      rw [WideShapes.add_plain, hcell j hj, List.getD, hq]; rfl
    · intro v' w' h1 h2 _
      refine h v' w' ?_ ((Below.refl _ _).grown h2 hB hrow)
      show w'.ownsRow B 5 1 v' (l ++ l').length ((l ++ l').map (Value.int .u8))
      rw [List.length_append, List.map_append]
      exact h1

theorem two_alloc (w : World) (o o' : Obj) : ((w.alloc o).alloc o').heap[w.heap.size + 1]? = some o' := by
  have := heap_alloc_new (w.alloc o) o'
  simpa using this

theorem sl_one (w : World) (x : Int) : Sl (w.alloc (.cells #[.int .u8 x] 5)) w.heap.size (w.heap.size + 1) (.slice (some ⟨w.heap.size, 0, none⟩) 1 1) [x] := by
  refine ⟨_, 1, rfl, by simp, fun h => by simp at h, fun _ => ⟨_, _, rfl, Nat.le_refl _, by omega, fun j hj => ?_⟩⟩
  obtain rfl : j = 0 := by simpa using hj
  simp [go_sem]

theorem size5 (w : World) : (sizeOf (Try.prog.elem 67)).run Try.prog w = .ok 1 w := by kernel_rfl

/-- So many bytes from a place on. -/
def cutL (l : List Int) (p m : Nat) : List Int := (l.drop p).take m

theorem cutL_len (l : List Int) (p m : Nat) (h : p + m ≤ l.length) : (cutL l p m).length = m := by unfold cutL; rw [List.length_take, List.length_drop]; omega

theorem cutL_none (l : List Int) (p : Nat) : cutL l p 0 = [] := by simp [cutL]

theorem splice_all (m : Nat) (cs : List Value) (z : Value) (h : cs.length = m) : splice (List.replicate m z) 0 cs = cs := by
  unfold splice
  simp [h]

theorem out_wrap (p len : Nat) (n : Int) (hp : p ≤ len) (hl : len ≤ 1000000) (h0 : 0 < n) (h1 : n ≤ 9223372036854775807) (h : (len : Int) < p + n) :
    wrap64 (wrap64 ((p : Int) + n) - 1) < 0 ∨ (len : Int) ≤ wrap64 (wrap64 ((p : Int) + n) - 1) := by
  unfold wrap64
  omega

theorem Sl.news_cut {w : World} {lo hi c : Nat} {a : Option Addr} {l : List Int} (h : Sl w lo hi (.slice a l.length c) l) {w' : World} (hb : Below w.heap.size w w') (p m : Nat) (hm : 0 < m) (hp : p + m ≤ l.length) :
    ∃ b off, a = some ⟨b, off, none⟩ ∧ ∀ j u, ((cutL l p m).map (Value.int .u8))[j]? = some u → w'.cell? ⟨b, off + p + j, none⟩ = some u := by
  obtain ⟨a', c', he, hc, hn, hq⟩ := h
  injection he with e1 e2 e3
  subst e1; subst e3
  obtain ⟨b, off, rfl, _, _, hx⟩ := hq (by omega)
  refine ⟨b, off, rfl, fun j u hu => ?_⟩
  rw [List.getElem?_map] at hu
  obtain ⟨n, hn, rfl⟩ := Option.map_eq_some_iff.mp hu
  have hj : j < m := by
    have := (List.getElem?_eq_some_iff.mp hn).1
    rw [cutL_len l p m hp] at this
    exact this
  have e : l[p + j]? = some n := by
    unfold cutL at hn
    rw [List.getElem?_take, if_pos hj, List.getElem?_drop] at hn
    exact hn
  have := hx (p + j) (by omega)
  rw [List.getD, e] at this
  rw [show off + p + j = off + (p + j) by omega, cell_later hb this]; rfl

theorem wraps_i64 (n : Int) (h0 : 0 ≤ n) (h1 : n < 2 ^ 63) : IntKind.i64.wrap n = n := by
  have e : (2 : Int) ^ 63 = 9223372036854775808 := by decide
  rw [e] at h1
  exact IntWalk.i64_in _ (by omega)

theorem or_byte (X y : Int) (h0 : 0 ≤ X) (h1 : X ≤ 36028797018963967) (y0 : 0 ≤ y) (y1 : y ≤ 255) : bits .or .i64 (X * 256) y = X * 256 + y := by
  have e : (2 : Int) ^ 63 = 9223372036854775808 := by decide
  have e8 : (2 : Int) ^ 8 = 256 := by decide
  exact bits_join .i64 63 (by decide) wraps_i64 8 (X * 256) y (by omega) (by rw [e8]; omega) (by rw [e]; omega) y0 (by rw [e8]; omega) (by rw [e]; omega)

theorem or_none (y : Int) (y0 : 0 ≤ y) (y1 : y ≤ 255) : bits .or .i64 0 y = y := by
  have := or_byte 0 y (by omega) (by omega) y0 y1
  simpa using this

theorem or_wrap (X y : Int) (h0 : 0 ≤ X) (h1 : X ≤ 36028797018963967) (y0 : 0 ≤ y) (y1 : y ≤ 255) : bits .or .i64 (wrap64 (X * 256)) y = X * 256 + y := by
  rw [IntWalk.wrap64_in _ ⟨by omega, by omega⟩]
  exact or_byte X y h0 h1 y0 y1

def ByteL (l : List Int) : Prop := ∀ n ∈ l, 0 ≤ n ∧ n ≤ 255

theorem ByteL.at_ {l : List Int} (h : ByteL l) (k : Nat) (hk : k < l.length) : 0 ≤ l.getD k 0 ∧ l.getD k 0 ≤ 255 := by
  rw [List.getD, List.getElem?_eq_getElem hk]
  exact h _ (List.getElem_mem hk)

theorem ByteL.append {a b : List Int} (ha : ByteL a) (hb : ByteL b) : ByteL (a ++ b) := fun n hn => by
  rcases List.mem_append.mp hn with h | h
  · exact ha n h
  · exact hb n h

theorem res_set {w1 : World} {g : Nat} {x0 y0 : Value} (x y : Value) (k1 : w1.cell? ⟨g, 0, none⟩ = some x0) (k2 : w1.cell? ⟨g, 1, none⟩ = some y0) :
    (w1.setCell ⟨g, 0, none⟩ x).cell? ⟨g, 0, none⟩ = some x ∧ ((w1.setCell ⟨g, 0, none⟩ x).setCell ⟨g, 1, none⟩ y).cell? ⟨g, 1, none⟩ = some y := by
  have k3 : (w1.setCell ⟨g, 0, none⟩ x).cell? ⟨g, 1, none⟩ = some y0 := by
    rw [World.cell?_setCell_other _ _ _ _ (by simp)]
    exact k2
  exact ⟨World.cell?_setCell_same _ _ _ k1, World.cell?_setCell_same _ _ _ k3⟩

theorem Own.set {w : World} {g : Nat} {v : Value} {L : List Int} (h : Own w g v L) {p : Addr} (hp : g ≠ p.block) (u : Value) : Own (w.setCell p u) g v L := by
  rcases h with h | ⟨rfl, h⟩
  · exact .inl h
  · exact .inr ⟨rfl, (Below.heap_setCell w p u g hp).trans h⟩

theorem below_lt {B : Nat} {w w1 : World} {o : Obj} (hb : Below B (w.alloc o) w1) : w.heap.size < w1.heap.size := by
  have := hb.size
  simp only [World.size_alloc] at this
  omega

theorem OwnR.some_ {w : World} {B : Nat} {v : Value} {l : List Int} (h : OwnR w B v l) (h0 : 0 < l.length) :
    ∃ b cap, v = .slice (some ⟨b, 0, none⟩) l.length cap ∧ b < w.heap.size ∧ ∀ j, j < l.length → w.cell? ⟨b, j, none⟩ = some (.int .u8 (l.getD j 0)) := by
  rcases h.2 with ⟨_, h1⟩ | ⟨g, cap, cur, rfl, _, _, _⟩
  · omega
  · obtain ⟨a', c', he, _, _, hx⟩ := h.sl
    injection he with e1 e2 e3
    obtain ⟨b, off, e4, _, h2, h3⟩ := hx h0
    rw [← e1] at e4
    injection e4 with e4
    injection e4 with e5 e6 e7
    subst e5; subst e6
    exact ⟨g, cap, rfl, h2, fun j hj => by have := h3 j hj; rwa [Nat.zero_add] at this⟩

theorem OwnR.two {w : World} {B : Nat} {v : Value} {x y : Int} (h : OwnR w B v [x, y]) :
    ∃ b cap, v = .slice (some ⟨b, 0, none⟩) 2 cap ∧ b < w.heap.size ∧ w.cell? ⟨b, 0, none⟩ = some (.int .u8 x) ∧ w.cell? ⟨b, 1, none⟩ = some (.int .u8 y) := by
  obtain ⟨b, cap, rfl, hb, hx⟩ := h.some_ (by simp)
  exact ⟨b, cap, rfl, hb, hx 0 (by simp), hx 1 (by simp)⟩

theorem OwnR.four {w : World} {B : Nat} {v : Value} {x y z t : Int} (h : OwnR w B v [x, y, z, t]) :
    ∃ b cap, v = .slice (some ⟨b, 0, none⟩) 4 cap ∧ b < w.heap.size ∧ w.cell? ⟨b, 0, none⟩ = some (.int .u8 x) ∧ w.cell? ⟨b, 1, none⟩ = some (.int .u8 y) ∧ w.cell? ⟨b, 2, none⟩ = some (.int .u8 z) ∧ w.cell? ⟨b, 3, none⟩ = some (.int .u8 t) := by
  obtain ⟨b, cap, rfl, hb, hx⟩ := h.some_ (by simp)
  exact ⟨b, cap, rfl, hb, hx 0 (by simp), hx 1 (by simp), hx 2 (by simp), hx 3 (by simp)⟩

theorem bel_alloc {w w' : World} (hb : Below w.heap.size w w') (o : Obj) : Below w.heap.size w (w'.alloc o) := hb.alloc hb.size o

/-- Block b begins with x, y. -/
def Cl (w : World) (b : Nat) (x y : Value) : Prop := w.cell? ⟨b, 0, none⟩ = some x ∧ w.cell? ⟨b, 1, none⟩ = some y

theorem Cl.later {w w' : World} {b : Nat} {x y : Value} (h : Cl w b x y) (hb : Below w.heap.size w w') : Cl w' b x y := ⟨cell_later hb h.1, cell_later hb h.2⟩

theorem Cl.lt {w : World} {b : Nat} {x y : Value} (h : Cl w b x y) : b < w.heap.size := World.block_lt_of_cell? w _ h.1

theorem Cl.new (w : World) (x y : Value) (t : TypeId) : Cl (w.alloc (.cells #[x, y] t)) w.heap.size x y := ⟨by simp [go_sem], by simp [go_sem]⟩

theorem Sl.later {w w' : World} {lo hi : Nat} {v : Value} {l : List Int} (h : Sl w lo hi v l) (hb : Below w.heap.size w w') : Sl w' lo hi v l := by
  obtain ⟨a, c, rfl, hc, hn, hp⟩ := h
  refine ⟨a, c, rfl, hc, hn, fun h0 => ?_⟩
  obtain ⟨b, off, rfl, h1, h2, hx⟩ := hp h0
  exact ⟨b, off, rfl, h1, h2, fun j hj => cell_later hb (hx j hj)⟩

theorem Sl.top {w : World} {lo hi : Nat} {v : Value} {l : List Int} (h : Sl w lo hi v l) : Sl w 0 w.heap.size v l := by
  obtain ⟨a, c, rfl, hc, hn, hp⟩ := h
  refine ⟨a, c, rfl, hc, hn, fun h0 => ?_⟩
  obtain ⟨b, off, rfl, h1, h2, hx⟩ := hp h0
  exact ⟨b, off, rfl, Nat.zero_le _, World.block_lt_of_cell? w _ (hx 0 h0), hx⟩

theorem Own.empty {w : World} {g : Nat} {v : Value} (h : Own w g v []) : ∃ a, v = .slice a 0 0 := by
  rcases h with ⟨rfl, _⟩ | ⟨rfl, _⟩
  · exact ⟨_, rfl⟩
  · exact ⟨_, rfl⟩

/-- One more world: what is known of a first one, up to a third one, by way of new memory. -/
theorem bel_call {w w1 w2 : World} (h : Below w.heap.size w w1) (hb : Below w1.heap.size w1 w2) : Below w.heap.size w w2 := h.trans (hb.mono h.size)

end Go.Proofs.Ytcjgbholgbjejaa

/-
  The panic of an index out of range, as it ends a call.
-/
namespace Go.Proofs.Ytcjgbholgbjejaa
open Go.RowKit
set_option linter.unusedVariables false
set_option maxRecDepth 100000

/-- An end by the panic of an index out of range; below w nothing has turned. -/
def NumBad (w : World) (e : Ending) (w' : World) : Prop :=
  ∃ x y s c, e = .panicked [{ v := .iface 8 (.agg #[.int .i64 x, .int .i64 y, .bool s, .int .u8 c]), recovered := false }] ∧ Below w.heap.size w w'

theorem bp_run {α : Type} (k : IntKind) (x y : Int) (code : BoundsCode) (w : World) :
    ∃ s n c, (boundsPanic k x y code : Sem α).run Try.prog w = .halt (.panic (.iface 8 (.agg #[.int .i64 (IntKind.i64.wrap x), .int .i64 y, .bool s, .int .u8 c]))) (w.drewN n) := by
  unfold boundsPanic
  split
  · simp only [runtimePanic, goPanic, go_sem]
    exact ⟨_, 1, _, rfl⟩
  · simp only [runtimePanic, goPanic, go_sem]
    exact ⟨_, 0, _, rfl⟩

theorem idx_out (a : Option Addr) (len cap : Nat) (i : Int) (hnil : a = none → len = 0) (ho : i < 0 ∨ (len : Int) ≤ i) (w : World) :
    ∃ x y s n c, (Instr.indexAt 67 (.slice a len cap) (.int .i64 i)).run Try.prog w = .halt (.panic (.iface 8 (.agg #[.int .i64 x, .int .i64 y, .bool s, .int .u8 c]))) (w.drewN n) := by
  cases a with
  | some a =>
    rw [run_indexAt_slice (h := Try.underlying67), if_neg (by omega)]
    obtain ⟨s, n, c, h⟩ := bp_run (α := Value) .i64 i len .index w
    exact ⟨_, _, s, n, c, h⟩
  | none =>
    obtain rfl := hnil rfl
    have e : (Instr.indexAt 67 (.slice none 0 cap) (.int .i64 i)).run Try.prog w = (boundsPanic .i64 i 0 .index).run Try.prog w := by
      simp [Instr.indexAt, run_underlying Try.underlying67, asIntOf]
    rw [e]
    obtain ⟨s, n, c, h⟩ := bp_run (α := Value) .i64 i 0 .index w
    exact ⟨_, _, s, n, c, h⟩
end Go.Proofs.Ytcjgbholgbjejaa

/-
  octet.Get16, Get32: read, its deferred function, the panic of an index out of range.
-/
namespace Go.Proofs.Ytcjgbholgbjejaa
open Go.RowKit
set_option linter.unusedVariables false
set_option maxRecDepth 100000

theorem ta_nil (w : World) : (Instr.typeAssert .nilIface 20 99 true).run Try.prog w = .ok (.tuple #[.nilIface, .bool false]) w := by kernel_rfl

theorem ta_bounds (x y : Int) (s : Bool) (c : Int) (w : World) : (Instr.typeAssert (.iface 8 (.agg #[.int .i64 x, .int .i64 y, .bool s, .int .u8 c])) 20 99 true).run Try.prog w = .ok (.tuple #[.iface 8 (.agg #[.int .i64 x, .int .i64 y, .bool s, .int .u8 c]), .bool true]) w := by kernel_rfl

theorem res_cells {w w1 : World} {x y : Value} (hb : Below (w.heap.size + 1) (w.alloc (.cells #[x, y] 76)) w1) :
    w1.cell? ⟨w.heap.size, 0, none⟩ = some x ∧ w1.cell? ⟨w.heap.size, 1, none⟩ = some y ∧ ∀ j, w1.frozen? ⟨w.heap.size, j, none⟩ = false := by
  refine ⟨(hb.cell (p := ⟨_, _, _⟩) (by simp)).trans ?_, (hb.cell (p := ⟨_, _, _⟩) (by simp)).trans ?_, fun j => (hb.frozen (p := ⟨_, _, _⟩) (by simp)).trans ?_⟩
  all_goals simp [go_sem]

/-- The number that two, that four bytes are. -/
def num2 (x y : Int) : Int := x * 256 + y

def num4 (x y z t : Int) : Int := ((x * 256 + y) * 256 + z) * 256 + t

set_option maxHeartbeats 1000000 in
theorem number2_ok (g off n : Nat) (p c : Nat) (x y : Int) (h : p + 2 ≤ n) (hn : n ≤ 1000000) (w : World)
    (cx : w.cell? ⟨g, off + p, none⟩ = some (.int .u8 x)) (x0 : 0 ≤ x) (x1 : x ≤ 255)
    (cy : w.cell? ⟨g, off + (p + 1), none⟩ = some (.int .u8 y)) (y0 : 0 ≤ y) (y1 : y ≤ 255)
    : Calls Try.prog 66 #[.slice (some ⟨g, off, none⟩) n c, .int .i64 p] w fun e w' => e = .returned (.tuple #[.int .i64 (num2 x y), .int .i64 (p + 2)]) ∧ Below w.heap.size w w' := by
  have hg : g < w.heap.size := World.block_lt_of_cell? w _ cx
  go_enter Try.func66, Try.ntmps66
  go_wp2
  refine wp_loop_rounds 3 ?_
  iterate 3 (rw [rounds_succ]; go_wp2)
  go_quiet (fail)
  go_wp2
  go_ret2
  refine ⟨?_, below_drewN ((Below.refl _ _).alloc (Nat.le_refl _) _) _⟩
  rw [or_none x x0 x1, or_wrap x y (by omega) (by omega) y0 y1]
  rfl

set_option maxHeartbeats 1000000 in
theorem number2_no0 (a : Option Addr) (p c : Nat) (hn : p ≤ 1000000) (ha : a = none → p = 0) (w : World) : Calls Try.prog 66 #[.slice a p c, .int .i64 p] w (NumBad w) := by
  obtain ⟨e1, e2, e3, e4, e5, hrun⟩ := idx_out a p c p ha (by omega) (w.alloc (.cells #[.int .u8 0, .int .u8 0] 91))
  go_enter Try.func66, Try.ntmps66
  go_wp2
  refine wp_loop_rounds 3 ?_
  iterate 1 (rw [rounds_succ]; go_wp2)
  exact ⟨rfl, e1, e2, e3, e5, rfl, below_drewN ((Below.refl _ _).alloc (Nat.le_refl _) _) _⟩

set_option maxHeartbeats 1000000 in
theorem number2_no1 (g off n : Nat) (p c : Nat) (x : Int) (h : p + 1 = n) (hn : n ≤ 1000000) (w : World)
    (cx : w.cell? ⟨g, off + p, none⟩ = some (.int .u8 x)) (x0 : 0 ≤ x) (x1 : x ≤ 255)
    : Calls Try.prog 66 #[.slice (some ⟨g, off, none⟩) n c, .int .i64 p] w (NumBad w) := by
  have hg : g < w.heap.size := World.block_lt_of_cell? w _ cx
  obtain ⟨e1, e2, e3, e4, e5, hrun⟩ := idx_out (some ⟨g, off, none⟩) n c (p + 1) (by simp) (by omega) (w.alloc (.cells #[.int .u8 0, .int .u8 0] 91))
  go_enter Try.func66, Try.ntmps66
  go_wp2
  refine wp_loop_rounds 3 ?_
  iterate 2 (rw [rounds_succ]; go_wp2)
  exact ⟨rfl, e1, e2, e3, e5, rfl, below_drewN ((Below.refl _ _).alloc (Nat.le_refl _) _) _⟩

theorem catch_idle (p q : Addr) (w : World) :
    CallsD Try.prog 70 #[.pointer (some p), .pointer (some q)] .returning w fun e u' w' => e = .returned (.tuple #[]) ∧ u' = .returning ∧ w = w' := by
  refine callsD_of_wpS Try.func70 rfl fun c₀ cs hu => ?_
  simp only [Try.ntmps70, List.size_toArray, List.length_cons, List.length_nil, Nat.reduceAdd, Nat.reduceSub, Array.replicate_succ, Array.replicate_zero, List.push_toArray, List.append_toArray, List.nil_append, List.cons_append]
  apply wpS_seq
  apply wpS_region
  simp [wpOpsS, go_sem, recoverD, hu, Exit.thenS, ta_nil]
  refine wpS_of_wp ?_
  go_wp2
  cases c₀
  simp_all [bodyPostS, results, Try.results70]

theorem catch_panicking (p : Addr) (g : Nat) (a : Option Addr) (n k : Nat) (x y : Int) (s : Bool) (c : Int) (w : World) (hp : w.cell? p = some (.slice a n k)) (h0 : w.cell? ⟨g, 0, none⟩ = some (.int .i64 0)) (h1 : w.cell? ⟨g, 1, none⟩ = some (.int .i64 0)) (hf : ∀ j, w.frozen? ⟨g, j, none⟩ = false) :
    CallsD Try.prog 70 #[.pointer (some p), .pointer (some ⟨g, 0, none⟩)] (.panicking [{ v := .iface 8 (.agg #[.int .i64 x, .int .i64 y, .bool s, .int .u8 c]), recovered := false }]) w fun e u' w' =>
      e = .returned (.tuple #[]) ∧ u' = .panicking [{ v := .iface 8 (.agg #[.int .i64 x, .int .i64 y, .bool s, .int .u8 c]), recovered := true }] ∧ w' = (w.setCell ⟨g, 0, none⟩ (.int .i64 4)).setCell ⟨g, 1, none⟩ (.int .i64 n) := by
  refine callsD_of_wpS Try.func70 rfl fun c₀ cs hu => ?_
  simp only [Try.ntmps70, List.size_toArray, List.length_cons, List.length_nil, Nat.reduceAdd, Nat.reduceSub, Array.replicate_succ, Array.replicate_zero, List.push_toArray, List.append_toArray, List.nil_append, List.cons_append]
  apply wpS_seq
  apply wpS_region
  simp [wpOpsS, go_sem, recoverD, hu, Exit.thenS, ta_bounds]
  refine wpS_of_wp ?_
  go_wp2
  cases c₀
  simp_all [bodyPostS, results, Try.results70]

def GetPost (w : World) (N E F A : Int) (e : Ending) (w' : World) : Prop :=
  e = .returned (.tuple #[.int .i64 N, .int .i64 E, .agg #[.int .i64 F, .int .i64 A]]) ∧ Below w.heap.size w w'

/-- What number tells: the number and where it ends. -/
def NumOk (w : World) (N E : Int) (e : Ending) (w' : World) : Prop := e = .returned (.tuple #[.int .i64 N, .int .i64 E]) ∧ Below w.heap.size w w'

def nAt2 (l : List Int) (p : Nat) : Int := num2 (l.getD p 0) (l.getD (p + 1) 0)

def nAt4 (l : List Int) (p : Nat) : Int := num4 (l.getD p 0) (l.getD (p + 1) 0) (l.getD (p + 2) 0) (l.getD (p + 3) 0)

theorem number2_fine {w : World} {lo hi p c : Nat} {a : Option Addr} {l : List Int} (h : Sl w lo hi (.slice a l.length c) l) (hb : ByteL l) (hl : l.length ≤ 1000000) (hp : p + 2 ≤ l.length) :
    Calls Try.prog 66 #[.slice a l.length c, .int .i64 p] w (NumOk w (nAt2 l p) (p + 2)) := by
  obtain ⟨a', c', he, hc, hn, hq⟩ := h
  injection he with e1 e2 e3
  subst e1; subst e3
  obtain ⟨b, off, rfl, _, _, hx⟩ := hq (by omega)
  have y0 := hb.at_ p (by omega)
  have y1 := hb.at_ (p + 1) (by omega)
  exact number2_ok b off l.length p c _ _ hp hl w (hx p (by omega)) y0.1 y0.2 (hx (p + 1) (by omega)) y1.1 y1.2

theorem number2_short {w : World} {lo hi p c : Nat} {a : Option Addr} {l : List Int} (h : Sl w lo hi (.slice a l.length c) l) (hb : ByteL l) (hl : l.length ≤ 1000000) (hp : p ≤ l.length) (hs : l.length < p + 2) :
    Calls Try.prog 66 #[.slice a l.length c, .int .i64 p] w (NumBad w) := by
  obtain ⟨a', c', he, hc, hn, hq⟩ := h
  injection he with e1 e2 e3
  subst e1; subst e3
  obtain h0 | h0 : l.length = p ∨ p + 1 = l.length := by omega
  · rw [h0] at hc ⊢
    exact number2_no0 a p c (by omega) (fun ha => by have := hn ha; omega) w
  · obtain ⟨b, off, rfl, _, _, hx⟩ := hq (by omega)
    have y0 := hb.at_ p (by omega)
    exact number2_no1 b off l.length p c _ h0 hl w (hx p (by omega)) y0.1 y0.2

theorem read_cells {w w1 : World} {v : Value} (hb : Below (w.heap.size + 1 + 1) ((w.alloc (.cells #[v] 67)).alloc (.cells #[.int .i64 0, .int .i64 0] 76)) w1) :
    w1.cell? ⟨w.heap.size, 0, none⟩ = some v ∧ w1.cell? ⟨w.heap.size + 1, 0, none⟩ = some (.int .i64 0) ∧ w1.cell? ⟨w.heap.size + 1, 1, none⟩ = some (.int .i64 0) ∧ ∀ j, w1.frozen? ⟨w.heap.size + 1, j, none⟩ = false := by
  refine ⟨(hb.cell (p := ⟨_, _, _⟩) (by simp; omega)).trans ?_, (hb.cell (p := ⟨_, _, _⟩) (by simp)).trans ?_, (hb.cell (p := ⟨_, _, _⟩) (by simp)).trans ?_, fun j => (hb.frozen (p := ⟨_, _, _⟩) (by simp)).trans ?_⟩
  all_goals simp [go_sem]

set_option maxHeartbeats 400000 in
theorem read_out (a : Option Addr) (n c : Nat) (f : Value) (p : Int) (hp : p < 0 ∨ n < p) (w : World) : Calls Try.prog 65 #[.slice a n c, .int .i64 p, f] w (GetPost w 0 0 5 0) := by
  have hmf : ∀ (fn : Fn) (first cap : Array Value) (w : World), (Instr.makeFunc fn first cap).run Try.prog w = .ok (.func fn first cap) w := fun _ _ _ _ => rfl
  go_enter_defers Try.func65, Try.ntmps65
  go_wp2
  all_goals
    simp [Leaves, bodyPostD, results, Try.results65, go_sem]
    exact ⟨rfl, ((Below.refl _ _).alloc (Nat.le_refl _) _).alloc (by simp) _⟩

set_option maxHeartbeats 1000000 in
theorem read16_ok (a : Option Addr) (n c p : Nat) (N E : Int) (hp : p ≤ n) (w : World)
    (H : ∀ w0, Below w.heap.size w w0 → Calls Try.prog 66 #[.slice a n c, .int .i64 p] w0 (NumOk w0 N E)) :
    Calls Try.prog 65 #[.slice a n c, .int .i64 p, .func (.func 66) #[] #[]] w (GetPost w N E 0 0) := by
  have hmf : ∀ (fn : Fn) (first cap : Array Value) (w : World), (Instr.makeFunc fn first cap).run Try.prog w = .ok (.func fn first cap) w := fun _ _ _ _ => rfl
  have hb0 : Below w.heap.size w ((w.alloc (.cells #[.slice a n c] 67)).alloc (.cells #[.int .i64 0, .int .i64 0] 76)) := ((Below.refl _ _).alloc (Nat.le_refl _) _).alloc (by simp) _
  have HB0 := Lib.hid hb0
  have HH := Lib.hid (H _ hb0)
  clear hb0 H
  go_enter_defers Try.func65, Try.ntmps65
  go_wp2_with (go_at_call 66; refine HH.out.mono ?_; rintro e w1 ⟨rfl, hb⟩; simp only [World.size_alloc] at hb; have HB := Lib.hid hb; have hcell := read_cells hb; clear hb; obtain ⟨k0, k1, k2, k3⟩ := hcell)
  refine leaves_cons (f := 70) (args := #[.pointer (some ⟨w.heap.size, 0, none⟩), .pointer (some ⟨w.heap.size + 1, 0, none⟩)]) (by simp) (by simp [go_sem]) ?_
  refine (catch_idle ⟨w.heap.size, 0, none⟩ ⟨w.heap.size + 1, 0, none⟩ _).mono ?_
  rintro e u' w'' ⟨rfl, rfl, rfl⟩
  obtain ⟨m0, m1⟩ := res_set (.int .i64 0) (.int .i64 0) k1 k2
  simp [Leaves, settle, results, Try.results65, go_sem, m0, m1]
  exact ⟨rfl, ((HB0.out.trans (HB.out.mono (by omega))).setCell (by simp) _).setCell (by simp) _⟩

set_option maxHeartbeats 1000000 in
theorem read16_no (a : Option Addr) (n c p : Nat) (hp : p ≤ n) (w : World)
    (H : ∀ w0, Below w.heap.size w w0 → Calls Try.prog 66 #[.slice a n c, .int .i64 p] w0 (NumBad w0)) :
    Calls Try.prog 65 #[.slice a n c, .int .i64 p, .func (.func 66) #[] #[]] w (GetPost w 0 0 4 n) := by
  have hmf : ∀ (fn : Fn) (first cap : Array Value) (w : World), (Instr.makeFunc fn first cap).run Try.prog w = .ok (.func fn first cap) w := fun _ _ _ _ => rfl
  have hb0 : Below w.heap.size w ((w.alloc (.cells #[.slice a n c] 67)).alloc (.cells #[.int .i64 0, .int .i64 0] 76)) := ((Below.refl _ _).alloc (Nat.le_refl _) _).alloc (by simp) _
  have HB0 := Lib.hid hb0
  have HH := Lib.hid (H _ hb0)
  clear hb0 H
  go_enter_defers Try.func65, Try.ntmps65
  go_wp2_with (go_at_call 66; refine HH.out.mono ?_; rintro e w1 ⟨x, y, s, c1, rfl, hb⟩; simp only [World.size_alloc] at hb; have HB := Lib.hid hb; have hcell := read_cells hb; clear hb; obtain ⟨k0, k1, k2, k3⟩ := hcell)
  refine leaves_cons (f := 70) (args := #[.pointer (some ⟨w.heap.size, 0, none⟩), .pointer (some ⟨w.heap.size + 1, 0, none⟩)]) (by simp) (by simp [go_sem]) ?_
  refine (catch_panicking ⟨w.heap.size, 0, none⟩ (w.heap.size + 1) a n c x y s c1 _ k0 k1 k2 k3).mono ?_
  rintro e u' w'' ⟨rfl, rfl, rfl⟩
  obtain ⟨m0, m1⟩ := res_set (.int .i64 4) (.int .i64 n) k1 k2
  simp [Leaves, settle, results, Try.results65, go_sem, m0, m1]
  exact ⟨rfl, ((HB0.out.trans (HB.out.mono (by omega))).setCell (by simp) _).setCell (by simp) _⟩

/-- The fault's number, where it is, and what is told where there is none. -/
def getE (sz len : Nat) (t : Int) : Int := if t < 0 ∨ (len : Int) < t then 5 else if (len : Int) < t + sz then 4 else 0

def getA (sz len : Nat) (t : Int) : Int := if 0 ≤ t ∧ t ≤ (len : Int) ∧ (len : Int) < t + sz then len else 0

def getF (sz len : Nat) (t v : Int) : Int := if 0 ≤ t ∧ t + sz ≤ (len : Int) then v else 0

theorem read16_any {w : World} {lo hi c : Nat} {a : Option Addr} {l : List Int} (h : Sl w lo hi (.slice a l.length c) l) (hb : ByteL l) (hl : l.length ≤ 1000000) (hhi : hi ≤ w.heap.size) (t : Int) :
    Calls Try.prog 65 #[.slice a l.length c, .int .i64 t, .func (.func 66) #[] #[]] w (GetPost w (getF 2 l.length t (nAt2 l t.toNat)) (getF 2 l.length t (t + 2)) (getE 2 l.length t) (getA 2 l.length t)) := by
  by_cases h0 : t < 0 ∨ (l.length : Int) < t
  · have e1 : ∀ v, getF 2 l.length t v = 0 := fun v => by unfold getF; rw [if_neg (by omega)]
    have e2 : getE 2 l.length t = 5 := by unfold getE; rw [if_pos h0]
    have e3 : getA 2 l.length t = 0 := by unfold getA; rw [if_neg (by omega)]
    rw [e1, e1, e2, e3]
    exact read_out a l.length c _ t h0 w
  · obtain ⟨p, rfl⟩ : ∃ p : Nat, t = p := ⟨t.toNat, by omega⟩
    by_cases h1 : p + 2 ≤ l.length
    · have e1 : ∀ v, getF 2 l.length p v = v := fun v => by unfold getF; rw [if_pos (by omega)]
      have e2 : getE 2 l.length p = 0 := by unfold getE; rw [if_neg h0, if_neg (by omega)]
      have e3 : getA 2 l.length p = 0 := by unfold getA; rw [if_neg (by omega)]
      rw [e1, e1, e2, e3, Int.toNat_natCast]
      exact read16_ok a l.length c p _ _ (by omega) w fun w0 hw => number2_fine (h.below hw hhi) hb hl h1
    · have e1 : ∀ v, getF 2 l.length p v = 0 := fun v => by unfold getF; rw [if_neg (by omega)]
      have e2 : getE 2 l.length p = 4 := by unfold getE; rw [if_neg h0, if_pos (by omega)]
      have e3 : getA 2 l.length p = l.length := by unfold getA; rw [if_pos (by omega)]
      rw [e1, e1, e2, e3]
      exact read16_no a l.length c p (by omega) w fun w0 hw => number2_short (h.below hw hhi) hb hl (by omega) (by omega)

set_option maxHeartbeats 400000 in
theorem get16_any {w : World} {lo hi : Nat} {v : Value} {l : List Int} (h : Sl w lo hi v l) (hb : ByteL l) (hl : l.length ≤ 1000000) (hhi : hi ≤ w.heap.size) (t : Int) :
    Calls Try.prog 62 #[v, .int .i64 t] w (GetPost w (getF 2 l.length t (nAt2 l t.toNat)) (getF 2 l.length t (t + 2)) (getE 2 l.length t) (getA 2 l.length t)) := by
  have hb0 : Below w.heap.size w (w.alloc (.cells #[.int .i64 0, .int .i64 0] 76)) := (Below.refl _ _).alloc (Nat.le_refl _) _
  have hs := h.below hb0 hhi
  obtain ⟨a, c, rfl, _⟩ := h
  have HH := Lib.hid (read16_any hs hb hl (by simp; omega) t)
  have HB0 := Lib.hid hb0
  clear hb0 hs hb
  generalize getF 2 l.length t (nAt2 l t.toNat) = N at *
  generalize getF 2 l.length t (t + 2) = E at *
  generalize getE 2 l.length t = F at *
  generalize getA 2 l.length t = A at *
  go_enter Try.func62, Try.ntmps62
  go_wp2_with (go_at_call 65; refine HH.out.mono ?_; rintro e w1 ⟨rfl, hb⟩; simp only [World.size_alloc] at hb; have HB := Lib.hid hb; have hcell := res_cells hb; clear hb; obtain ⟨k1, k2, k3⟩ := hcell)
  obtain ⟨m0, m1⟩ := res_set (.int .i64 F) (.int .i64 A) k1 k2
  refine bodyPost_ret (v := .tuple #[.int .i64 N, .int .i64 E, .agg #[.int .i64 F, .int .i64 A]]) (by simp [results, Try.results62, go_sem, m0, m1]) rfl ⟨rfl, ?_⟩
  exact ((HB0.out.trans (HB.out.mono (by omega))).setCell (by simp) _).setCell (by simp) _

end Go.Proofs.Ytcjgbholgbjejaa

/-
  octet.Bytes.
-/
namespace Go.Proofs.Ytcjgbholgbjejaa
open Go.RowKit
set_option linter.unusedVariables false
set_option maxRecDepth 100000

/-- New bytes, and a number. -/
def PiecePost (w : World) (L : List Int) (E : Int) (e : Ending) (w' : World) : Prop :=
  ∃ v g, e = .returned (.tuple #[v, .int .i64 E]) ∧ Own w' g v L ∧ w.heap.size ≤ g ∧ g < w'.heap.size ∧ Below w.heap.size w w'

set_option maxHeartbeats 1000000 in
theorem piece_no (a : Option Addr) (len c p : Nat) (n : Int) (ha : a = none → len = 0) (hp : p ≤ len) (hl : len ≤ 1000000) (h0 : 0 < n) (h1 : n ≤ 9223372036854775807) (h : (len : Int) < p + n) (w : World) :
    Calls Try.prog 69 #[.slice a len c, .int .i64 p, .int .i64 n] w (NumBad w) := by
  obtain ⟨e1, e2, e3, e4, e5, hrun⟩ := idx_out a len c _ ha (out_wrap p len n hp hl h0 h1 h) w
  have HA := Lib.hid h1
  have HB := Lib.hid h
  clear h1 h ha
  go_enter Try.func69, Try.ntmps69
  go_wp2
  exact ⟨rfl, e1, e2, e3, e5, rfl, below_drewN (Below.refl _ _) _⟩

set_option maxHeartbeats 1000000 in
theorem piece_some {w : World} {lo hi c p m : Nat} {a : Option Addr} {l : List Int} (h : Sl w lo hi (.slice a l.length c) l) (hl : l.length ≤ 1000000) (hm : 0 < m) (hp : p + m ≤ l.length) :
    Calls Try.prog 69 #[.slice a l.length c, .int .i64 p, .int .i64 m] w (PiecePost w (cutL l p m) (p + m)) := by
  have hb1 : Below w.heap.size w (w.alloc (Obj.cells (Array.replicate m (Value.int IntKind.u8 0)) 5)) := (Below.refl _ _).alloc (Nat.le_refl _) _
  obtain ⟨b, off, rfl, hnews⟩ := h.news_cut hb1 p m hm hp
  have hcell : w.cell? ⟨b, off + (p + m - 1), none⟩ = some (.int .u8 (l.getD (p + m - 1) 0)) := by
    obtain ⟨a', c', he, hc, hn, hq⟩ := h
    injection he with e1 e2 e3
    obtain ⟨b', off', e4, _, _, hx⟩ := hq (by omega)
    rw [← e1] at e4
    injection e4 with e4
    injection e4 with e5 e6 e7
    subst e5; subst e6
    exact hx (p + m - 1) (by omega)
  have hcap : l.length ≤ c := by
    obtain ⟨a', c', he, hc, hn, hq⟩ := h
    injection he with e1 e2 e3
    omega
  obtain ⟨x, hx⟩ : ∃ x, x = l.getD (p + m - 1) 0 := ⟨_, rfl⟩
  rw [← hx] at hcell
  have hlc := cutL_len l p m hp
  obtain ⟨cs, hcs⟩ : ∃ cs, cs = (cutL l p m).map (Value.int .u8) := ⟨_, rfl⟩
  have hlen : cs.length = m := by rw [hcs]; simpa using hlc
  have hone : ∀ u ∈ cs, u.oneCell' = true := by rw [hcs]; exact ints_oneCell _ _
  rw [← hcs] at hnews
  obtain ⟨len, hle⟩ : ∃ len, len = l.length := ⟨_, rfl⟩
  rw [← hle] at hp hl hcap ⊢
  have HN := Lib.hid hnews
  have HO := Lib.hid hone
  have HC := Lib.hid hcs
  have HL := Lib.hid hlen
  have HLC := Lib.hid hlc
  have HB1 := Lib.hid hb1
  have hmk := fun wx => makeN m (by omega) wx
  have hcp : ¬ c = p := by omega
  clear hnews hone hcs hlen hb1 hlc h hx hle
  go_enter Try.func69, Try.ntmps69
  go_wp2_with (with_reducible refine wpList_copy_splice rfl (.tmp 20) (.tmp 23) 67 67 rfl 5 Try.underlying67 Try.size5 _ _ _ _ _ _ rfl rfl w.heap.size 0 (List.replicate m (Value.int .u8 0)) 5 ?c1 cs ?c2 ?c3 ?c4 HO.out w.heap.size w HB1.out (Nat.le_refl _) ?_)
  case c1 => rw [List.toArray_replicate]; exact heap_alloc_new w _
  case c2 => rw [HL.out]; exact (Nat.min_eq_right (by omega)).symm
  case c3 => exact fun h0 => HN.out
  case c4 => rw [HL.out]; simp
  rw [HL.out]
  intro w1 HG HB
  have hg : w1.heap[w.heap.size]? = some (.cells ((cutL l p m).map (Value.int .u8)).toArray 5 (0, 0)) := by
    have := HG.out
    rw [splice_all m cs _ HL.out, HC.out] at this
    exact this
  have hlt : w.heap.size < w1.heap.size := (Array.getElem?_eq_some_iff.mp hg).1
  have HB := Lib.hid HB
  have HG2 := Lib.hid hg
  clear hg HG hmk
  go_wp2_with fail
  go_ret2
  exact ⟨_, w.heap.size, rfl, .inr ⟨by rw [HLC.out]; rfl, HG2.out⟩, Nat.le_refl _, hlt, HB.out⟩

set_option maxHeartbeats 1000000 in
theorem piece_none (a : Option Addr) (len c p : Nat) (hc : len ≤ c) (hl : len ≤ 1000000) (hp : p ≤ len) (w : World) :
    Calls Try.prog 69 #[.slice a len c, .int .i64 p, .int .i64 0] w (PiecePost w [] p) := by
  have hmk := fun wx => makeN 0 (by omega) wx
  simp only [Int.natCast_zero, List.replicate_zero] at hmk
  have hbel : Below w.heap.size w (w.alloc (.cells #[] 5)) := (Below.refl _ _).alloc (Nat.le_refl _) _
  have HB := Lib.hid hbel
  clear hbel
  go_enter Try.func69, Try.ntmps69
  go_wp2_with (with_reducible refine wpList_copy_nothing rfl (.tmp 20) (.tmp 23) 67 67 rfl 5 Try.underlying67 Try.size5 _ _ _ _ _ _ rfl rfl (Nat.min_zero _) ?_)
  all_goals
    go_ret2
    exact ⟨_, w.heap.size, rfl, .inr ⟨rfl, heap_alloc_new w _⟩, Nat.le_refl _, by simp, HB.out⟩

theorem piece_fine {w : World} {lo hi c p m : Nat} {a : Option Addr} {l : List Int} (h : Sl w lo hi (.slice a l.length c) l) (hl : l.length ≤ 1000000) (hp : p + m ≤ l.length) :
    Calls Try.prog 69 #[.slice a l.length c, .int .i64 p, .int .i64 m] w (PiecePost w (cutL l p m) (p + m)) := by
  by_cases hm : 0 < m
  · exact piece_some h hl hm hp
  · obtain rfl : m = 0 := by omega
    obtain ⟨a', c', he, hc, _⟩ := h
    injection he with e1 e2 e3
    subst e3
    rw [cutL_none]
    simpa using piece_none a l.length c p hc hl (by omega) w

theorem catch_idle6 (p q : Addr) (w : World) :
    CallsD Try.prog 71 #[.pointer (some p), .pointer (some q)] .returning w fun e u' w' => e = .returned (.tuple #[]) ∧ u' = .returning ∧ w = w' := by
  refine callsD_of_wpS Try.func71 rfl fun c₀ cs hu => ?_
  simp only [Try.ntmps71, List.size_toArray, List.length_cons, List.length_nil, Nat.reduceAdd, Nat.reduceSub, Array.replicate_succ, Array.replicate_zero, List.push_toArray, List.append_toArray, List.nil_append, List.cons_append]
  apply wpS_seq
  apply wpS_region
  simp [wpOpsS, go_sem, recoverD, hu, Exit.thenS, ta_nil]
  refine wpS_of_wp ?_
  go_wp2
  cases c₀
  simp_all [bodyPostS, results, Try.results71]

theorem catch_panicking6 (p : Addr) (g : Nat) (a : Option Addr) (n k : Nat) (x y : Int) (s : Bool) (c : Int) (w : World) (hp : w.cell? p = some (.slice a n k)) (h0 : w.cell? ⟨g, 0, none⟩ = some (.int .i64 0)) (h1 : w.cell? ⟨g, 1, none⟩ = some (.int .i64 0)) (hf : ∀ j, w.frozen? ⟨g, j, none⟩ = false) :
    CallsD Try.prog 71 #[.pointer (some p), .pointer (some ⟨g, 0, none⟩)] (.panicking [{ v := .iface 8 (.agg #[.int .i64 x, .int .i64 y, .bool s, .int .u8 c]), recovered := false }]) w fun e u' w' =>
      e = .returned (.tuple #[]) ∧ u' = .panicking [{ v := .iface 8 (.agg #[.int .i64 x, .int .i64 y, .bool s, .int .u8 c]), recovered := true }] ∧ w' = (w.setCell ⟨g, 0, none⟩ (.int .i64 4)).setCell ⟨g, 1, none⟩ (.int .i64 n) := by
  refine callsD_of_wpS Try.func71 rfl fun c₀ cs hu => ?_
  simp only [Try.ntmps71, List.size_toArray, List.length_cons, List.length_nil, Nat.reduceAdd, Nat.reduceSub, Array.replicate_succ, Array.replicate_zero, List.push_toArray, List.append_toArray, List.nil_append, List.cons_append]
  apply wpS_seq
  apply wpS_region
  simp [wpOpsS, go_sem, recoverD, hu, Exit.thenS, ta_bounds]
  refine wpS_of_wp ?_
  go_wp2
  cases c₀
  simp_all [bodyPostS, results, Try.results71]

def BytesPost (w : World) (L : List Int) (E F A : Int) (e : Ending) (w' : World) : Prop :=
  ∃ v g, e = .returned (.tuple #[v, .int .i64 E, .agg #[.int .i64 F, .int .i64 A]]) ∧ Own w' g v L ∧ w.heap.size ≤ g ∧ g < w'.heap.size ∧ Below w.heap.size w w'

set_option maxHeartbeats 400000 in
theorem in33_fine {w : World} {a : Option Addr} {n c p m : Nat} {q : Addr} {L : List Int} {E : Int} (hq : w.cell? q = some (.int .i64 m)) (H : Calls Try.prog 69 #[.slice a n c, .int .i64 p, .int .i64 m] w (PiecePost w L E)) :
    Calls Try.prog 68 #[.slice a n c, .int .i64 p, .pointer (some q)] w (PiecePost w L E) := by
  have HH := Lib.hid H
  clear H
  go_enter Try.func68, Try.ntmps68
  go_wp2_with (go_at_call 69; refine HH.out.mono ?_; rintro e w1 ⟨v, g, rfl, h1, h2, h3, h4⟩; have H1 := Lib.hid h1; have H2 := Lib.hid h2; have H3 := Lib.hid h3; have H4 := Lib.hid h4; clear h1 h2 h3 h4)
  go_ret2
  exact ⟨v, g, rfl, H1.out, H2.out, H3.out, H4.out⟩

set_option maxHeartbeats 400000 in
theorem in33_short {w : World} {a : Option Addr} {n c p : Nat} {m : Int} {q : Addr} (hq : w.cell? q = some (.int .i64 m)) (H : Calls Try.prog 69 #[.slice a n c, .int .i64 p, .int .i64 m] w (NumBad w)) :
    Calls Try.prog 68 #[.slice a n c, .int .i64 p, .pointer (some q)] w (NumBad w) := by
  have HH := Lib.hid H
  clear H
  go_enter Try.func68, Try.ntmps68
  go_wp2_with (go_at_call 69; refine HH.out.mono ?_; rintro e w1 ⟨x, y, s, c1, rfl, hb⟩; have HB := Lib.hid hb; clear hb)
  exact ⟨rfl, x, y, s, c1, rfl, HB.out⟩

set_option maxHeartbeats 400000 in
theorem readb_out (a : Option Addr) (n c : Nat) (f : Value) (p : Int) (hp : p < 0 ∨ n < p) (w : World) : Calls Try.prog 67 #[.slice a n c, .int .i64 p, f] w (BytesPost w [] 0 5 0) := by
  have hmf : ∀ (fn : Fn) (first cap : Array Value) (w : World), (Instr.makeFunc fn first cap).run Try.prog w = .ok (.func fn first cap) w := fun _ _ _ _ => rfl
  go_enter_defers Try.func67, Try.ntmps67
  go_wp2
  all_goals
    simp [Leaves, bodyPostD, results, Try.results67, go_sem]
    exact ⟨_, w.heap.size, rfl, .inl ⟨rfl, rfl⟩, Nat.le_refl _, by simp; omega, ((Below.refl _ _).alloc (Nat.le_refl _) _).alloc (by simp) _⟩

set_option maxHeartbeats 1000000 in
theorem readb_ok (a : Option Addr) (n c p : Nat) (q : Addr) (L : List Int) (E : Int) (hp : p ≤ n) (w : World)
    (H : ∀ w0, Below w.heap.size w w0 → Calls Try.prog 68 #[.slice a n c, .int .i64 p, .pointer (some q)] w0 (PiecePost w0 L E)) :
    Calls Try.prog 67 #[.slice a n c, .int .i64 p, .func (.func 68) #[] #[.pointer (some q)]] w (BytesPost w L E 0 0) := by
  have hmf : ∀ (fn : Fn) (first cap : Array Value) (w : World), (Instr.makeFunc fn first cap).run Try.prog w = .ok (.func fn first cap) w := fun _ _ _ _ => rfl
  have hb0 : Below w.heap.size w ((w.alloc (.cells #[.slice a n c] 67)).alloc (.cells #[.int .i64 0, .int .i64 0] 76)) := ((Below.refl _ _).alloc (Nat.le_refl _) _).alloc (by simp) _
  have HB0 := Lib.hid hb0
  have HH := Lib.hid (H _ hb0)
  clear hb0 H
  go_enter_defers Try.func67, Try.ntmps67
  go_wp2_with (go_at_call 68; refine HH.out.mono ?_; rintro e w1 ⟨v, g, rfl, h1, h2, h3, hb⟩; simp only [World.size_alloc] at hb h2; have H1 := Lib.hid h1; have H2 := Lib.hid h2; have H3 := Lib.hid h3; have HB := Lib.hid hb; have hcell := read_cells hb; clear hb h1 h2 h3; obtain ⟨k0, k1, k2, k3⟩ := hcell)
  refine leaves_cons (f := 71) (args := #[.pointer (some ⟨w.heap.size, 0, none⟩), .pointer (some ⟨w.heap.size + 1, 0, none⟩)]) (by simp) (by simp [go_sem]) ?_
  refine (catch_idle6 ⟨w.heap.size, 0, none⟩ ⟨w.heap.size + 1, 0, none⟩ _).mono ?_
  rintro e u' w'' ⟨rfl, rfl, rfl⟩
  obtain ⟨m0, m1⟩ := res_set (.int .i64 0) (.int .i64 0) k1 k2
  simp [Leaves, settle, results, Try.results67, go_sem, m0, m1]
  have g2 := H2.out
  refine ⟨v, g, rfl, (H1.out.set (by simp; omega) _).set (by simp; omega) _, by omega, ?_, ((HB0.out.trans (HB.out.mono (by omega))).setCell (by simp) _).setCell (by simp) _⟩
  have := H3.out
  simpa [World.setCell] using this

set_option maxHeartbeats 1000000 in
theorem readb_no (a : Option Addr) (n c p : Nat) (q : Addr) (hp : p ≤ n) (w : World)
    (H : ∀ w0, Below w.heap.size w w0 → Calls Try.prog 68 #[.slice a n c, .int .i64 p, .pointer (some q)] w0 (NumBad w0)) :
    Calls Try.prog 67 #[.slice a n c, .int .i64 p, .func (.func 68) #[] #[.pointer (some q)]] w (BytesPost w [] 0 4 n) := by
  have hmf : ∀ (fn : Fn) (first cap : Array Value) (w : World), (Instr.makeFunc fn first cap).run Try.prog w = .ok (.func fn first cap) w := fun _ _ _ _ => rfl
  have hb0 : Below w.heap.size w ((w.alloc (.cells #[.slice a n c] 67)).alloc (.cells #[.int .i64 0, .int .i64 0] 76)) := ((Below.refl _ _).alloc (Nat.le_refl _) _).alloc (by simp) _
  have HB0 := Lib.hid hb0
  have HH := Lib.hid (H _ hb0)
  clear hb0 H
  go_enter_defers Try.func67, Try.ntmps67
  go_wp2_with (go_at_call 68; refine HH.out.mono ?_; rintro e w1 ⟨x, y, s, c1, rfl, hb⟩; simp only [World.size_alloc] at hb; have HB := Lib.hid hb; have hcell := read_cells hb; clear hb; obtain ⟨k0, k1, k2, k3⟩ := hcell)
  refine leaves_cons (f := 71) (args := #[.pointer (some ⟨w.heap.size, 0, none⟩), .pointer (some ⟨w.heap.size + 1, 0, none⟩)]) (by simp) (by simp [go_sem]) ?_
  refine (catch_panicking6 ⟨w.heap.size, 0, none⟩ (w.heap.size + 1) a n c x y s c1 _ k0 k1 k2 k3).mono ?_
  rintro e u' w'' ⟨rfl, rfl, rfl⟩
  obtain ⟨m0, m1⟩ := res_set (.int .i64 4) (.int .i64 n) k1 k2
  simp [Leaves, settle, results, Try.results67, go_sem, m0, m1]
  have hsz := HB.out.size
  simp only [World.size_alloc] at hsz
  refine ⟨_, w.heap.size, rfl, .inl ⟨rfl, rfl⟩, Nat.le_refl _, ?_, ((HB0.out.trans (HB.out.mono (by omega))).setCell (by simp) _).setCell (by simp) _⟩
  simp [World.setCell]
  omega

theorem read_cells' {w w1 : World} {v : Value} (hb : Below (w.heap.size + 1 + 1) ((w.alloc (.cells #[v] 3)).alloc (.cells #[.int .i64 0, .int .i64 0] 76)) w1) :
    w1.cell? ⟨w.heap.size + 1, 0, none⟩ = some (.int .i64 0) ∧ w1.cell? ⟨w.heap.size + 1, 1, none⟩ = some (.int .i64 0) ∧ ∀ j, w1.frozen? ⟨w.heap.size + 1, j, none⟩ = false := by
  refine ⟨(hb.cell (p := ⟨_, _, _⟩) (by simp)).trans ?_, (hb.cell (p := ⟨_, _, _⟩) (by simp)).trans ?_, fun j => (hb.frozen (p := ⟨_, _, _⟩) (by simp)).trans ?_⟩
  all_goals simp [go_sem]

def bytE (len : Nat) (t n : Int) : Int := if n < 0 then 2 else if t < 0 ∨ (len : Int) < t then 5 else if (len : Int) < t + n then 4 else 0

def bytA (len : Nat) (t n : Int) : Int := if 0 ≤ n ∧ 0 ≤ t ∧ t ≤ (len : Int) ∧ (len : Int) < t + n then len else 0

def bytF (len : Nat) (t n : Int) : Int := if 0 ≤ n ∧ 0 ≤ t ∧ t + n ≤ (len : Int) then t + n else 0

def bytL (l : List Int) (t n : Int) : List Int := if 0 ≤ n ∧ 0 ≤ t ∧ t + n ≤ (l.length : Int) then cutL l t.toNat n.toNat else []

set_option maxHeartbeats 400000 in
theorem bytes_arg (a : Option Addr) (n c : Nat) (t m : Int) (hm : m < 0) (w : World) : Calls Try.prog 63 #[.slice a n c, .int .i64 t, .int .i64 m] w (BytesPost w [] 0 2 0) := by
  go_enter Try.func63, Try.ntmps63
  go_wp2
  refine bodyPost_ret (v := .tuple #[.slice none 0 0, .int .i64 0, .agg #[.int .i64 2, .int .i64 0]]) (by simp [results, Try.results63, go_sem]) rfl ⟨_, w.heap.size, rfl, .inl ⟨rfl, rfl⟩, Nat.le_refl _, by simp; omega, ?_⟩
  exact ((Below.refl _ _).alloc (Nat.le_refl _) _).alloc (by simp) _

set_option maxHeartbeats 400000 in
theorem bytes_rest (a : Option Addr) (n c : Nat) (t m : Int) (L : List Int) (E F A : Int) (hm : 0 ≤ m) (w : World)
    (H : ∀ w0 q, Below w.heap.size w w0 → w0.cell? q = some (.int .i64 m) → Calls Try.prog 67 #[.slice a n c, .int .i64 t, .func (.func 68) #[] #[.pointer (some q)]] w0 (BytesPost w0 L E F A)) :
    Calls Try.prog 63 #[.slice a n c, .int .i64 t, .int .i64 m] w (BytesPost w L E F A) := by
  have hmf : ∀ (fn : Fn) (first cap : Array Value) (w : World), (Instr.makeFunc fn first cap).run Try.prog w = .ok (.func fn first cap) w := fun _ _ _ _ => rfl
  have hb0 : Below w.heap.size w ((w.alloc (.cells #[.int .i64 m] 3)).alloc (.cells #[.int .i64 0, .int .i64 0] 76)) := ((Below.refl _ _).alloc (Nat.le_refl _) _).alloc (by simp) _
  have HB0 := Lib.hid hb0
  have HH := Lib.hid (H _ ⟨w.heap.size, 0, none⟩ hb0 (by simp [go_sem]))
  clear hb0 H
  go_enter Try.func63, Try.ntmps63
  go_wp2_with (go_at_call 67; refine HH.out.mono ?_; rintro e w1 ⟨v, g, rfl, h1, h2, h3, hb⟩; simp only [World.size_alloc] at hb h2; have H1 := Lib.hid h1; have H2 := Lib.hid h2; have H3 := Lib.hid h3; have HB := Lib.hid hb; have hcell := read_cells' hb; clear hb h1 h2 h3; obtain ⟨k1, k2, k3⟩ := hcell)
  obtain ⟨m0, m1⟩ := res_set (.int .i64 F) (.int .i64 A) k1 k2
  have g2 := H2.out
  have g3 := H3.out
  refine bodyPost_ret (v := .tuple #[v, .int .i64 E, .agg #[.int .i64 F, .int .i64 A]]) (by simp [results, Try.results63, go_sem, m0, m1]) rfl
    ⟨v, g, rfl, (H1.out.set (by simp; omega) _).set (by simp; omega) _, by omega, by simpa [World.setCell] using g3, ((HB0.out.trans (HB.out.mono (by omega))).setCell (by simp) _).setCell (by simp) _⟩

theorem readb_any {w : World} {lo hi c : Nat} {a : Option Addr} {l : List Int} (h : Sl w lo hi (.slice a l.length c) l) (hl : l.length ≤ 1000000) (hhi : hi ≤ w.heap.size) (t m : Int) (h0 : 0 ≤ m) (h1 : m ≤ 9223372036854775807) (q : Addr) (hq : w.cell? q = some (.int .i64 m)) :
    Calls Try.prog 67 #[.slice a l.length c, .int .i64 t, .func (.func 68) #[] #[.pointer (some q)]] w (BytesPost w (bytL l t m) (bytF l.length t m) (bytE l.length t m) (bytA l.length t m)) := by
  have hn : a = none → l.length = 0 := by
    obtain ⟨a', c', he, hc, hn, _⟩ := h
    injection he with e1 e2 e3
    subst e1; subst e3
    intro ha
    have := hn ha
    omega
  by_cases h2 : t < 0 ∨ (l.length : Int) < t
  · have e1 : bytL l t m = [] := by unfold bytL; rw [if_neg (by omega)]
    have e2 : bytF l.length t m = 0 := by unfold bytF; rw [if_neg (by omega)]
    have e3 : bytE l.length t m = 5 := by unfold bytE; rw [if_neg (by omega), if_pos h2]
    have e4 : bytA l.length t m = 0 := by unfold bytA; rw [if_neg (by omega)]
    rw [e1, e2, e3, e4]
    exact readb_out a l.length c _ t h2 w
  · obtain ⟨p, rfl⟩ : ∃ p : Nat, t = p := ⟨t.toNat, by omega⟩
    by_cases h3 : (p : Int) + m ≤ l.length
    · obtain ⟨k, rfl⟩ : ∃ k : Nat, m = k := ⟨m.toNat, by omega⟩
      have e1 : bytL l p k = cutL l p k := by unfold bytL; rw [if_pos (by omega), Int.toNat_natCast, Int.toNat_natCast]
      have e2 : bytF l.length p k = p + k := by unfold bytF; rw [if_pos (by omega)]
      have e3 : bytE l.length p k = 0 := by unfold bytE; rw [if_neg (by omega), if_neg h2, if_neg (by omega)]
      have e4 : bytA l.length p k = 0 := by unfold bytA; rw [if_neg (by omega)]
      rw [e1, e2, e3, e4]
      exact readb_ok a l.length c p q _ _ (by omega) w fun w0 hw => in33_fine (cell_later hw hq) (piece_fine (h.below hw hhi) hl (by omega))
    · have e1 : bytL l p m = [] := by unfold bytL; rw [if_neg (by omega)]
      have e2 : bytF l.length p m = 0 := by unfold bytF; rw [if_neg (by omega)]
      have e3 : bytE l.length p m = 4 := by unfold bytE; rw [if_neg (by omega), if_neg h2, if_pos (by omega)]
      have e4 : bytA l.length p m = l.length := by unfold bytA; rw [if_pos (by omega)]
      rw [e1, e2, e3, e4]
      exact readb_no a l.length c p q (by omega) w fun w0 hw => in33_short (cell_later hw hq) (piece_no a l.length c p m hn (by omega) hl (by omega) h1 (by omega) w0)

theorem bytes_any {w : World} {lo hi : Nat} {v : Value} {l : List Int} (h : Sl w lo hi v l) (hl : l.length ≤ 1000000) (hhi : hi ≤ w.heap.size) (t m : Int) (h1 : m ≤ 9223372036854775807) :
    Calls Try.prog 63 #[v, .int .i64 t, .int .i64 m] w (BytesPost w (bytL l t m) (bytF l.length t m) (bytE l.length t m) (bytA l.length t m)) := by
  have hs := h
  obtain ⟨a, c, rfl, _⟩ := h
  by_cases h0 : m < 0
  · have e1 : bytL l t m = [] := by unfold bytL; rw [if_neg (by omega)]
    have e2 : bytF l.length t m = 0 := by unfold bytF; rw [if_neg (by omega)]
    have e3 : bytE l.length t m = 2 := by unfold bytE; rw [if_pos h0]
    have e4 : bytA l.length t m = 0 := by unfold bytA; rw [if_neg (by omega)]
    rw [e1, e2, e3, e4]
    exact bytes_arg a l.length c t m h0 w
  · exact bytes_rest a l.length c t m _ _ _ _ (by omega) w fun w0 q hw hq => readb_any (hs.below hw hhi) hl (Nat.le_trans hhi hw.size) t m (by omega) h1 q hq

theorem bytes_at (l : List Int) (p k : Nat) (hl : l.length ≤ 1000000) (h : p + k ≤ l.length) :
    ∀ wx {lo hi : Nat} {v : Value}, Sl wx lo hi v l → Calls Try.prog 63 #[v, .int .i64 p, .int .i64 k] wx (BytesPost wx (cutL l p k) (p + k) 0 0) := fun wx _ _ _ hs => by
  have e1 : bytL l p k = cutL l p k := by unfold bytL; rw [if_pos (by omega), Int.toNat_natCast, Int.toNat_natCast]
  have e2 : bytF l.length p k = p + k := by unfold bytF; rw [if_pos (by omega)]
  have e3 : bytE l.length p k = 0 := by unfold bytE; rw [if_neg (by omega), if_neg (by omega), if_neg (by omega)]
  have e4 : bytA l.length p k = 0 := by unfold bytA; rw [if_neg (by omega)]
  have := bytes_any hs.top hl (Nat.le_refl _) p k (by omega)
  rw [e1, e2, e3, e4] at this
  exact this

theorem bytes_at_no (l : List Int) (p k : Nat) (hl : l.length ≤ 1000000) (h : p ≤ l.length) (h1 : l.length < p + k) (h2 : k ≤ 1000000 := by omega) :
    ∀ wx {lo hi : Nat} {v : Value}, Sl wx lo hi v l → Calls Try.prog 63 #[v, .int .i64 p, .int .i64 k] wx (BytesPost wx [] 0 4 l.length) := fun wx _ _ _ hs => by
  have e1 : bytL l p k = [] := by unfold bytL; rw [if_neg (by omega)]
  have e2 : bytF l.length p k = 0 := by unfold bytF; rw [if_neg (by omega)]
  have e3 : bytE l.length p k = 4 := by unfold bytE; rw [if_neg (by omega), if_neg (by omega), if_pos (by omega)]
  have e4 : bytA l.length p k = l.length := by unfold bytA; rw [if_pos (by omega)]
  have := bytes_any hs.top hl (Nat.le_refl _) p k (by omega)
  rw [e1, e2, e3, e4] at this
  exact this

end Go.Proofs.Ytcjgbholgbjejaa

/-
  A range over a function, over an iterator that yields texts: what the iterator keeps and what it turns, a caller's invariant, a body; panics of the iterator pass through.
-/
namespace Go.Proofs.Ytcjgbholgbjejaa
open Go.RowKit
set_option linter.unusedVariables false
set_option maxRecDepth 100000

/-- But for the blocks G the world is as it was. -/
structure Aside (G : Nat → Prop) (w w' : World) : Prop where
  os : w'.os = w.os
  tape : w'.tape = w.tape
  output : w'.output = w.output
  size : w.heap.size ≤ w'.heap.size
  block : ∀ k, k < w.heap.size → ¬ G k → w'.heap[k]? = w.heap[k]?

section
variable {G G' : Nat → Prop} {w w1 w2 : World} {B : Nat}
theorem Aside.refl (G : Nat → Prop) (w : World) : Aside G w w := ⟨rfl, rfl, rfl, Nat.le_refl _, fun _ _ _ => rfl⟩
theorem Aside.trans (h : Aside G w w1) (k : Aside G w1 w2) : Aside G w w2 :=
  ⟨k.os.trans h.os, k.tape.trans h.tape, k.output.trans h.output, Nat.le_trans h.size k.size, fun i hi hg => (k.block i (Nat.lt_of_lt_of_le hi h.size) hg).trans (h.block i hi hg)⟩
theorem Aside.mono (h : Aside G w w1) (hG : ∀ k, k < w.heap.size → G k → G' k) : Aside G' w w1 := ⟨h.os, h.tape, h.output, h.size, fun k hk hg => h.block k hk (fun e => hg (hG k hk e))⟩
theorem Aside.of_below (h : Below B w w1) (hB : ∀ k, k < w.heap.size → ¬ G k → k < B) : Aside G w w1 := ⟨h.os, h.tape, h.output, h.size, fun k hk hg => h.block k (hB k hk hg)⟩
theorem Aside.of_all (h : Below w.heap.size w w1) : Aside G w w1 := Aside.of_below h fun _ hk _ => hk
theorem Aside.below (h : Aside G w w1) (hB : ∀ k, k < B → k < w.heap.size ∧ ¬ G k) : Below B w w1 := ⟨h.os, h.tape, h.output, h.size, fun k hk => h.block k (hB k hk).1 (hB k hk).2⟩
theorem Aside.cell (h : Aside G w w1) {p : Addr} (hp : p.block < w.heap.size) (hg : ¬ G p.block) : w1.cell? p = w.cell? p := World.cell?_of_block (w := w) (h.block p.block hp hg)
theorem Aside.frozen (h : Aside G w w1) {p : Addr} (hp : p.block < w.heap.size) (hg : ¬ G p.block) : w1.frozen? p = w.frozen? p := World.frozen?_of_block (w := w) (h.block p.block hp hg)
theorem Aside.cell_lt (h : Aside G w w1) {p : Addr} {v : Value} (hv : w.cell? p = some v) (hg : ¬ G p.block) : w1.cell? p = some v := (h.cell (World.block_lt_of_cell? w p hv) hg).trans hv
theorem Aside.alloc (w : World) (o : Obj) : Aside G w (w.alloc o) := ⟨rfl, rfl, rfl, by simp, fun k hk _ => Below.heap_alloc _ _ _ hk⟩
theorem Aside.putObj (w : World) {r : Nat} (o : Obj) (hr : G r) : Aside G w (w.putObj r o) := ⟨rfl, rfl, rfl, by simp, fun k _ hg => World.putObj_heap_other (fun e => hg (e ▸ hr))⟩
theorem Aside.setCell (w : World) {p : Addr} (v : Value) (hr : G p.block) : Aside G w (w.setCell p v) := ⟨rfl, rfl, rfl, by simp [World.setCell], fun k _ hg => Below.heap_setCell _ _ _ _ (fun e => hg (e ▸ hr))⟩
theorem Aside.drewN (w : World) (n : Nat) : Aside G w (w.drewN n) := ⟨rfl, rfl, rfl, Nat.le_refl _, fun _ _ _ => rfl⟩
theorem Aside.grown {row : Option Nat} (hg : w.grownBy w1 row) (hr : ∀ k, row = some k → G k) : Aside G w w1 :=
  ⟨hg.os, hg.tape, hg.output, hg.size, fun k hk hn => hg.block k hk (fun e => hn (hr k e.symm))⟩
theorem below_aside (h : Below B w w1) (k : Aside G w1 w2) (hB : ∀ k, k < B → k < w1.heap.size ∧ ¬ G k) : Below B w w2 := h.trans (k.below hB)
end

/-- How an iterator ends: all have come; a round said 'no more'; it panics behind all of them. -/
def SeqEnd (m : Nat) (fin : Option (List PanicEntry)) (J Jx : Nat → World → Prop) (e : Ending) (B : World) : Prop :=
  (fin = none ∧ (∃ v, e = .returned v) ∧ J m B) ∨ ((∃ v, e = .returned v) ∧ ∃ k, k ≤ m ∧ Jx k B) ∨ (∃ ch, fin = some ch ∧ e = .panicked ch ∧ J m B)

/-- A function's contract from its body, where the body holds a range over a function. -/
theorem calls_of_wp_marks {P : Program} {f : FuncId} {fn : Func} {c : Code} {args : Array Value} {w : World} {R : Ending → World → Prop}
    (hf : P.funcs[f]? = some fn) (hb : fn.body = some c)
    (h : c.wp P (bodyPostM Fence.wide 0 P fn R) { tmps := args ++ Array.replicate (fn.ntmps - args.size) undef, defers := [] } w) : Calls P f args w R :=
  (callsIn_wide (n := 0)).1 (callsIn_of_wp_marks hf hb trivial ((wpIn_wide (n := 0)).2 h))
/-- Steps that turn blocks of G or such that were not there. -/
theorem Aside.onto {G M : Nat → Prop} {w W W' : World} (h : Aside G w W) (k : Aside M W W') (hM : ∀ b, b < w.heap.size → ¬ G b → ¬ M b) : Aside G w W' :=
  ⟨k.os.trans h.os, k.tape.trans h.tape, k.output.trans h.output, Nat.le_trans h.size k.size, fun b hb hg => (k.block b (Nat.lt_of_lt_of_le hb h.size) (hM b hb hg)).trans (h.block b hb hg)⟩

theorem Aside.shut {G : Nat → Prop} {w W : World} {D : Nat} {o : Obj} (h : Aside G w W) (hD : w.heap.size ≤ D) : Aside G w (W.putObj D o) :=
  h.onto (M := fun b => b = D) (Aside.putObj _ _ rfl) fun b hb _ => by omega

/-- Behind the loop: its block of deferred calls is shut; what is told is read off. -/
theorem marks_ret {P : Program} {fn : Func} {R : Ending → World → Prop} {tmps : Array Value} {W : World} {D : Nat} {args : Array Value} (hK : W.heap[D]? = some (.deferred (some []))) (v : Value)
    (hv : (results fn tmps).run P (W.putObj D (.deferred none)) = .ok v (W.putObj D (.deferred none))) (h : R (.returned v) (W.putObj D (.deferred none))) :
    bodyPostM Fence.wide 0 P fn R .ret { tmps := tmps, defers := [{ target := .collected D, args := args }] } W := by
  refine ⟨by simp, .inl ⟨_, _, rfl, run_takeDeferred hK, ?_⟩⟩
  exact ⟨v, hv, h⟩

end Go.Proofs.Ytcjgbholgbjejaa

/-
  Texts as lists of bytes; the labels with which bytes begin; slices of texts as lists.
-/
namespace Go.Proofs.Ytcjgbholgbjejaa
open Go.RowKit
set_option linter.unusedVariables false
set_option maxRecDepth 100000

/-- The text of these bytes. -/
def bs (l : List UInt8) : ByteArray := ⟨l.toArray⟩
@[simp] theorem bs_size (l : List UInt8) : (bs l).size = l.length := by simp [bs, ByteArray.size]
theorem bs_eta (s : ByteArray) : s = bs s.data.toList := by simp [bs]
/-- What is left behind them. -/
def left : List UInt8 → List UInt8
  | [] => []
  | c :: r => if c.toNat = 0 ∨ 63 < c.toNat ∨ r.length < c.toNat then c :: r else left (r.drop c.toNat)
termination_by l => l.length
decreasing_by simp; omega

/-! ### operations on texts, as they run -/
end Go.Proofs.Ytcjgbholgbjejaa

/-
  Check, is.
-/
namespace Go.Proofs.Ytcjgbholgbjejaa
open Go.RowKit Go.Shelf
set_option linter.unusedVariables false
set_option maxRecDepth 100000
attribute [local go_sem] Oper.semAt_some

/-- Labels as bytes: each behind its length. -/
def wire : List (List UInt8) → List UInt8
  | [] => []
  | l :: r => UInt8.ofNat l.length :: l ++ wire r

theorem wire_app (a b : List (List UInt8)) : wire (a ++ b) = wire a ++ wire b := by
  induction a with
  | nil => rfl
  | cons x r ih => simp [wire, ih]

theorem wire_snoc (a : List (List UInt8)) (x : List UInt8) : (wire (a ++ [x])).length = (wire a).length + (1 + x.length) := by
  rw [wire_app]
  simp [wire]
  omega

/-- Block b is a cell of the call's own that holds v. -/
def Bx (W : World) (b : Nat) (v : Value) : Prop := W.cell? ⟨b, 0, none⟩ = some v ∧ W.frozen? ⟨b, 0, none⟩ = false

theorem Bx.lt {W : World} {b : Nat} {v : Value} (h : Bx W b v) : b < W.heap.size := World.block_lt_of_cell? W _ h.1
theorem Bx.aside {G : Nat → Prop} {A B : World} {b : Nat} {v : Value} (h : Bx A b v) (ha : Aside G A B) (hg : ¬ G b) : Bx B b v :=
  ⟨(ha.cell h.lt hg).trans h.1, (ha.frozen h.lt hg).trans h.2⟩
theorem Bx.set {W : World} {b : Nat} {u : Value} (h : Bx W b u) (v : Value) : Bx (W.setCell ⟨b, 0, none⟩ v) b v :=
  ⟨World.cell?_setCell_same _ _ _ h.1, by rw [World.frozen?_setCell]; exact h.2⟩

/-- Check's answer. -/
def chk (n : List UInt8) : Int := if left n = [0] then (if 255 < n.length then 3 else 0) else 4

/-- A call that tells v and leaves what was there as it was. -/
def Tells (w : World) (v : Value) (e : Ending) (w' : World) : Prop := e = .returned v ∧ Below w.heap.size w w'

end Go.Proofs.Ytcjgbholgbjejaa

/-
  Rows of the call's own whose places behind the length hold the zero value: elements of one cell.
-/
namespace Go.Proofs.Ytcjgbholgbjejaa
open Go.RowKit
set_option linter.unusedVariables false
set_option maxRecDepth 100000

/-- v is nil, or a row in a block from B on: the cells cs, then zeros up to the capacity. -/
def OwnZ (w : World) (B : Nat) (e : TypeId) (z : Value) (v : Value) (cs : List Value) : Prop :=
  (v = .slice none 0 0 ∧ cs = []) ∨ ∃ g cap, v = .slice (some ⟨g, 0, none⟩) cs.length cap ∧ B ≤ g ∧ cs.length ≤ cap ∧ cap ≤ maxLen ∧ w.heap[g]? = some (.cells (cs ++ List.replicate (cap - cs.length) z).toArray e (0, 0))

section
variable {w w' : World} {B B' : Nat} {e : TypeId} {z v : Value} {cs : List Value} {G : Nat → Prop}
theorem OwnZ.nil (w : World) (B : Nat) (e : TypeId) (z : Value) : OwnZ w B e z (.slice .none 0 0) [] := .inl ⟨rfl, rfl⟩
theorem OwnZ.lt (h : OwnZ w B e z v cs) : ∀ k, v.ownBlock = some k → B ≤ k ∧ k < w.heap.size := by
  intro k hk
  rcases h with ⟨rfl, _⟩ | ⟨g, cap, rfl, hB, _, _, hg⟩
  · simp [Value.ownBlock] at hk
  · simp [Value.ownBlock] at hk
    subst hk
    exact ⟨hB, (Array.getElem?_eq_some_iff.1 hg).1⟩
theorem OwnZ.aside (h : OwnZ w B e z v cs) (ha : Aside G w w') (hG : ∀ b, B ≤ b → ¬ G b) : OwnZ w' B e z v cs := by
  have hlt := h.lt
  rcases h with h2 | ⟨g, cap, hv, hg, h1, h2, hh⟩
  · exact .inl h2
  · exact .inr ⟨g, cap, hv, hg, h1, h2, (ha.block g (by subst hv; exact (hlt g rfl).2) (hG g hg)).trans hh⟩
theorem OwnZ.mono (h : OwnZ w B e z v cs) (hB : B' ≤ B) : OwnZ w B' e z v cs := by
  rcases h with h2 | ⟨g, cap, hv, hg, r⟩
  · exact .inl h2
  · exact .inr ⟨g, cap, hv, Nat.le_trans hB hg, r⟩
theorem OwnZ.below (h : OwnZ w B e z v cs) (hb : Below w.heap.size w w') : OwnZ w' B e z v cs := h.aside (G := fun _ => False) (Aside.of_all hb) fun _ _ h => h
end

theorem zeroCells_one (z : Value) (hz : z.cells = #[z]) (n : Nat) : Builtin.zeroCells z.cells n = (List.replicate n z).toArray := by
  rw [hz]
  apply Array.ext
  · simp [Builtin.zeroCells]
  · intro i h1 h2
    simp [Builtin.zeroCells, Nat.mod_one]

end Go.Proofs.Ytcjgbholgbjejaa

/-
  Slices of texts as lists of lists of bytes; rows of the call's own; append; cuts.
-/
namespace Go.Proofs.Ytcjgbholgbjejaa
open Go.RowKit
set_option linter.unusedVariables false
set_option maxRecDepth 100000

/-- A text as a value. -/
def tv (x : List UInt8) : Value := .string (bs x)

/-- The slice value v reads as the texts l; what it leads to lies in blocks from lo on, below hi. -/
def St (w : World) (lo hi : Nat) (v : Value) (l : List (List UInt8)) : Prop :=
  ∃ a c, v = .slice a l.length c ∧ l.length ≤ c ∧ (a = none → c = 0) ∧ (0 < l.length → ∃ b off, a = some ⟨b, off, none⟩ ∧ lo ≤ b ∧ b < hi ∧ ∀ j, j < l.length → w.cell? ⟨b, off + j, none⟩ = some (tv (l.getD j [])))

section
variable {w w' : World} {lo hi lo' hi' B : Nat} {v : Value} {l : List (List UInt8)}
theorem St.keep (h : St w lo hi v l) (hk : ∀ b o, lo ≤ b → b < hi → b < w.heap.size → w'.cell? ⟨b, o, none⟩ = w.cell? ⟨b, o, none⟩) : St w' lo hi v l := by
  obtain ⟨a, c, rfl, hc, hn, hp⟩ := h
  refine ⟨a, c, rfl, hc, hn, fun h0 => ?_⟩
  obtain ⟨b, off, rfl, h1, h2, h3⟩ := hp h0
  exact ⟨b, off, rfl, h1, h2, fun j hj => (hk b _ h1 h2 (World.block_lt_of_cell? w _ (h3 j hj))).trans (h3 j hj)⟩
theorem St.below (h : St w lo hi v l) (hb : Below B w w') (hB : hi ≤ B) : St w' lo hi v l :=
  h.keep fun b o _ h2 _ => hb.cell (p := ⟨b, o, none⟩) (Nat.lt_of_lt_of_le h2 hB)
theorem St.later (h : St w lo hi v l) (hb : Below w.heap.size w w') : St w' lo hi v l :=
  h.keep fun b o _ _ h3 => hb.cell (p := ⟨b, o, none⟩) h3
theorem St.aside {G : Nat → Prop} (h : St w lo hi v l) (ha : Aside G w w') (hG : ∀ b, lo ≤ b → b < hi → ¬ G b) : St w' lo hi v l :=
  h.keep fun b o h1 h2 h3 => ha.cell (p := ⟨b, o, none⟩) h3 (hG b h1 h2)
theorem St.wide (h : St w lo hi v l) (h1 : lo' ≤ lo) (h2 : hi ≤ hi') : St w lo' hi' v l := by
  obtain ⟨a, c, rfl, hc, hn, hp⟩ := h
  refine ⟨a, c, rfl, hc, hn, fun h0 => ?_⟩
  obtain ⟨b, off, rfl, h3, h4, h5⟩ := hp h0
  exact ⟨b, off, rfl, by omega, by omega, h5⟩
theorem St.top (h : St w lo hi v l) : St w 0 w.heap.size v l := by
  obtain ⟨a, c, rfl, hc, hn, hp⟩ := h
  refine ⟨a, c, rfl, hc, hn, fun h0 => ?_⟩
  obtain ⟨b, off, rfl, h3, h4, h5⟩ := hp h0
  exact ⟨b, off, rfl, Nat.zero_le _, World.block_lt_of_cell? w _ (h5 0 h0), h5⟩
theorem St.nil (w : World) (lo hi : Nat) : St w lo hi (.slice none 0 0) [] := ⟨_, 0, rfl, by simp, fun _ => rfl, fun h => by simp at h⟩
end

/-- v is nil, or a row of the call's own, in blocks from B on, which holds the texts l, then empty ones. -/
def OwnT (w : World) (B : Nat) (v : Value) (l : List (List UInt8)) : Prop := OwnZ w B 9 (.string ⟨#[]⟩) v (l.map tv)

theorem OwnT.nil (w : World) (B : Nat) : OwnT w B (.slice .none 0 0) [] := OwnZ.nil _ _ _ _
theorem OwnT.lt {w : World} {B : Nat} {v : Value} {l : List (List UInt8)} (h : OwnT w B v l) : ∀ k, v.ownBlock = some k → B ≤ k ∧ k < w.heap.size := OwnZ.lt h
theorem OwnT.aside {w w' : World} {B : Nat} {v : Value} {l : List (List UInt8)} {G : Nat → Prop} (h : OwnT w B v l) (ha : Aside G w w') (hG : ∀ b, B ≤ b → ¬ G b) : OwnT w' B v l := OwnZ.aside h ha hG
theorem OwnT.mono {w : World} {B B' : Nat} {v : Value} {l : List (List UInt8)} (h : OwnT w B v l) (hB : B' ≤ B) : OwnT w B' v l := OwnZ.mono h hB
theorem OwnT.below {w w' : World} {B : Nat} {v : Value} {l : List (List UInt8)} (h : OwnT w B v l) (hb : Below w.heap.size w w') : OwnT w' B v l := OwnZ.below h hb
theorem OwnT.setCell {w : World} {B : Nat} {v : Value} {l : List (List UInt8)} (h : OwnT w B v l) {p : Addr} (hp : p.block < B) (u : Value) : OwnT (w.setCell p u) B v l :=
  h.aside (G := fun b => b = p.block) (Aside.setCell _ _ rfl) fun b hb e => by omega

theorem OwnT.shape {w : World} {B : Nat} {v : Value} {l : List (List UInt8)} (h : OwnT w B v l) : ∃ a c, v = .slice a l.length c := by
  rcases h with ⟨rfl, h0⟩ | ⟨g, cap, rfl, _⟩
  · have : l = [] := by simpa using h0
    subst this
    exact ⟨.none, 0, rfl⟩
  · exact ⟨_, cap, by rw [List.length_map]⟩

theorem OwnT.st {w : World} {B : Nat} {v : Value} {l : List (List UInt8)} (h : OwnT w B v l) : St w B w.heap.size v l := by
  have hlt := h.lt
  rcases h with ⟨rfl, h0⟩ | ⟨g, cap, rfl, hB, hc, _, hg⟩
  · have : l = [] := by simpa using h0
    subst this
    exact St.nil _ _ _
  · rw [List.length_map] at hc
    refine ⟨some ⟨g, 0, .none⟩, cap, by rw [List.length_map], hc, fun h => by simp at h, fun _ => ⟨g, 0, rfl, hB, (hlt g rfl).2, fun j hj => ?_⟩⟩
    rw [Nat.zero_add, World.cell?, hg]
    simp [List.getElem?_append_left, hj]

/-- An append that runs so, in a round; elsewhere. -/
theorem wpListIn_append_run {F : Fence} {n : Nat} {w w' : World} {v v' xv : Value} {ops : Array Oper} {rest : List Oper} {o : Oper} {a : Act} {Q : Exit → Act → World → Prop} (s x : Operand) (t u : TypeId)
    (ho : o.op = .call { callee := .builtin .append, args := #[s, x], argTypes := #[t, u] }) (hgd : o.guard = .none) (hs : a.eval s = v) (hx : a.eval x = xv)
    (hrun : (Builtin.append_ #[t, u] o.type #[v, xv]).run Try.prog w = .ok v' w') (h : wpListIn F n Try.prog ops Q rest (a.put o.dst v') w') : wpListIn F n Try.prog ops Q (o :: rest) a w := by
  refine wpListIn_plain hgd fun K hK => ?_
  unfold Oper.wpIn
  refine ⟨?_, ?_⟩
  · simp [Oper.about, ho, resolve, Target.leads, Sem.run_pure]
  · rw [Oper.semAt_plain F _ _ (by rw [ho]; intro c hc'; cases hc')]
    simp [execOp, ho, resolve, invoke, builtin, hs, hx, hrun, Result.andThen]
    exact hK _ _ h

theorem wpList_append_run {w w' : World} {v v' xv : Value} {ops : Array Oper} {rest : List Oper} {o : Oper} {a : Act} {Q : Exit → Act → World → Prop} (s x : Operand) (t u : TypeId)
    (ho : o.op = .call { callee := .builtin .append, args := #[s, x], argTypes := #[t, u] }) (hgd : o.guard = .none) (hs : a.eval s = v) (hx : a.eval x = xv)
    (hrun : (Builtin.append_ #[t, u] o.type #[v, xv]).run Try.prog w = .ok v' w') (h : wpList Try.prog ops Q rest (a.put o.dst v') w') : wpList Try.prog ops Q (o :: rest) a w := by
  refine wpList_step fun K hK => ?_
  rw [if_pos (by simp [Region.wanted, hgd])]
  unfold Oper.wp
  simp [execOp, ho, resolve, invoke, builtin, hs, hx, hrun, Result.andThen]
  exact hK _ _ h

/-- A text of a slice, loaded. -/
theorem St.cell {w : World} {lo hi c : Nat} {a : Option Addr} {l : List (List UInt8)} (h : St w lo hi (.slice a l.length c) l) (h0 : 0 < l.length) :
    ∃ b off, a = some ⟨b, off, none⟩ ∧ lo ≤ b ∧ b < hi ∧ ∀ j, j < l.length → w.cell? ⟨b, off + j, none⟩ = some (tv (l.getD j [])) := by
  obtain ⟨a', c', he, hc, hn, hq⟩ := h
  injection he with e1 e2 e3
  subst e1; subst e3
  exact hq h0
end Go.Proofs.Ytcjgbholgbjejaa

/-
  strings.Clone; Labels.
-/
namespace Go.Proofs.Ytcjgbholgbjejaa
open Go.RowKit Go.Shelf
set_option linter.unusedVariables false
set_option maxRecDepth 100000
attribute [local go_sem] Oper.semAt_some

theorem clone_any (s : ByteArray) (hs : s.size ≤ 1000000) (w : World) : Calls Try.prog 52 #[.string s] w (Tells w (.string s)) := by
  have H := Lib.hid (fun w => Try.stringslite_Clone s w (by omega))
  go_enter Try.func52, Try.ntmps52
  go_wp2_with (go_at_call 59; refine (H.out _).mono ?_; rintro e w1 ⟨rfl, hb⟩; have HB := Lib.hid hb; clear hb)
  go_ret
  exact ⟨rfl, HB.out⟩

end Go.Proofs.Ytcjgbholgbjejaa

/-
  Lower, the program's and the document's.
-/
namespace Go.Proofs.Ytcjgbholgbjejaa
open Go.RowKit
set_option linter.unusedVariables false
set_option maxRecDepth 100000

/-- A byte in lower form; bytes in lower form. -/
def lw (c : UInt8) : UInt8 := if 65 ≤ c.toNat ∧ c.toNat ≤ 90 then c + 32 else c
def low (l : List UInt8) : List UInt8 := l.map lw

/-- Block g begins with these bytes, which may be written. -/
def Buf (w : World) (g : Nat) (l : List UInt8) : Prop := ∀ j, j < l.length → w.cell? ⟨g, j, none⟩ = some (.int .u8 ((l.getD j 0).toNat : Nat)) ∧ w.frozen? ⟨g, j, none⟩ = false

theorem Buf.set {w : World} {g : Nat} {l : List UInt8} (h : Buf w g l) (k : Nat) (hk : k < l.length) (c : UInt8) : Buf (w.setCell ⟨g, k, none⟩ (.int .u8 (c.toNat : Nat))) g (l.set k c) := by
  intro j hj
  rw [List.length_set] at hj
  rw [World.frozen?_setCell]
  refine ⟨?_, (h j hj).2⟩
  by_cases e : j = k
  · subst e
    rw [World.cell?_setCell_same _ _ _ (h j hj).1]
    simp [hj]
  · rw [World.cell?_setCell_other _ _ _ _ (by first | (simp; done) | (simp; omega)), (h j hj).1]
    simp [List.getElem?_set_ne (Ne.symm e)]

theorem Buf.row {w : World} {s : List UInt8} {cap : Nat} {t : TypeId} (hcap : s.length ≤ cap) : Buf (w.drew.alloc (.cells (bytesRow (bs s) cap) t ((bytesRow (bs s) cap).size, (bytesRow (bs s) cap).size + 1))) w.heap.size s := by
  intro j hj
  have h1 := World.cell?_alloc_mark w.drew (bytesRow (bs s) cap) t ((bytesRow (bs s) cap).size, (bytesRow (bs s) cap).size + 1) j
  have h2 := World.frozen?_alloc_mark w.drew (bytesRow (bs s) cap) t (bytesRow (bs s) cap).size ((bytesRow (bs s) cap).size + 1) j
  have hsz : j < (bytesRow (bs s) cap).size := by simp [bytesRow, bs]; omega
  refine ⟨h1.trans ?_, h2.trans ?_⟩
  · rw [bytesRow_at (bs s) cap j (by simpa [bs] using hj)]
    simp [bs, hj]
  · simp; omega

end Go.Proofs.Ytcjgbholgbjejaa

/-
  Rows of bytes of the call's own: append of bytes and of texts, in a round and elsewhere.
-/
namespace Go.Proofs.Ytcjgbholgbjejaa
open Go.RowKit
set_option linter.unusedVariables false
set_option maxRecDepth 100000

/-- Bytes as cells. -/
def ub (l : List UInt8) : List Value := l.map fun b => Value.int .u8 (b.toNat : Nat)

theorem ub_one (l : List UInt8) : ∀ u ∈ ub l, u.oneCell' = true := by
  intro u hu
  obtain ⟨x, _, rfl⟩ := List.mem_map.mp hu
  rfl

/-- v is a row of the call's own, in blocks from B on, whose first places hold the bytes l. -/
def OwnU (w : World) (B : Nat) (v : Value) (l : List UInt8) : Prop := w.ownsRowF B 5 1 v l.length (ub l)

theorem OwnU.nil (w : World) (B : Nat) : OwnU w B (.slice .none 0 0) [] := World.ownsRowF_nil _ _ _ _

theorem OwnU.aside {w w' : World} {B : Nat} {v : Value} {l : List UInt8} {G : Nat → Prop} (h : OwnU w B v l) (ha : Aside G w w') (hG : ∀ b, B ≤ b → ¬ G b) : OwnU w' B v l := by
  have hlt := World.ownsRowF.lt h
  refine ⟨h.1, ?_⟩
  rcases h.2 with h2 | ⟨g, cap, cur, fz, hv, hg, hh, r⟩
  · exact .inl h2
  · exact .inr ⟨g, cap, cur, fz, hv, hg, (ha.block g (by subst hv; exact (hlt g rfl).2) (hG g hg)).trans hh, r⟩

theorem OwnU.mono {w : World} {B B' : Nat} {v : Value} {l : List UInt8} (h : OwnU w B v l) (hB : B' ≤ B) : OwnU w B' v l := by
  refine ⟨h.1, ?_⟩
  rcases h.2 with h2 | ⟨g, cap, cur, fz, hv, hg, r⟩
  · exact .inl h2
  · exact .inr ⟨g, cap, cur, fz, hv, Nat.le_trans hB hg, r⟩

theorem OwnU.setCell {w : World} {B : Nat} {v : Value} {l : List UInt8} (h : OwnU w B v l) {p : Addr} (hp : p.block < B) (u : Value) : OwnU (w.setCell p u) B v l :=
  h.aside (G := fun b => b = p.block) (Aside.setCell _ _ rfl) fun b hb e => by omega

theorem OwnU.below {w w' : World} {B : Nat} {v : Value} {l : List UInt8} (h : OwnU w B v l) (hb : Below w.heap.size w w') : OwnU w' B v l :=
  h.aside (G := fun _ => False) (Aside.of_all hb) fun _ _ h => h

theorem OwnU.row {w : World} {B : Nat} {v : Value} {l : List UInt8} (h : OwnU w B v l) : ∀ k, v.ownBlock = some k → B ≤ k := fun k hk => (World.ownsRowF.lt h k hk).1

theorem OwnU.shape {w : World} {B : Nat} {v : Value} {l : List UInt8} (h : OwnU w B v l) : ∃ a c, v = .slice a l.length c ∧ (0 < l.length → ∃ g, a = some ⟨g, 0, .none⟩ ∧ B ≤ g ∧ ∀ j, j < l.length → w.cell? ⟨g, j, .none⟩ = some (.int .u8 ((l.getD j 0).toNat : Nat))) := by
  rcases h.2 with ⟨rfl, h0⟩ | ⟨g, cap, cur, fz, rfl, hg, hh, r⟩
  · exact ⟨.none, 0, by rw [h0], fun h => by omega⟩
  · refine ⟨_, _, rfl, fun _ => ⟨g, rfl, hg, fun j hj => ?_⟩⟩
    have := World.ownsRowF.cells h (g := g) rfl j (.int .u8 ((l.getD j 0).toNat : Nat)) (by unfold ub; rw [List.getElem?_map, List.getElem?_eq_getElem hj, List.getD, List.getElem?_eq_getElem hj]; rfl)
    rw [WideShapes.add_plain, Nat.zero_add] at this
    exact this

/-- append of bytes, as it runs. -/
theorem run_appU {w : World} (B : Nat) (v : Value) (l l' : List UInt8) (g c : Nat) (hown : OwnU w B v l) (hx : ∀ j, j < l'.length → w.cell? ⟨g, j, none⟩ = some (.int .u8 ((l'.getD j 0).toNat : Nat))) (hb : l.length + l'.length ≤ 1000000) (hB : B ≤ w.heap.size) :
    ∃ a' c' w', (Builtin.append_ #[67, 67] 67 #[v, .slice (some ⟨g, 0, none⟩) l'.length c]).run Try.prog w = .ok (.slice a' (l.length + l'.length) c') w' ∧ OwnU w' B (.slice a' (l.length + l'.length) c') (l ++ l') ∧ w.grownBy w' v.ownBlock := by
  obtain ⟨i0, hi, hz0, hz1, hz2⟩ := info_parts Try.info5
  obtain ⟨v', w', h1, h2, h3, _⟩ := run_append_ownF (P := Try.prog) w B 67 67 5 i0 (.int .u8 0) 1 1 Try.underlying67 hi hz0 hz1 hz2 rfl (by decide) v l.length (ub l) hown ⟨g, 0, none⟩ l'.length c (ub l') (by simp [ub])
    (fun j u hu => by
      unfold ub at hu
      rw [List.getElem?_map] at hu
      obtain ⟨n, hq, rfl⟩ := Option.map_eq_some_iff.mp hu
      have hj : j < l'.length := (List.getElem?_eq_some_iff.mp hq).1
      rw [WideShapes.add_plain, Nat.zero_add, hx j hj, List.getD, hq]; rfl) (ub_one _) (by unfold maxLen; omega) (by omega) hB
  have h4 : OwnU w' B v' (l ++ l') := by
    show w'.ownsRowF B 5 1 v' (l ++ l').length (ub (l ++ l'))
    rw [List.length_append, ub, List.map_append]
    exact h2
  obtain ⟨a', c', hv, _⟩ := h4.shape
  rw [List.length_append] at hv
  subst hv
  exact ⟨a', c', w', h1, h4, h3⟩

/-- append of a text's bytes, as it runs. -/
theorem run_appS {w : World} (B : Nat) (v : Value) (l l' : List UInt8) (hown : OwnU w B v l) (hb : l.length + l'.length ≤ 1000000) (hB : B ≤ w.heap.size) :
    ∃ a' c' w', (Builtin.append_ #[67, 9] 67 #[v, .string (bs l')]).run Try.prog w = .ok (.slice a' (l.length + l'.length) c') w' ∧ OwnU w' B (.slice a' (l.length + l'.length) c') (l ++ l') ∧ w.grownBy w' v.ownBlock := by
  obtain ⟨i0, hi, hz0, hz1, hz2⟩ := info_parts Try.info5
  obtain ⟨v', w', h1, h2, h3, _⟩ := Lib.run_append_own_stringF (P := Try.prog) w B 67 9 67 5 i0 Try.underlying67 Try.underlying9 hi hz0 hz1 hz2 v l.length (ub l) hown (bs l') (by rw [bs_size]; unfold maxLen; omega) (by rw [bs_size]; omega) hB
  have h4 : OwnU w' B v' (l ++ l') := by
    show w'.ownsRowF B 5 1 v' (l ++ l').length (ub (l ++ l'))
    rw [List.length_append, ub, List.map_append]
    rw [bs_size] at h2
    exact h2
  obtain ⟨a', c', hv, _⟩ := h4.shape
  rw [List.length_append] at hv
  subst hv
  exact ⟨a', c', w', h1, h4, h3⟩

end Go.Proofs.Ytcjgbholgbjejaa

/-
  long; LentTexts, CopyTexts, SameTexts, OverTexts, KeptTexts.
-/
namespace Go.Proofs.Ytcjgbholgbjejaa
open Go.RowKit Go.Shelf
set_option linter.unusedVariables false
set_option maxRecDepth 100000

/-! ### LentTexts -/
/-- Block g is these texts. -/
def RowT (w : World) (g : Nat) (L : List (List UInt8)) : Prop := w.heap[g]? = some (.cells (L.map tv).toArray 9 (0, 0))

/-- Of block g, c texts, the first k are those of L. -/
def PartT (w : World) (g c : Nat) (L : List (List UInt8)) (k : Nat) : Prop := ∃ l, l.length = c ∧ RowT w g l ∧ ∀ t, t < k → l.getD t [] = L.getD t []

theorem RowT.cell {w : World} {g k : Nat} {L : List (List UInt8)} (h : RowT w g L) (hk : k < L.length) : w.cell? ⟨g, k, none⟩ = some (tv (L.getD k [])) := by
  rw [World.cell?, h]
  simp [hk]
theorem RowT.frozen {w : World} {g k : Nat} {L : List (List UInt8)} (h : RowT w g L) : w.frozen? ⟨g, k, none⟩ = false := by simp [World.frozen?, RowT] at h ⊢; simp [h]
theorem RowT.set {w : World} {g k : Nat} {L : List (List UInt8)} (h : RowT w g L) (x : List UInt8) : RowT (w.setCell ⟨g, k, none⟩ (tv x)) g (L.set k x) := by
  unfold RowT at h ⊢
  simp [World.setCell, Array.getElem?_modify, h, List.map_set]

theorem PartT.cell {w : World} {g c k j : Nat} {L : List (List UInt8)} (h : PartT w g c L k) (hj : j < c) : ∃ x, w.cell? ⟨g, j, none⟩ = some (tv x) := by
  obtain ⟨l, hl, hr, _⟩ := h
  exact ⟨_, hr.cell (by omega)⟩
theorem PartT.frozen {w : World} {g c k j : Nat} {L : List (List UInt8)} (h : PartT w g c L k) : w.frozen? ⟨g, j, none⟩ = false := by
  obtain ⟨l, hl, hr, _⟩ := h
  exact hr.frozen
theorem PartT.step {w : World} {g c k : Nat} {L : List (List UInt8)} (h : PartT w g c L k) (hk : k < c) (x : List UInt8) (hx : x = L.getD k []) : PartT (w.setCell ⟨g, k, none⟩ (tv x)) g c L (k + 1) := by
  obtain ⟨l, hl, hr, ht⟩ := h
  refine ⟨l.set k x, by simpa using hl, hr.set x, fun t htk => ?_⟩
  by_cases e : t = k
  · subst e
    rw [List.getD, List.getElem?_set_self (by omega), ← hx]; rfl
  · rw [List.getD, List.getElem?_set_ne (Ne.symm e)]
    exact ht t (by omega)
theorem RowT.st {w : World} {g k : Nat} {L : List (List UInt8)} (h : RowT w g L) (hk : k = L.length) : St w g (g + 1) (.slice (some ⟨g, 0, none⟩) k k) L := by
  subst hk
  exact ⟨_, _, rfl, Nat.le_refl _, fun h => by simp at h, fun _ => ⟨g, 0, rfl, Nat.le_refl _, by omega, fun j hj => by rw [Nat.zero_add]; exact h.cell hj⟩⟩
theorem RowT.lt {w : World} {g : Nat} {L : List (List UInt8)} (h : RowT w g L) : g < w.heap.size := (Array.getElem?_eq_some_iff.mp h).1
theorem RowT.later {w w' : World} {g : Nat} {L : List (List UInt8)} (h : RowT w g L) (hb : Below w.heap.size w w') : RowT w' g L := (hb.block g h.lt).trans h
theorem RowT.aside {w w' : World} {g : Nat} {L : List (List UInt8)} {G : Nat → Prop} (h : RowT w g L) (ha : Aside G w w') (hg : ¬ G g) : RowT w' g L := (ha.block g h.lt hg).trans h
theorem RowT.at_ {w : World} {g g' : Nat} {L : List (List UInt8)} (h : RowT w g L) (e : g = g') : RowT w g' L := e ▸ h

end Go.Proofs.Ytcjgbholgbjejaa

/-
  SameTexts, CopyTexts, OverTexts, KeptTexts.
-/
namespace Go.Proofs.Ytcjgbholgbjejaa
open Go.RowKit Go.Shelf
set_option linter.unusedVariables false
set_option maxRecDepth 100000

/-- A draw or more. -/
def Drawn (w w' : World) : Prop := ∃ n, w' = w.drewN n
theorem Drawn.refl (w : World) : Drawn w w := ⟨0, rfl⟩
theorem Drawn.drew {w w' : World} (h : Drawn w w') : Drawn w w'.drew := by obtain ⟨n, rfl⟩ := h; exact ⟨n + 1, rfl⟩
theorem Drawn.cell {w w' : World} (h : Drawn w w') (p : Addr) : w'.cell? p = w.cell? p := by obtain ⟨n, rfl⟩ := h; rfl
theorem Drawn.below {w w' : World} (h : Drawn w w') (B : Nat) : Below B w w' := by obtain ⟨n, rfl⟩ := h; exact below_drewN (Below.refl _ _) _
theorem Drawn.trans {a b c : World} (h : Drawn a b) (k : Drawn b c) : Drawn a c := by obtain ⟨n, rfl⟩ := h; obtain ⟨m, rfl⟩ := k; exact ⟨n + m, by simp [World.drewN, Nat.add_assoc]⟩

/-! ### CopyTexts -/
/-! ### OverTexts -/
/-- Of block g, from k on, each of the c places holds a text. -/
def TextsFrom (w : World) (g c k : Nat) : Prop := (∀ j, k ≤ j → j < c → ∃ x : List UInt8, x.length ≤ 900000 ∧ w.cell? ⟨g, j, none⟩ = some (tv x)) ∧ ∀ j, w.frozen? ⟨g, j, none⟩ = false

theorem TextsFrom.step {w : World} {g c k : Nat} (h : TextsFrom w g c k) (u : Value) : TextsFrom (w.setCell ⟨g, k, none⟩ u) g c (k + 1) := by
  refine ⟨fun j h1 h2 => ?_, fun j => by rw [World.frozen?_setCell]; exact h.2 j⟩
  obtain ⟨x, hx, hc⟩ := h.1 j (by omega) h2
  exact ⟨x, hx, by rw [World.cell?_setCell_other _ _ _ _ (by first | (simp; done) | (simp; omega))]; exact hc⟩

/-! ### KeptTexts -/
end Go.Proofs.Ytcjgbholgbjejaa
