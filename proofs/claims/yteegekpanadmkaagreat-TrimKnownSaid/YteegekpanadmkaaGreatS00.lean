/-
  Slices of bytes as lists, rows of the call's own, worlds that differ in one block; how they are kept.
-/
import Derived.Test.YteegekpanadmkaaGreatRows
import Derived.WalkKit
import Derived.WalkSpells
import Derived.WalkLawsBesides
import Derived.OwnWalk
import Derived.IntWalk
import Derived.Lib.Hide
import Derived.LoopTactic
import Derived.Laws.BytesArg
import Derived.Laws.AppendOwnNone
import Derived.Laws.CopyOwn
import Derived.Laws.BitsLemmas
import Derived.Laws.Panics
import Derived.Deep.AppendLies
import Derived.BigQuiet
import Derived.Deep.QuietTactic
import Derived.Deep.RegionHeld
import Derived.Defers
import Derived.Recover
import Derived.RangeFuncLeaves
import Derived.RangeFuncRecord
import Derived.RangeFuncSeq
import Derived.Deep.Draws
import Derived.Below
import Derived.RangeFuncNested
import Derived.RangeFuncBound
import Derived.RangeFuncCalls
import Derived.Shelf.Abstract
import Derived.Shelf.RegionOpen
import Derived.OwnWalkIn
import Derived.TacticsInMore
import Derived.LoopNIn
import Derived.LoopIn
import Derived.Outline
namespace Go.Proofs.YteegekpanadmkaaGreat
open Go.RowKit
set_option linter.unusedVariables false
set_option maxRecDepth 100000

/-- The slice value v reads as the bytes l; what it leads to lies in blocks from lo on, below hi. -/
def Sl (w : World) (lo hi : Nat) (v : Value) (l : List Int) : Prop :=
  ∃ a c, v = .slice a l.length c ∧ l.length ≤ c ∧ (a = none → c = 0) ∧ (0 < l.length → ∃ b off, a = some ⟨b, off, none⟩ ∧ lo ≤ b ∧ b < hi ∧ ∀ j, j < l.length → w.cell? ⟨b, off + j, none⟩ = some (.int .u8 (l.getD j 0)))

theorem below_drewN {B : Nat} {a w : World} (h : Below B a w) (n : Nat) : Below B a (w.drewN n) := h.trans ⟨rfl, rfl, rfl, Nat.le_refl _, fun _ _ => rfl⟩

section
variable {w w' : World} {lo hi lo' hi' B g : Nat} {v : Value} {l : List Int}
theorem Sl.keep (h : Sl w lo hi v l) (hk : ∀ b o, lo ≤ b → b < hi → w'.cell? ⟨b, o, none⟩ = w.cell? ⟨b, o, none⟩) : Sl w' lo hi v l := by
  obtain ⟨a, c, rfl, hc, hn, hp⟩ := h
  refine ⟨a, c, rfl, hc, hn, fun h0 => ?_⟩
  obtain ⟨b, off, rfl, h1, h2, h3⟩ := hp h0
  exact ⟨b, off, rfl, h1, h2, fun j hj => (hk b _ h1 h2).trans (h3 j hj)⟩
theorem Sl.below (h : Sl w lo hi v l) (hb : Below B w w') (hB : hi ≤ B) : Sl w' lo hi v l :=
  h.keep fun b o _ h2 => hb.cell (p := ⟨b, o, none⟩) (Nat.lt_of_lt_of_le h2 hB)
theorem Sl.wide (h : Sl w lo hi v l) (h1 : lo' ≤ lo) (h2 : hi ≤ hi') : Sl w lo' hi' v l := by
  obtain ⟨a, c, rfl, hc, hn, hp⟩ := h
  refine ⟨a, c, rfl, hc, hn, fun h0 => ?_⟩
  obtain ⟨b, off, rfl, h3, h4, h5⟩ := hp h0
  exact ⟨b, off, rfl, by omega, by omega, h5⟩
end

/-- A value of a row of the call's own: nil, or block g, which is just these bytes. -/
def Own (w : World) (g : Nat) (v : Value) (l : List Int) : Prop :=
  (v = .slice none 0 0 ∧ l = []) ∨ (v = .slice (some ⟨g, 0, none⟩) l.length l.length ∧ w.heap[g]? = some (.cells (l.map (Value.int .u8)).toArray 5 (0, 0)))

theorem Own.sl {w : World} {g : Nat} {v : Value} {l : List Int} (h : Own w g v l) : Sl w g (g + 1) v l := by
  rcases h with ⟨rfl, rfl⟩ | ⟨rfl, hg⟩
  · exact ⟨none, 0, rfl, by simp, fun _ => rfl, fun h => by simp at h⟩
  · refine ⟨_, _, rfl, Nat.le_refl _, fun h => by simp at h, fun _ => ⟨g, 0, rfl, Nat.le_refl _, by omega, fun j hj => ?_⟩⟩
    rw [Nat.zero_add, World.cell?, hg]
    simp [hj]

theorem Tryz.info5 : (Tryz.prog.info? 5).map (fun i => (i.zero, i.size, i.bytes)) = some (some (.int .u8 0), 1, 1) := by kernel_rfl

theorem Tryz.size5 : (Tryz.prog.info? 5).map (·.size) = some 1 := by kernel_rfl

theorem madeN (n : Nat) : madeCells #[.int .u8 0] n = (List.replicate n (Value.int .u8 0)).toArray := by
  rw [← toList_madeCells_one]

theorem makeN (n : Nat) (hn : n ≤ 1000000) (w : World) : (Instr.makeSlice 28 (.int .i64 n) (.int .i64 n)).run Tryz.prog w = .ok (.slice (some ⟨w.heap.size, 0, none⟩) n n) (w.alloc (.cells (List.replicate n (Value.int .u8 0)).toArray 5)) := by
  obtain ⟨i0, hi, hz0, hz1, hz2⟩ := info_parts Tryz.info5
  have := run_make (P := Tryz.prog) w 28 5 i0 (.int .u8 0) Tryz.underlying28 hi hz0 .i64 .i64 n n (by omega) (by omega) (by rw [hz2]; omega) (by omega)
  rw [this, hz1, Int.toNat_natCast, Nat.mul_one]
  congr 3
  exact madeN n

theorem make2 (w : World) : (Instr.makeSlice 28 (.int .i64 2) (.int .i64 2)).run Tryz.prog w = .ok (.slice (some ⟨w.heap.size, 0, none⟩) 2 2) (w.alloc (.cells #[.int .u8 0, .int .u8 0] 5)) := makeN 2 (by omega) w

theorem make4 (w : World) : (Instr.makeSlice 28 (.int .i64 4) (.int .i64 4)).run Tryz.prog w = .ok (.slice (some ⟨w.heap.size, 0, none⟩) 4 4) (w.alloc (.cells #[.int .u8 0, .int .u8 0, .int .u8 0, .int .u8 0] 5)) := makeN 4 (by omega) w

theorem two_alloc (w : World) (o o' : Obj) : ((w.alloc o).alloc o').heap[w.heap.size + 1]? = some o' := by
  have := heap_alloc_new (w.alloc o) o'
  simpa using this

theorem size5 (w : World) : (sizeOf (Tryz.prog.elem 28)).run Tryz.prog w = .ok 1 w := by kernel_rfl

/-- So many bytes from a place on. -/
def cutL (l : List Int) (p m : Nat) : List Int := (l.drop p).take m

theorem cutL_len (l : List Int) (p m : Nat) (h : p + m ≤ l.length) : (cutL l p m).length = m := by unfold cutL; rw [List.length_take, List.length_drop]; omega

theorem cutL_none (l : List Int) (p : Nat) : cutL l p 0 = [] := by simp [cutL]

theorem splice_all (m : Nat) (cs : List Value) (z : Value) (h : cs.length = m) : splice (List.replicate m z) 0 cs = cs := by
  unfold splice
  simp [h]

theorem out_wrap (p len : Nat) (n : Int) (hp : p ≤ len) (hl : len ≤ 1000000) (h0 : 0 < n) (h1 : n ≤ 9223372036854775807) (h : (len : Int) < p + n) :
    wrap64 (wrap64 ((p : Int) + n) - 1) < 0 ∨ (len : Int) ≤ wrap64 (wrap64 ((p : Int) + n) - 1) := by
  unfold wrap64
  omega

theorem Sl.news_cut {w : World} {lo hi c : Nat} {a : Option Addr} {l : List Int} (h : Sl w lo hi (.slice a l.length c) l) {w' : World} (hb : Below w.heap.size w w') (p m : Nat) (hm : 0 < m) (hp : p + m ≤ l.length) :
    ∃ b off, a = some ⟨b, off, none⟩ ∧ ∀ j u, ((cutL l p m).map (Value.int .u8))[j]? = some u → w'.cell? ⟨b, off + p + j, none⟩ = some u := by
  obtain ⟨a', c', he, hc, hn, hq⟩ := h
  injection he with e1 e2 e3
  subst e1; subst e3
  obtain ⟨b, off, rfl, _, _, hx⟩ := hq (by omega)
  refine ⟨b, off, rfl, fun j u hu => ?_⟩
  rw [List.getElem?_map] at hu
  obtain ⟨n, hn, rfl⟩ := Option.map_eq_some_iff.mp hu
  have hj : j < m := by
    have := (List.getElem?_eq_some_iff.mp hn).1
    rw [cutL_len l p m hp] at this
    exact this
  have e : l[p + j]? = some n := by
    unfold cutL at hn
    rw [List.getElem?_take, if_pos hj, List.getElem?_drop] at hn
    exact hn
  have := hx (p + j) (by omega)
  rw [List.getD, e] at this
  rw [show off + p + j = off + (p + j) by omega, cell_later hb this]; rfl

/-- A cut of a slice. -/
theorem slice_cut {w : World} {lo hi c p m : Nat} {a : Option Addr} {l : List Int} (h : Sl w lo hi (.slice a l.length c) l) (hp : p + m ≤ l.length) :
    ∃ sv, (∀ wx, (Instr.slice 28 (.slice a l.length c) (some (.int .i64 p)) (some (.int .i64 (p + m))) none).run Tryz.prog wx = .ok sv wx) ∧ Sl w lo hi sv (cutL l p m) := by
  obtain ⟨a', c', he, hc, hn, hq⟩ := h
  injection he with e1 e2 e3
  subst e1; subst e3
  refine ⟨sliced a p (p + m) c 1, fun wx => ?_, ?_⟩
  · rw [run_slice_lh (P := Tryz.prog) wx 28 a l.length c Tryz.underlying28 .i64 .i64 p (p + m) (by omega) (by omega) (by omega), size5]
    simp only [Result.andThen, Int.toNat_natCast, show ((p : Int) + (m : Int)).toNat = p + m by omega]
  · refine ⟨if c = p then a else a.map (·.add (p * 1)), c - p, ?_, ?_, ?_, ?_⟩
    · unfold sliced; rw [cutL_len l p m hp, Nat.add_sub_cancel_left]
    · rw [cutL_len l p m hp]; omega
    · intro hnone
      have : a = none := by
        split at hnone
        · exact hnone
        · simpa using hnone
      have := hn this
      omega
    · intro h0
      rw [cutL_len l p m hp] at h0
      obtain ⟨b, off, rfl, h1, h2, hx⟩ := hq (by omega)
      rw [if_neg (by omega)]
      refine ⟨b, off + p, ?_, h1, h2, fun j hj => ?_⟩
      · simp only [Option.map_some, Nat.mul_one]; rw [WideShapes.add_plain]
      · rw [cutL_len l p m hp] at hj
        rw [show off + p + j = off + (p + j) by omega, hx (p + j) (by omega)]
        congr 2
        unfold cutL
        rw [List.getD, List.getD, List.getElem?_take, if_pos hj, List.getElem?_drop]

theorem wraps_i64 (n : Int) (h0 : 0 ≤ n) (h1 : n < 2 ^ 63) : IntKind.i64.wrap n = n := by
  have e : (2 : Int) ^ 63 = 9223372036854775808 := by decide
  rw [e] at h1
  exact IntWalk.i64_in _ (by omega)

theorem or_byte (X y : Int) (h0 : 0 ≤ X) (h1 : X ≤ 36028797018963967) (y0 : 0 ≤ y) (y1 : y ≤ 255) : bits .or .i64 (X * 256) y = X * 256 + y := by
  have e : (2 : Int) ^ 63 = 9223372036854775808 := by decide
  have e8 : (2 : Int) ^ 8 = 256 := by decide
  exact bits_join .i64 63 (by decide) wraps_i64 8 (X * 256) y (by omega) (by rw [e8]; omega) (by rw [e]; omega) y0 (by rw [e8]; omega) (by rw [e]; omega)

theorem or_none (y : Int) (y0 : 0 ≤ y) (y1 : y ≤ 255) : bits .or .i64 0 y = y := by
  have := or_byte 0 y (by omega) (by omega) y0 y1
  simpa using this

theorem or_wrap (X y : Int) (h0 : 0 ≤ X) (h1 : X ≤ 36028797018963967) (y0 : 0 ≤ y) (y1 : y ≤ 255) : bits .or .i64 (wrap64 (X * 256)) y = X * 256 + y := by
  rw [IntWalk.wrap64_in _ ⟨by omega, by omega⟩]
  exact or_byte X y h0 h1 y0 y1

def ByteL (l : List Int) : Prop := ∀ n ∈ l, 0 ≤ n ∧ n ≤ 255

theorem ByteL.at_ {l : List Int} (h : ByteL l) (k : Nat) (hk : k < l.length) : 0 ≤ l.getD k 0 ∧ l.getD k 0 ≤ 255 := by
  rw [List.getD, List.getElem?_eq_getElem hk]
  exact h _ (List.getElem_mem hk)

theorem res_set {w1 : World} {g : Nat} {x0 y0 : Value} (x y : Value) (k1 : w1.cell? ⟨g, 0, none⟩ = some x0) (k2 : w1.cell? ⟨g, 1, none⟩ = some y0) :
    (w1.setCell ⟨g, 0, none⟩ x).cell? ⟨g, 0, none⟩ = some x ∧ ((w1.setCell ⟨g, 0, none⟩ x).setCell ⟨g, 1, none⟩ y).cell? ⟨g, 1, none⟩ = some y := by
  have k3 : (w1.setCell ⟨g, 0, none⟩ x).cell? ⟨g, 1, none⟩ = some y0 := by
    rw [World.cell?_setCell_other _ _ _ _ (by simp)]
    exact k2
  exact ⟨World.cell?_setCell_same _ _ _ k1, World.cell?_setCell_same _ _ _ k3⟩

theorem Own.set {w : World} {g : Nat} {v : Value} {L : List Int} (h : Own w g v L) {p : Addr} (hp : g ≠ p.block) (u : Value) : Own (w.setCell p u) g v L := by
  rcases h with h | ⟨rfl, h⟩
  · exact .inl h
  · exact .inr ⟨rfl, (Below.heap_setCell w p u g hp).trans h⟩

theorem below_lt {B : Nat} {w w1 : World} {o : Obj} (hb : Below B (w.alloc o) w1) : w.heap.size < w1.heap.size := by
  have := hb.size
  simp only [World.size_alloc] at this
  omega

theorem bel_alloc {w w' : World} (hb : Below w.heap.size w w') (o : Obj) : Below w.heap.size w (w'.alloc o) := hb.alloc hb.size o

theorem Sl.top {w : World} {lo hi : Nat} {v : Value} {l : List Int} (h : Sl w lo hi v l) : Sl w 0 w.heap.size v l := by
  obtain ⟨a, c, rfl, hc, hn, hp⟩ := h
  refine ⟨a, c, rfl, hc, hn, fun h0 => ?_⟩
  obtain ⟨b, off, rfl, h1, h2, hx⟩ := hp h0
  exact ⟨b, off, rfl, Nat.zero_le _, World.block_lt_of_cell? w _ (hx 0 h0), hx⟩

/-- One more world: what is known of a first one, up to a third one, by way of new memory. -/
theorem bel_call {w w1 w2 : World} (h : Below w.heap.size w w1) (hb : Below w1.heap.size w1 w2) : Below w.heap.size w w2 := h.trans (hb.mono h.size)

theorem getD_behind (al M : List Int) (i : Nat) : (al ++ M).getD (al.length + i) 0 = M.getD i 0 := by
  rw [List.getD, List.getD, List.getElem?_append_right (by omega), Nat.add_sub_cancel_left]

end Go.Proofs.YteegekpanadmkaaGreat

/-
  The panic of an index out of range, as it ends a call.
-/
namespace Go.Proofs.YteegekpanadmkaaGreat
open Go.RowKit
set_option linter.unusedVariables false
set_option maxRecDepth 100000

/-- An end by the panic of an index out of range; below w nothing has turned. -/
def NumBad (w : World) (e : Ending) (w' : World) : Prop :=
  ∃ x y s c, e = .panicked [{ v := .iface 8 (.agg #[.int .i64 x, .int .i64 y, .bool s, .int .u8 c]), recovered := false }] ∧ Below w.heap.size w w'

theorem bp_run {α : Type} (k : IntKind) (x y : Int) (code : BoundsCode) (w : World) :
    ∃ s n c, (boundsPanic k x y code : Sem α).run Tryz.prog w = .halt (.panic (.iface 8 (.agg #[.int .i64 (IntKind.i64.wrap x), .int .i64 y, .bool s, .int .u8 c]))) (w.drewN n) := by
  unfold boundsPanic
  split
  · simp only [runtimePanic, goPanic, go_sem]
    exact ⟨_, 1, _, rfl⟩
  · simp only [runtimePanic, goPanic, go_sem]
    exact ⟨_, 0, _, rfl⟩

theorem idx_out (a : Option Addr) (len cap : Nat) (i : Int) (hnil : a = none → len = 0) (ho : i < 0 ∨ (len : Int) ≤ i) (w : World) :
    ∃ x y s n c, (Instr.indexAt 28 (.slice a len cap) (.int .i64 i)).run Tryz.prog w = .halt (.panic (.iface 8 (.agg #[.int .i64 x, .int .i64 y, .bool s, .int .u8 c]))) (w.drewN n) := by
  cases a with
  | some a =>
    rw [run_indexAt_slice (h := Tryz.underlying28), if_neg (by omega)]
    obtain ⟨s, n, c, h⟩ := bp_run (α := Value) .i64 i len .index w
    exact ⟨_, _, s, n, c, h⟩
  | none =>
    obtain rfl := hnil rfl
    have e : (Instr.indexAt 28 (.slice none 0 cap) (.int .i64 i)).run Tryz.prog w = (boundsPanic .i64 i 0 .index).run Tryz.prog w := by
      simp [Instr.indexAt, run_underlying Tryz.underlying28, asIntOf]
    rw [e]
    obtain ⟨s, n, c, h⟩ := bp_run (α := Value) .i64 i 0 .index w
    exact ⟨_, _, s, n, c, h⟩
end Go.Proofs.YteegekpanadmkaaGreat

/-
  octet.Get16, Get32: read, its deferred function, the panic of an index out of range.
-/
namespace Go.Proofs.YteegekpanadmkaaGreat
open Go.RowKit
set_option linter.unusedVariables false
set_option maxRecDepth 100000

theorem ta_nil (w : World) : (Instr.typeAssert .nilIface 20 150 true).run Tryz.prog w = .ok (.tuple #[.nilIface, .bool false]) w := by kernel_rfl

theorem ta_bounds (x y : Int) (s : Bool) (c : Int) (w : World) : (Instr.typeAssert (.iface 8 (.agg #[.int .i64 x, .int .i64 y, .bool s, .int .u8 c])) 20 150 true).run Tryz.prog w = .ok (.tuple #[.iface 8 (.agg #[.int .i64 x, .int .i64 y, .bool s, .int .u8 c]), .bool true]) w := by kernel_rfl

theorem res_cells {w w1 : World} {x y : Value} (hb : Below (w.heap.size + 1) (w.alloc (.cells #[x, y] 42)) w1) :
    w1.cell? ⟨w.heap.size, 0, none⟩ = some x ∧ w1.cell? ⟨w.heap.size, 1, none⟩ = some y ∧ ∀ j, w1.frozen? ⟨w.heap.size, j, none⟩ = false := by
  refine ⟨(hb.cell (p := ⟨_, _, _⟩) (by simp)).trans ?_, (hb.cell (p := ⟨_, _, _⟩) (by simp)).trans ?_, fun j => (hb.frozen (p := ⟨_, _, _⟩) (by simp)).trans ?_⟩
  all_goals simp [go_sem]

/-- The number that two, that four bytes are. -/
def num2 (x y : Int) : Int := x * 256 + y

def num4 (x y z t : Int) : Int := ((x * 256 + y) * 256 + z) * 256 + t

set_option maxHeartbeats 1000000 in
theorem number2_ok (g off n : Nat) (p c : Nat) (x y : Int) (h : p + 2 ≤ n) (hn : n ≤ 1000000) (w : World)
    (cx : w.cell? ⟨g, off + p, none⟩ = some (.int .u8 x)) (x0 : 0 ≤ x) (x1 : x ≤ 255)
    (cy : w.cell? ⟨g, off + (p + 1), none⟩ = some (.int .u8 y)) (y0 : 0 ≤ y) (y1 : y ≤ 255)
    : Calls Tryz.prog 86 #[.slice (some ⟨g, off, none⟩) n c, .int .i64 p] w fun e w' => e = .returned (.tuple #[.int .i64 (num2 x y), .int .i64 (p + 2)]) ∧ Below w.heap.size w w' := by
  have hg : g < w.heap.size := World.block_lt_of_cell? w _ cx
  go_enter Tryz.func86, Tryz.ntmps86
  go_wp2
  refine wp_loop_rounds 3 ?_
  iterate 3 (rw [rounds_succ]; go_wp2)
  go_quiet (fail)
  go_wp2
  go_ret2
  refine ⟨?_, below_drewN ((Below.refl _ _).alloc (Nat.le_refl _) _) _⟩
  rw [or_none x x0 x1, or_wrap x y (by omega) (by omega) y0 y1]
  rfl

set_option maxHeartbeats 1000000 in
theorem number2_no0 (a : Option Addr) (p c : Nat) (hn : p ≤ 1000000) (ha : a = none → p = 0) (w : World) : Calls Tryz.prog 86 #[.slice a p c, .int .i64 p] w (NumBad w) := by
  obtain ⟨e1, e2, e3, e4, e5, hrun⟩ := idx_out a p c p ha (by omega) (w.alloc (.cells #[.int .u8 0, .int .u8 0] 139))
  go_enter Tryz.func86, Tryz.ntmps86
  go_wp2
  refine wp_loop_rounds 3 ?_
  iterate 1 (rw [rounds_succ]; go_wp2)
  exact ⟨rfl, e1, e2, e3, e5, rfl, below_drewN ((Below.refl _ _).alloc (Nat.le_refl _) _) _⟩

set_option maxHeartbeats 1000000 in
theorem number2_no1 (g off n : Nat) (p c : Nat) (x : Int) (h : p + 1 = n) (hn : n ≤ 1000000) (w : World)
    (cx : w.cell? ⟨g, off + p, none⟩ = some (.int .u8 x)) (x0 : 0 ≤ x) (x1 : x ≤ 255)
    : Calls Tryz.prog 86 #[.slice (some ⟨g, off, none⟩) n c, .int .i64 p] w (NumBad w) := by
  have hg : g < w.heap.size := World.block_lt_of_cell? w _ cx
  obtain ⟨e1, e2, e3, e4, e5, hrun⟩ := idx_out (some ⟨g, off, none⟩) n c (p + 1) (by simp) (by omega) (w.alloc (.cells #[.int .u8 0, .int .u8 0] 139))
  go_enter Tryz.func86, Tryz.ntmps86
  go_wp2
  refine wp_loop_rounds 3 ?_
  iterate 2 (rw [rounds_succ]; go_wp2)
  exact ⟨rfl, e1, e2, e3, e5, rfl, below_drewN ((Below.refl _ _).alloc (Nat.le_refl _) _) _⟩

set_option maxHeartbeats 1000000 in
theorem number4_ok (g off n : Nat) (p c : Nat) (x y z t : Int) (h : p + 4 ≤ n) (hn : n ≤ 1000000) (w : World)
    (cx : w.cell? ⟨g, off + p, none⟩ = some (.int .u8 x)) (x0 : 0 ≤ x) (x1 : x ≤ 255)
    (cy : w.cell? ⟨g, off + (p + 1), none⟩ = some (.int .u8 y)) (y0 : 0 ≤ y) (y1 : y ≤ 255)
    (cz : w.cell? ⟨g, off + (p + 2), none⟩ = some (.int .u8 z)) (z0 : 0 ≤ z) (z1 : z ≤ 255)
    (ct : w.cell? ⟨g, off + (p + 3), none⟩ = some (.int .u8 t)) (t0 : 0 ≤ t) (t1 : t ≤ 255)
    : Calls Tryz.prog 172 #[.slice (some ⟨g, off, none⟩) n c, .int .i64 p] w fun e w' => e = .returned (.tuple #[.int .i64 (num4 x y z t), .int .i64 (p + 4)]) ∧ Below w.heap.size w w' := by
  have hg : g < w.heap.size := World.block_lt_of_cell? w _ cx
  go_enter Tryz.func172, Tryz.ntmps172
  go_wp2
  refine wp_loop_rounds 5 ?_
  iterate 5 (rw [rounds_succ]; go_wp2)
  go_quiet (fail)
  go_wp2
  go_ret2
  refine ⟨?_, below_drewN ((Below.refl _ _).alloc (Nat.le_refl _) _) _⟩
  rw [or_none x x0 x1, or_wrap x y (by omega) (by omega) y0 y1, or_wrap (x * 256 + y) z (by omega) (by omega) z0 z1, or_wrap ((x * 256 + y) * 256 + z) t (by omega) (by omega) t0 t1]
  rfl

set_option maxHeartbeats 1000000 in
theorem number4_no0 (a : Option Addr) (p c : Nat) (hn : p ≤ 1000000) (ha : a = none → p = 0) (w : World) : Calls Tryz.prog 172 #[.slice a p c, .int .i64 p] w (NumBad w) := by
  obtain ⟨e1, e2, e3, e4, e5, hrun⟩ := idx_out a p c p ha (by omega) (w.alloc (.cells #[.int .u8 0, .int .u8 0, .int .u8 0, .int .u8 0] 217))
  go_enter Tryz.func172, Tryz.ntmps172
  go_wp2
  refine wp_loop_rounds 5 ?_
  iterate 1 (rw [rounds_succ]; go_wp2)
  exact ⟨rfl, e1, e2, e3, e5, rfl, below_drewN ((Below.refl _ _).alloc (Nat.le_refl _) _) _⟩

set_option maxHeartbeats 1000000 in
theorem number4_no1 (g off n : Nat) (p c : Nat) (x : Int) (h : p + 1 = n) (hn : n ≤ 1000000) (w : World)
    (cx : w.cell? ⟨g, off + p, none⟩ = some (.int .u8 x)) (x0 : 0 ≤ x) (x1 : x ≤ 255)
    : Calls Tryz.prog 172 #[.slice (some ⟨g, off, none⟩) n c, .int .i64 p] w (NumBad w) := by
  have hg : g < w.heap.size := World.block_lt_of_cell? w _ cx
  obtain ⟨e1, e2, e3, e4, e5, hrun⟩ := idx_out (some ⟨g, off, none⟩) n c (p + 1) (by simp) (by omega) (w.alloc (.cells #[.int .u8 0, .int .u8 0, .int .u8 0, .int .u8 0] 217))
  go_enter Tryz.func172, Tryz.ntmps172
  go_wp2
  refine wp_loop_rounds 5 ?_
  iterate 2 (rw [rounds_succ]; go_wp2)
  exact ⟨rfl, e1, e2, e3, e5, rfl, below_drewN ((Below.refl _ _).alloc (Nat.le_refl _) _) _⟩

set_option maxHeartbeats 1000000 in
theorem number4_no2 (g off n : Nat) (p c : Nat) (x y : Int) (h : p + 2 = n) (hn : n ≤ 1000000) (w : World)
    (cx : w.cell? ⟨g, off + p, none⟩ = some (.int .u8 x)) (x0 : 0 ≤ x) (x1 : x ≤ 255)
    (cy : w.cell? ⟨g, off + (p + 1), none⟩ = some (.int .u8 y)) (y0 : 0 ≤ y) (y1 : y ≤ 255)
    : Calls Tryz.prog 172 #[.slice (some ⟨g, off, none⟩) n c, .int .i64 p] w (NumBad w) := by
  have hg : g < w.heap.size := World.block_lt_of_cell? w _ cx
  obtain ⟨e1, e2, e3, e4, e5, hrun⟩ := idx_out (some ⟨g, off, none⟩) n c (p + 2) (by simp) (by omega) (w.alloc (.cells #[.int .u8 0, .int .u8 0, .int .u8 0, .int .u8 0] 217))
  go_enter Tryz.func172, Tryz.ntmps172
  go_wp2
  refine wp_loop_rounds 5 ?_
  iterate 3 (rw [rounds_succ]; go_wp2)
  exact ⟨rfl, e1, e2, e3, e5, rfl, below_drewN ((Below.refl _ _).alloc (Nat.le_refl _) _) _⟩

set_option maxHeartbeats 1000000 in
theorem number4_no3 (g off n : Nat) (p c : Nat) (x y z : Int) (h : p + 3 = n) (hn : n ≤ 1000000) (w : World)
    (cx : w.cell? ⟨g, off + p, none⟩ = some (.int .u8 x)) (x0 : 0 ≤ x) (x1 : x ≤ 255)
    (cy : w.cell? ⟨g, off + (p + 1), none⟩ = some (.int .u8 y)) (y0 : 0 ≤ y) (y1 : y ≤ 255)
    (cz : w.cell? ⟨g, off + (p + 2), none⟩ = some (.int .u8 z)) (z0 : 0 ≤ z) (z1 : z ≤ 255)
    : Calls Tryz.prog 172 #[.slice (some ⟨g, off, none⟩) n c, .int .i64 p] w (NumBad w) := by
  have hg : g < w.heap.size := World.block_lt_of_cell? w _ cx
  obtain ⟨e1, e2, e3, e4, e5, hrun⟩ := idx_out (some ⟨g, off, none⟩) n c (p + 3) (by simp) (by omega) (w.alloc (.cells #[.int .u8 0, .int .u8 0, .int .u8 0, .int .u8 0] 217))
  go_enter Tryz.func172, Tryz.ntmps172
  go_wp2
  refine wp_loop_rounds 5 ?_
  iterate 4 (rw [rounds_succ]; go_wp2)
  exact ⟨rfl, e1, e2, e3, e5, rfl, below_drewN ((Below.refl _ _).alloc (Nat.le_refl _) _) _⟩

theorem catch_idle (p q : Addr) (w : World) :
    CallsD Tryz.prog 96 #[.pointer (some p), .pointer (some q)] .returning w fun e u' w' => e = .returned (.tuple #[]) ∧ u' = .returning ∧ w = w' := by
  refine callsD_of_wpS Tryz.func96 rfl fun c₀ cs hu => ?_
  simp only [Tryz.ntmps96, List.size_toArray, List.length_cons, List.length_nil, Nat.reduceAdd, Nat.reduceSub, Array.replicate_succ, Array.replicate_zero, List.push_toArray, List.append_toArray, List.nil_append, List.cons_append]
  apply wpS_seq
  apply wpS_region
  simp [wpOpsS, go_sem, recoverD, hu, Exit.thenS, ta_nil]
  refine wpS_of_wp ?_
  go_wp2
  cases c₀
  simp_all [bodyPostS, results, Tryz.results96]

theorem catch_panicking (p : Addr) (g : Nat) (a : Option Addr) (n k : Nat) (x y : Int) (s : Bool) (c : Int) (w : World) (hp : w.cell? p = some (.slice a n k)) (h0 : w.cell? ⟨g, 0, none⟩ = some (.int .i64 0)) (h1 : w.cell? ⟨g, 1, none⟩ = some (.int .i64 0)) (hf : ∀ j, w.frozen? ⟨g, j, none⟩ = false) :
    CallsD Tryz.prog 96 #[.pointer (some p), .pointer (some ⟨g, 0, none⟩)] (.panicking [{ v := .iface 8 (.agg #[.int .i64 x, .int .i64 y, .bool s, .int .u8 c]), recovered := false }]) w fun e u' w' =>
      e = .returned (.tuple #[]) ∧ u' = .panicking [{ v := .iface 8 (.agg #[.int .i64 x, .int .i64 y, .bool s, .int .u8 c]), recovered := true }] ∧ w' = (w.setCell ⟨g, 0, none⟩ (.int .i64 4)).setCell ⟨g, 1, none⟩ (.int .i64 n) := by
  refine callsD_of_wpS Tryz.func96 rfl fun c₀ cs hu => ?_
  simp only [Tryz.ntmps96, List.size_toArray, List.length_cons, List.length_nil, Nat.reduceAdd, Nat.reduceSub, Array.replicate_succ, Array.replicate_zero, List.push_toArray, List.append_toArray, List.nil_append, List.cons_append]
  apply wpS_seq
  apply wpS_region
  simp [wpOpsS, go_sem, recoverD, hu, Exit.thenS, ta_bounds]
  refine wpS_of_wp ?_
  go_wp2
  cases c₀
  simp_all [bodyPostS, results, Tryz.results96]

def GetPost (w : World) (N E F A : Int) (e : Ending) (w' : World) : Prop :=
  e = .returned (.tuple #[.int .i64 N, .int .i64 E, .agg #[.int .i64 F, .int .i64 A]]) ∧ Below w.heap.size w w'

/-- What number tells: the number and where it ends. -/
def NumOk (w : World) (N E : Int) (e : Ending) (w' : World) : Prop := e = .returned (.tuple #[.int .i64 N, .int .i64 E]) ∧ Below w.heap.size w w'

def nAt2 (l : List Int) (p : Nat) : Int := num2 (l.getD p 0) (l.getD (p + 1) 0)

def nAt4 (l : List Int) (p : Nat) : Int := num4 (l.getD p 0) (l.getD (p + 1) 0) (l.getD (p + 2) 0) (l.getD (p + 3) 0)

theorem number2_fine {w : World} {lo hi p c : Nat} {a : Option Addr} {l : List Int} (h : Sl w lo hi (.slice a l.length c) l) (hb : ByteL l) (hl : l.length ≤ 1000000) (hp : p + 2 ≤ l.length) :
    Calls Tryz.prog 86 #[.slice a l.length c, .int .i64 p] w (NumOk w (nAt2 l p) (p + 2)) := by
  obtain ⟨a', c', he, hc, hn, hq⟩ := h
  injection he with e1 e2 e3
  subst e1; subst e3
  obtain ⟨b, off, rfl, _, _, hx⟩ := hq (by omega)
  have y0 := hb.at_ p (by omega)
  have y1 := hb.at_ (p + 1) (by omega)
  exact number2_ok b off l.length p c _ _ hp hl w (hx p (by omega)) y0.1 y0.2 (hx (p + 1) (by omega)) y1.1 y1.2

theorem number2_short {w : World} {lo hi p c : Nat} {a : Option Addr} {l : List Int} (h : Sl w lo hi (.slice a l.length c) l) (hb : ByteL l) (hl : l.length ≤ 1000000) (hp : p ≤ l.length) (hs : l.length < p + 2) :
    Calls Tryz.prog 86 #[.slice a l.length c, .int .i64 p] w (NumBad w) := by
  obtain ⟨a', c', he, hc, hn, hq⟩ := h
  injection he with e1 e2 e3
  subst e1; subst e3
  obtain h0 | h0 : l.length = p ∨ p + 1 = l.length := by omega
  · rw [h0] at hc ⊢
    exact number2_no0 a p c (by omega) (fun ha => by have := hn ha; omega) w
  · obtain ⟨b, off, rfl, _, _, hx⟩ := hq (by omega)
    have y0 := hb.at_ p (by omega)
    exact number2_no1 b off l.length p c _ h0 hl w (hx p (by omega)) y0.1 y0.2

theorem number4_fine {w : World} {lo hi p c : Nat} {a : Option Addr} {l : List Int} (h : Sl w lo hi (.slice a l.length c) l) (hb : ByteL l) (hl : l.length ≤ 1000000) (hp : p + 4 ≤ l.length) :
    Calls Tryz.prog 172 #[.slice a l.length c, .int .i64 p] w (NumOk w (nAt4 l p) (p + 4)) := by
  obtain ⟨a', c', he, hc, hn, hq⟩ := h
  injection he with e1 e2 e3
  subst e1; subst e3
  obtain ⟨b, off, rfl, _, _, hx⟩ := hq (by omega)
  have y0 := hb.at_ p (by omega)
  have y1 := hb.at_ (p + 1) (by omega)
  have y2 := hb.at_ (p + 2) (by omega)
  have y3 := hb.at_ (p + 3) (by omega)
  exact number4_ok b off l.length p c _ _ _ _ hp hl w (hx p (by omega)) y0.1 y0.2 (hx (p + 1) (by omega)) y1.1 y1.2 (hx (p + 2) (by omega)) y2.1 y2.2 (hx (p + 3) (by omega)) y3.1 y3.2

theorem number4_short {w : World} {lo hi p c : Nat} {a : Option Addr} {l : List Int} (h : Sl w lo hi (.slice a l.length c) l) (hb : ByteL l) (hl : l.length ≤ 1000000) (hp : p ≤ l.length) (hs : l.length < p + 4) :
    Calls Tryz.prog 172 #[.slice a l.length c, .int .i64 p] w (NumBad w) := by
  obtain ⟨a', c', he, hc, hn, hq⟩ := h
  injection he with e1 e2 e3
  subst e1; subst e3
  obtain h0 | h0 | h0 | h0 : l.length = p ∨ p + 1 = l.length ∨ p + 2 = l.length ∨ p + 3 = l.length := by omega
  · rw [h0] at hc ⊢
    exact number4_no0 a p c (by omega) (fun ha => by have := hn ha; omega) w
  · obtain ⟨b, off, rfl, _, _, hx⟩ := hq (by omega)
    have y0 := hb.at_ p (by omega)
    exact number4_no1 b off l.length p c _ h0 hl w (hx p (by omega)) y0.1 y0.2
  · obtain ⟨b, off, rfl, _, _, hx⟩ := hq (by omega)
    have y0 := hb.at_ p (by omega)
    have y1 := hb.at_ (p + 1) (by omega)
    exact number4_no2 b off l.length p c _ _ h0 hl w (hx p (by omega)) y0.1 y0.2 (hx (p + 1) (by omega)) y1.1 y1.2
  · obtain ⟨b, off, rfl, _, _, hx⟩ := hq (by omega)
    have y0 := hb.at_ p (by omega)
    have y1 := hb.at_ (p + 1) (by omega)
    have y2 := hb.at_ (p + 2) (by omega)
    exact number4_no3 b off l.length p c _ _ _ h0 hl w (hx p (by omega)) y0.1 y0.2 (hx (p + 1) (by omega)) y1.1 y1.2 (hx (p + 2) (by omega)) y2.1 y2.2

theorem read_cells {w w1 : World} {v : Value} (hb : Below (w.heap.size + 1 + 1) ((w.alloc (.cells #[v] 28)).alloc (.cells #[.int .i64 0, .int .i64 0] 42)) w1) :
    w1.cell? ⟨w.heap.size, 0, none⟩ = some v ∧ w1.cell? ⟨w.heap.size + 1, 0, none⟩ = some (.int .i64 0) ∧ w1.cell? ⟨w.heap.size + 1, 1, none⟩ = some (.int .i64 0) ∧ ∀ j, w1.frozen? ⟨w.heap.size + 1, j, none⟩ = false := by
  refine ⟨(hb.cell (p := ⟨_, _, _⟩) (by simp; omega)).trans ?_, (hb.cell (p := ⟨_, _, _⟩) (by simp)).trans ?_, (hb.cell (p := ⟨_, _, _⟩) (by simp)).trans ?_, fun j => (hb.frozen (p := ⟨_, _, _⟩) (by simp)).trans ?_⟩
  all_goals simp [go_sem]

set_option maxHeartbeats 400000 in
theorem read_out (a : Option Addr) (n c : Nat) (f : Value) (p : Int) (hp : p < 0 ∨ n < p) (w : World) : Calls Tryz.prog 85 #[.slice a n c, .int .i64 p, f] w (GetPost w 0 0 5 0) := by
  have hmf : ∀ (fn : Fn) (first cap : Array Value) (w : World), (Instr.makeFunc fn first cap).run Tryz.prog w = .ok (.func fn first cap) w := fun _ _ _ _ => rfl
  go_enter_defers Tryz.func85, Tryz.ntmps85
  go_wp2
  all_goals
    simp [Leaves, bodyPostD, results, Tryz.results85, go_sem]
    exact ⟨rfl, ((Below.refl _ _).alloc (Nat.le_refl _) _).alloc (by simp) _⟩

set_option maxHeartbeats 1000000 in
theorem read16_ok (a : Option Addr) (n c p : Nat) (N E : Int) (hp : p ≤ n) (w : World)
    (H : ∀ w0, Below w.heap.size w w0 → Calls Tryz.prog 86 #[.slice a n c, .int .i64 p] w0 (NumOk w0 N E)) :
    Calls Tryz.prog 85 #[.slice a n c, .int .i64 p, .func (.func 86) #[] #[]] w (GetPost w N E 0 0) := by
  have hmf : ∀ (fn : Fn) (first cap : Array Value) (w : World), (Instr.makeFunc fn first cap).run Tryz.prog w = .ok (.func fn first cap) w := fun _ _ _ _ => rfl
  have hb0 : Below w.heap.size w ((w.alloc (.cells #[.slice a n c] 28)).alloc (.cells #[.int .i64 0, .int .i64 0] 42)) := ((Below.refl _ _).alloc (Nat.le_refl _) _).alloc (by simp) _
  have HB0 := Lib.hid hb0
  have HH := Lib.hid (H _ hb0)
  clear hb0 H
  go_enter_defers Tryz.func85, Tryz.ntmps85
  go_wp2_with (go_at_call 86; refine HH.out.mono ?_; rintro e w1 ⟨rfl, hb⟩; simp only [World.size_alloc] at hb; have HB := Lib.hid hb; have hcell := read_cells hb; clear hb; obtain ⟨k0, k1, k2, k3⟩ := hcell)
  refine leaves_cons (f := 96) (args := #[.pointer (some ⟨w.heap.size, 0, none⟩), .pointer (some ⟨w.heap.size + 1, 0, none⟩)]) (by simp) (by simp [go_sem]) ?_
  refine (catch_idle ⟨w.heap.size, 0, none⟩ ⟨w.heap.size + 1, 0, none⟩ _).mono ?_
  rintro e u' w'' ⟨rfl, rfl, rfl⟩
  obtain ⟨m0, m1⟩ := res_set (.int .i64 0) (.int .i64 0) k1 k2
  simp [Leaves, settle, results, Tryz.results85, go_sem, m0, m1]
  exact ⟨rfl, ((HB0.out.trans (HB.out.mono (by omega))).setCell (by simp) _).setCell (by simp) _⟩

set_option maxHeartbeats 1000000 in
theorem read16_no (a : Option Addr) (n c p : Nat) (hp : p ≤ n) (w : World)
    (H : ∀ w0, Below w.heap.size w w0 → Calls Tryz.prog 86 #[.slice a n c, .int .i64 p] w0 (NumBad w0)) :
    Calls Tryz.prog 85 #[.slice a n c, .int .i64 p, .func (.func 86) #[] #[]] w (GetPost w 0 0 4 n) := by
  have hmf : ∀ (fn : Fn) (first cap : Array Value) (w : World), (Instr.makeFunc fn first cap).run Tryz.prog w = .ok (.func fn first cap) w := fun _ _ _ _ => rfl
  have hb0 : Below w.heap.size w ((w.alloc (.cells #[.slice a n c] 28)).alloc (.cells #[.int .i64 0, .int .i64 0] 42)) := ((Below.refl _ _).alloc (Nat.le_refl _) _).alloc (by simp) _
  have HB0 := Lib.hid hb0
  have HH := Lib.hid (H _ hb0)
  clear hb0 H
  go_enter_defers Tryz.func85, Tryz.ntmps85
  go_wp2_with (go_at_call 86; refine HH.out.mono ?_; rintro e w1 ⟨x, y, s, c1, rfl, hb⟩; simp only [World.size_alloc] at hb; have HB := Lib.hid hb; have hcell := read_cells hb; clear hb; obtain ⟨k0, k1, k2, k3⟩ := hcell)
  refine leaves_cons (f := 96) (args := #[.pointer (some ⟨w.heap.size, 0, none⟩), .pointer (some ⟨w.heap.size + 1, 0, none⟩)]) (by simp) (by simp [go_sem]) ?_
  refine (catch_panicking ⟨w.heap.size, 0, none⟩ (w.heap.size + 1) a n c x y s c1 _ k0 k1 k2 k3).mono ?_
  rintro e u' w'' ⟨rfl, rfl, rfl⟩
  obtain ⟨m0, m1⟩ := res_set (.int .i64 4) (.int .i64 n) k1 k2
  simp [Leaves, settle, results, Tryz.results85, go_sem, m0, m1]
  exact ⟨rfl, ((HB0.out.trans (HB.out.mono (by omega))).setCell (by simp) _).setCell (by simp) _⟩

set_option maxHeartbeats 1000000 in
theorem read32_ok (a : Option Addr) (n c p : Nat) (N E : Int) (hp : p ≤ n) (w : World)
    (H : ∀ w0, Below w.heap.size w w0 → Calls Tryz.prog 172 #[.slice a n c, .int .i64 p] w0 (NumOk w0 N E)) :
    Calls Tryz.prog 85 #[.slice a n c, .int .i64 p, .func (.func 172) #[] #[]] w (GetPost w N E 0 0) := by
  have hmf : ∀ (fn : Fn) (first cap : Array Value) (w : World), (Instr.makeFunc fn first cap).run Tryz.prog w = .ok (.func fn first cap) w := fun _ _ _ _ => rfl
  have hb0 : Below w.heap.size w ((w.alloc (.cells #[.slice a n c] 28)).alloc (.cells #[.int .i64 0, .int .i64 0] 42)) := ((Below.refl _ _).alloc (Nat.le_refl _) _).alloc (by simp) _
  have HB0 := Lib.hid hb0
  have HH := Lib.hid (H _ hb0)
  clear hb0 H
  go_enter_defers Tryz.func85, Tryz.ntmps85
  go_wp2_with (go_at_call 172; refine HH.out.mono ?_; rintro e w1 ⟨rfl, hb⟩; simp only [World.size_alloc] at hb; have HB := Lib.hid hb; have hcell := read_cells hb; clear hb; obtain ⟨k0, k1, k2, k3⟩ := hcell)
  refine leaves_cons (f := 96) (args := #[.pointer (some ⟨w.heap.size, 0, none⟩), .pointer (some ⟨w.heap.size + 1, 0, none⟩)]) (by simp) (by simp [go_sem]) ?_
  refine (catch_idle ⟨w.heap.size, 0, none⟩ ⟨w.heap.size + 1, 0, none⟩ _).mono ?_
  rintro e u' w'' ⟨rfl, rfl, rfl⟩
  obtain ⟨m0, m1⟩ := res_set (.int .i64 0) (.int .i64 0) k1 k2
  simp [Leaves, settle, results, Tryz.results85, go_sem, m0, m1]
  exact ⟨rfl, ((HB0.out.trans (HB.out.mono (by omega))).setCell (by simp) _).setCell (by simp) _⟩

set_option maxHeartbeats 1000000 in
theorem read32_no (a : Option Addr) (n c p : Nat) (hp : p ≤ n) (w : World)
    (H : ∀ w0, Below w.heap.size w w0 → Calls Tryz.prog 172 #[.slice a n c, .int .i64 p] w0 (NumBad w0)) :
    Calls Tryz.prog 85 #[.slice a n c, .int .i64 p, .func (.func 172) #[] #[]] w (GetPost w 0 0 4 n) := by
  have hmf : ∀ (fn : Fn) (first cap : Array Value) (w : World), (Instr.makeFunc fn first cap).run Tryz.prog w = .ok (.func fn first cap) w := fun _ _ _ _ => rfl
  have hb0 : Below w.heap.size w ((w.alloc (.cells #[.slice a n c] 28)).alloc (.cells #[.int .i64 0, .int .i64 0] 42)) := ((Below.refl _ _).alloc (Nat.le_refl _) _).alloc (by simp) _
  have HB0 := Lib.hid hb0
  have HH := Lib.hid (H _ hb0)
  clear hb0 H
  go_enter_defers Tryz.func85, Tryz.ntmps85
  go_wp2_with (go_at_call 172; refine HH.out.mono ?_; rintro e w1 ⟨x, y, s, c1, rfl, hb⟩; simp only [World.size_alloc] at hb; have HB := Lib.hid hb; have hcell := read_cells hb; clear hb; obtain ⟨k0, k1, k2, k3⟩ := hcell)
  refine leaves_cons (f := 96) (args := #[.pointer (some ⟨w.heap.size, 0, none⟩), .pointer (some ⟨w.heap.size + 1, 0, none⟩)]) (by simp) (by simp [go_sem]) ?_
  refine (catch_panicking ⟨w.heap.size, 0, none⟩ (w.heap.size + 1) a n c x y s c1 _ k0 k1 k2 k3).mono ?_
  rintro e u' w'' ⟨rfl, rfl, rfl⟩
  obtain ⟨m0, m1⟩ := res_set (.int .i64 4) (.int .i64 n) k1 k2
  simp [Leaves, settle, results, Tryz.results85, go_sem, m0, m1]
  exact ⟨rfl, ((HB0.out.trans (HB.out.mono (by omega))).setCell (by simp) _).setCell (by simp) _⟩

/-- The fault's number, where it is, and what is told where there is none. -/
def getE (sz len : Nat) (t : Int) : Int := if t < 0 ∨ (len : Int) < t then 5 else if (len : Int) < t + sz then 4 else 0

def getA (sz len : Nat) (t : Int) : Int := if 0 ≤ t ∧ t ≤ (len : Int) ∧ (len : Int) < t + sz then len else 0

def getF (sz len : Nat) (t v : Int) : Int := if 0 ≤ t ∧ t + sz ≤ (len : Int) then v else 0

theorem read16_any {w : World} {lo hi c : Nat} {a : Option Addr} {l : List Int} (h : Sl w lo hi (.slice a l.length c) l) (hb : ByteL l) (hl : l.length ≤ 1000000) (hhi : hi ≤ w.heap.size) (t : Int) :
    Calls Tryz.prog 85 #[.slice a l.length c, .int .i64 t, .func (.func 86) #[] #[]] w (GetPost w (getF 2 l.length t (nAt2 l t.toNat)) (getF 2 l.length t (t + 2)) (getE 2 l.length t) (getA 2 l.length t)) := by
  by_cases h0 : t < 0 ∨ (l.length : Int) < t
  · have e1 : ∀ v, getF 2 l.length t v = 0 := fun v => by unfold getF; rw [if_neg (by omega)]
    have e2 : getE 2 l.length t = 5 := by unfold getE; rw [if_pos h0]
    have e3 : getA 2 l.length t = 0 := by unfold getA; rw [if_neg (by omega)]
    rw [e1, e1, e2, e3]
    exact read_out a l.length c _ t h0 w
  · obtain ⟨p, rfl⟩ : ∃ p : Nat, t = p := ⟨t.toNat, by omega⟩
    by_cases h1 : p + 2 ≤ l.length
    · have e1 : ∀ v, getF 2 l.length p v = v := fun v => by unfold getF; rw [if_pos (by omega)]
      have e2 : getE 2 l.length p = 0 := by unfold getE; rw [if_neg h0, if_neg (by omega)]
      have e3 : getA 2 l.length p = 0 := by unfold getA; rw [if_neg (by omega)]
      rw [e1, e1, e2, e3, Int.toNat_natCast]
      exact read16_ok a l.length c p _ _ (by omega) w fun w0 hw => number2_fine (h.below hw hhi) hb hl h1
    · have e1 : ∀ v, getF 2 l.length p v = 0 := fun v => by unfold getF; rw [if_neg (by omega)]
      have e2 : getE 2 l.length p = 4 := by unfold getE; rw [if_neg h0, if_pos (by omega)]
      have e3 : getA 2 l.length p = l.length := by unfold getA; rw [if_pos (by omega)]
      rw [e1, e1, e2, e3]
      exact read16_no a l.length c p (by omega) w fun w0 hw => number2_short (h.below hw hhi) hb hl (by omega) (by omega)

set_option maxHeartbeats 400000 in
theorem get16_any {w : World} {lo hi : Nat} {v : Value} {l : List Int} (h : Sl w lo hi v l) (hb : ByteL l) (hl : l.length ≤ 1000000) (hhi : hi ≤ w.heap.size) (t : Int) :
    Calls Tryz.prog 72 #[v, .int .i64 t] w (GetPost w (getF 2 l.length t (nAt2 l t.toNat)) (getF 2 l.length t (t + 2)) (getE 2 l.length t) (getA 2 l.length t)) := by
  have hb0 : Below w.heap.size w (w.alloc (.cells #[.int .i64 0, .int .i64 0] 42)) := (Below.refl _ _).alloc (Nat.le_refl _) _
  have hs := h.below hb0 hhi
  obtain ⟨a, c, rfl, _⟩ := h
  have HH := Lib.hid (read16_any hs hb hl (by simp; omega) t)
  have HB0 := Lib.hid hb0
  clear hb0 hs hb
  generalize getF 2 l.length t (nAt2 l t.toNat) = N at *
  generalize getF 2 l.length t (t + 2) = E at *
  generalize getE 2 l.length t = F at *
  generalize getA 2 l.length t = A at *
  go_enter Tryz.func72, Tryz.ntmps72
  go_wp2_with (go_at_call 85; refine HH.out.mono ?_; rintro e w1 ⟨rfl, hb⟩; simp only [World.size_alloc] at hb; have HB := Lib.hid hb; have hcell := res_cells hb; clear hb; obtain ⟨k1, k2, k3⟩ := hcell)
  obtain ⟨m0, m1⟩ := res_set (.int .i64 F) (.int .i64 A) k1 k2
  refine bodyPost_ret (v := .tuple #[.int .i64 N, .int .i64 E, .agg #[.int .i64 F, .int .i64 A]]) (by simp [results, Tryz.results72, go_sem, m0, m1]) rfl ⟨rfl, ?_⟩
  exact ((HB0.out.trans (HB.out.mono (by omega))).setCell (by simp) _).setCell (by simp) _

theorem read32_any {w : World} {lo hi c : Nat} {a : Option Addr} {l : List Int} (h : Sl w lo hi (.slice a l.length c) l) (hb : ByteL l) (hl : l.length ≤ 1000000) (hhi : hi ≤ w.heap.size) (t : Int) :
    Calls Tryz.prog 85 #[.slice a l.length c, .int .i64 t, .func (.func 172) #[] #[]] w (GetPost w (getF 4 l.length t (nAt4 l t.toNat)) (getF 4 l.length t (t + 4)) (getE 4 l.length t) (getA 4 l.length t)) := by
  by_cases h0 : t < 0 ∨ (l.length : Int) < t
  · have e1 : ∀ v, getF 4 l.length t v = 0 := fun v => by unfold getF; rw [if_neg (by omega)]
    have e2 : getE 4 l.length t = 5 := by unfold getE; rw [if_pos h0]
    have e3 : getA 4 l.length t = 0 := by unfold getA; rw [if_neg (by omega)]
    rw [e1, e1, e2, e3]
    exact read_out a l.length c _ t h0 w
  · obtain ⟨p, rfl⟩ : ∃ p : Nat, t = p := ⟨t.toNat, by omega⟩
    by_cases h1 : p + 4 ≤ l.length
    · have e1 : ∀ v, getF 4 l.length p v = v := fun v => by unfold getF; rw [if_pos (by omega)]
      have e2 : getE 4 l.length p = 0 := by unfold getE; rw [if_neg h0, if_neg (by omega)]
      have e3 : getA 4 l.length p = 0 := by unfold getA; rw [if_neg (by omega)]
      rw [e1, e1, e2, e3, Int.toNat_natCast]
      exact read32_ok a l.length c p _ _ (by omega) w fun w0 hw => number4_fine (h.below hw hhi) hb hl h1
    · have e1 : ∀ v, getF 4 l.length p v = 0 := fun v => by unfold getF; rw [if_neg (by omega)]
      have e2 : getE 4 l.length p = 4 := by unfold getE; rw [if_neg h0, if_pos (by omega)]
      have e3 : getA 4 l.length p = l.length := by unfold getA; rw [if_pos (by omega)]
      rw [e1, e1, e2, e3]
      exact read32_no a l.length c p (by omega) w fun w0 hw => number4_short (h.below hw hhi) hb hl (by omega) (by omega)

set_option maxHeartbeats 400000 in
theorem get32_any {w : World} {lo hi : Nat} {v : Value} {l : List Int} (h : Sl w lo hi v l) (hb : ByteL l) (hl : l.length ≤ 1000000) (hhi : hi ≤ w.heap.size) (t : Int) :
    Calls Tryz.prog 164 #[v, .int .i64 t] w (GetPost w (getF 4 l.length t (nAt4 l t.toNat)) (getF 4 l.length t (t + 4)) (getE 4 l.length t) (getA 4 l.length t)) := by
  have hb0 : Below w.heap.size w (w.alloc (.cells #[.int .i64 0, .int .i64 0] 42)) := (Below.refl _ _).alloc (Nat.le_refl _) _
  have hs := h.below hb0 hhi
  obtain ⟨a, c, rfl, _⟩ := h
  have HH := Lib.hid (read32_any hs hb hl (by simp; omega) t)
  have HB0 := Lib.hid hb0
  clear hb0 hs hb
  generalize getF 4 l.length t (nAt4 l t.toNat) = N at *
  generalize getF 4 l.length t (t + 4) = E at *
  generalize getE 4 l.length t = F at *
  generalize getA 4 l.length t = A at *
  go_enter Tryz.func164, Tryz.ntmps164
  go_wp2_with (go_at_call 85; refine HH.out.mono ?_; rintro e w1 ⟨rfl, hb⟩; simp only [World.size_alloc] at hb; have HB := Lib.hid hb; have hcell := res_cells hb; clear hb; obtain ⟨k1, k2, k3⟩ := hcell)
  obtain ⟨m0, m1⟩ := res_set (.int .i64 F) (.int .i64 A) k1 k2
  refine bodyPost_ret (v := .tuple #[.int .i64 N, .int .i64 E, .agg #[.int .i64 F, .int .i64 A]]) (by simp [results, Tryz.results164, go_sem, m0, m1]) rfl ⟨rfl, ?_⟩
  exact ((HB0.out.trans (HB.out.mono (by omega))).setCell (by simp) _).setCell (by simp) _
end Go.Proofs.YteegekpanadmkaaGreat

/-
  octet.Bytes.
-/
namespace Go.Proofs.YteegekpanadmkaaGreat
open Go.RowKit
set_option linter.unusedVariables false
set_option maxRecDepth 100000

/-- New bytes, and a number. -/
def PiecePost (w : World) (L : List Int) (E : Int) (e : Ending) (w' : World) : Prop :=
  ∃ v g, e = .returned (.tuple #[v, .int .i64 E]) ∧ Own w' g v L ∧ w.heap.size ≤ g ∧ g < w'.heap.size ∧ Below w.heap.size w w'

set_option maxHeartbeats 1000000 in
theorem piece_no (a : Option Addr) (len c p : Nat) (n : Int) (ha : a = none → len = 0) (hp : p ≤ len) (hl : len ≤ 1000000) (h0 : 0 < n) (h1 : n ≤ 9223372036854775807) (h : (len : Int) < p + n) (w : World) :
    Calls Tryz.prog 149 #[.slice a len c, .int .i64 p, .int .i64 n] w (NumBad w) := by
  obtain ⟨e1, e2, e3, e4, e5, hrun⟩ := idx_out a len c _ ha (out_wrap p len n hp hl h0 h1 h) w
  have HA := Lib.hid h1
  have HB := Lib.hid h
  clear h1 h ha
  go_enter Tryz.func149, Tryz.ntmps149
  go_wp2
  exact ⟨rfl, e1, e2, e3, e5, rfl, below_drewN (Below.refl _ _) _⟩

set_option maxHeartbeats 1000000 in
theorem piece_some {w : World} {lo hi c p m : Nat} {a : Option Addr} {l : List Int} (h : Sl w lo hi (.slice a l.length c) l) (hl : l.length ≤ 1000000) (hm : 0 < m) (hp : p + m ≤ l.length) :
    Calls Tryz.prog 149 #[.slice a l.length c, .int .i64 p, .int .i64 m] w (PiecePost w (cutL l p m) (p + m)) := by
  have hb1 : Below w.heap.size w (w.alloc (Obj.cells (Array.replicate m (Value.int IntKind.u8 0)) 5)) := (Below.refl _ _).alloc (Nat.le_refl _) _
  obtain ⟨b, off, rfl, hnews⟩ := h.news_cut hb1 p m hm hp
  have hcell : w.cell? ⟨b, off + (p + m - 1), none⟩ = some (.int .u8 (l.getD (p + m - 1) 0)) := by
    obtain ⟨a', c', he, hc, hn, hq⟩ := h
    injection he with e1 e2 e3
    obtain ⟨b', off', e4, _, _, hx⟩ := hq (by omega)
    rw [← e1] at e4
    injection e4 with e4
    injection e4 with e5 e6 e7
    subst e5; subst e6
    exact hx (p + m - 1) (by omega)
  have hcap : l.length ≤ c := by
    obtain ⟨a', c', he, hc, hn, hq⟩ := h
    injection he with e1 e2 e3
    omega
  obtain ⟨x, hx⟩ : ∃ x, x = l.getD (p + m - 1) 0 := ⟨_, rfl⟩
  rw [← hx] at hcell
  have hlc := cutL_len l p m hp
  obtain ⟨cs, hcs⟩ : ∃ cs, cs = (cutL l p m).map (Value.int .u8) := ⟨_, rfl⟩
  have hlen : cs.length = m := by rw [hcs]; simpa using hlc
  have hone : ∀ u ∈ cs, u.oneCell' = true := by rw [hcs]; exact ints_oneCell _ _
  rw [← hcs] at hnews
  obtain ⟨len, hle⟩ : ∃ len, len = l.length := ⟨_, rfl⟩
  rw [← hle] at hp hl hcap ⊢
  have HN := Lib.hid hnews
  have HO := Lib.hid hone
  have HC := Lib.hid hcs
  have HL := Lib.hid hlen
  have HLC := Lib.hid hlc
  have HB1 := Lib.hid hb1
  have hmk := fun wx => makeN m (by omega) wx
  have hcp : ¬ c = p := by omega
  clear hnews hone hcs hlen hb1 hlc h hx hle
  go_enter Tryz.func149, Tryz.ntmps149
  go_wp2_with (with_reducible refine wpList_copy_splice rfl (.tmp 20) (.tmp 23) 28 28 rfl 5 Tryz.underlying28 Tryz.size5 _ _ _ _ _ _ rfl rfl w.heap.size 0 (List.replicate m (Value.int .u8 0)) 5 ?c1 cs ?c2 ?c3 ?c4 HO.out w.heap.size w HB1.out (Nat.le_refl _) ?_)
  case c1 => rw [List.toArray_replicate]; exact heap_alloc_new w _
  case c2 => rw [HL.out]; exact (Nat.min_eq_right (by omega)).symm
  case c3 => exact fun h0 => HN.out
  case c4 => rw [HL.out]; simp
  rw [HL.out]
  intro w1 HG HB
  have hg : w1.heap[w.heap.size]? = some (.cells ((cutL l p m).map (Value.int .u8)).toArray 5 (0, 0)) := by
    have := HG.out
    rw [splice_all m cs _ HL.out, HC.out] at this
    exact this
  have hlt : w.heap.size < w1.heap.size := (Array.getElem?_eq_some_iff.mp hg).1
  have HB := Lib.hid HB
  have HG2 := Lib.hid hg
  clear hg HG hmk
  go_wp2_with fail
  go_ret2
  exact ⟨_, w.heap.size, rfl, .inr ⟨by rw [HLC.out]; rfl, HG2.out⟩, Nat.le_refl _, hlt, HB.out⟩

set_option maxHeartbeats 1000000 in
theorem piece_none (a : Option Addr) (len c p : Nat) (hc : len ≤ c) (hl : len ≤ 1000000) (hp : p ≤ len) (w : World) :
    Calls Tryz.prog 149 #[.slice a len c, .int .i64 p, .int .i64 0] w (PiecePost w [] p) := by
  have hmk := fun wx => makeN 0 (by omega) wx
  simp only [Int.natCast_zero, List.replicate_zero] at hmk
  have hbel : Below w.heap.size w (w.alloc (.cells #[] 5)) := (Below.refl _ _).alloc (Nat.le_refl _) _
  have HB := Lib.hid hbel
  clear hbel
  go_enter Tryz.func149, Tryz.ntmps149
  go_wp2_with (with_reducible refine wpList_copy_nothing rfl (.tmp 20) (.tmp 23) 28 28 rfl 5 Tryz.underlying28 Tryz.size5 _ _ _ _ _ _ rfl rfl (Nat.min_zero _) ?_)
  all_goals
    go_ret2
    exact ⟨_, w.heap.size, rfl, .inr ⟨rfl, heap_alloc_new w _⟩, Nat.le_refl _, by simp, HB.out⟩

theorem piece_fine {w : World} {lo hi c p m : Nat} {a : Option Addr} {l : List Int} (h : Sl w lo hi (.slice a l.length c) l) (hl : l.length ≤ 1000000) (hp : p + m ≤ l.length) :
    Calls Tryz.prog 149 #[.slice a l.length c, .int .i64 p, .int .i64 m] w (PiecePost w (cutL l p m) (p + m)) := by
  by_cases hm : 0 < m
  · exact piece_some h hl hm hp
  · obtain rfl : m = 0 := by omega
    obtain ⟨a', c', he, hc, _⟩ := h
    injection he with e1 e2 e3
    subst e3
    rw [cutL_none]
    simpa using piece_none a l.length c p hc hl (by omega) w

theorem catch_idle6 (p q : Addr) (w : World) :
    CallsD Tryz.prog 150 #[.pointer (some p), .pointer (some q)] .returning w fun e u' w' => e = .returned (.tuple #[]) ∧ u' = .returning ∧ w = w' := by
  refine callsD_of_wpS Tryz.func150 rfl fun c₀ cs hu => ?_
  simp only [Tryz.ntmps150, List.size_toArray, List.length_cons, List.length_nil, Nat.reduceAdd, Nat.reduceSub, Array.replicate_succ, Array.replicate_zero, List.push_toArray, List.append_toArray, List.nil_append, List.cons_append]
  apply wpS_seq
  apply wpS_region
  simp [wpOpsS, go_sem, recoverD, hu, Exit.thenS, ta_nil]
  refine wpS_of_wp ?_
  go_wp2
  cases c₀
  simp_all [bodyPostS, results, Tryz.results150]

theorem catch_panicking6 (p : Addr) (g : Nat) (a : Option Addr) (n k : Nat) (x y : Int) (s : Bool) (c : Int) (w : World) (hp : w.cell? p = some (.slice a n k)) (h0 : w.cell? ⟨g, 0, none⟩ = some (.int .i64 0)) (h1 : w.cell? ⟨g, 1, none⟩ = some (.int .i64 0)) (hf : ∀ j, w.frozen? ⟨g, j, none⟩ = false) :
    CallsD Tryz.prog 150 #[.pointer (some p), .pointer (some ⟨g, 0, none⟩)] (.panicking [{ v := .iface 8 (.agg #[.int .i64 x, .int .i64 y, .bool s, .int .u8 c]), recovered := false }]) w fun e u' w' =>
      e = .returned (.tuple #[]) ∧ u' = .panicking [{ v := .iface 8 (.agg #[.int .i64 x, .int .i64 y, .bool s, .int .u8 c]), recovered := true }] ∧ w' = (w.setCell ⟨g, 0, none⟩ (.int .i64 4)).setCell ⟨g, 1, none⟩ (.int .i64 n) := by
  refine callsD_of_wpS Tryz.func150 rfl fun c₀ cs hu => ?_
  simp only [Tryz.ntmps150, List.size_toArray, List.length_cons, List.length_nil, Nat.reduceAdd, Nat.reduceSub, Array.replicate_succ, Array.replicate_zero, List.push_toArray, List.append_toArray, List.nil_append, List.cons_append]
  apply wpS_seq
  apply wpS_region
  simp [wpOpsS, go_sem, recoverD, hu, Exit.thenS, ta_bounds]
  refine wpS_of_wp ?_
  go_wp2
  cases c₀
  simp_all [bodyPostS, results, Tryz.results150]

def BytesPost (w : World) (L : List Int) (E F A : Int) (e : Ending) (w' : World) : Prop :=
  ∃ v g, e = .returned (.tuple #[v, .int .i64 E, .agg #[.int .i64 F, .int .i64 A]]) ∧ Own w' g v L ∧ w.heap.size ≤ g ∧ g < w'.heap.size ∧ Below w.heap.size w w'

set_option maxHeartbeats 400000 in
theorem in33_fine {w : World} {a : Option Addr} {n c p m : Nat} {q : Addr} {L : List Int} {E : Int} (hq : w.cell? q = some (.int .i64 m)) (H : Calls Tryz.prog 149 #[.slice a n c, .int .i64 p, .int .i64 m] w (PiecePost w L E)) :
    Calls Tryz.prog 148 #[.slice a n c, .int .i64 p, .pointer (some q)] w (PiecePost w L E) := by
  have HH := Lib.hid H
  clear H
  go_enter Tryz.func148, Tryz.ntmps148
  go_wp2_with (go_at_call 149; refine HH.out.mono ?_; rintro e w1 ⟨v, g, rfl, h1, h2, h3, h4⟩; have H1 := Lib.hid h1; have H2 := Lib.hid h2; have H3 := Lib.hid h3; have H4 := Lib.hid h4; clear h1 h2 h3 h4)
  go_ret2
  exact ⟨v, g, rfl, H1.out, H2.out, H3.out, H4.out⟩

set_option maxHeartbeats 400000 in
theorem in33_short {w : World} {a : Option Addr} {n c p : Nat} {m : Int} {q : Addr} (hq : w.cell? q = some (.int .i64 m)) (H : Calls Tryz.prog 149 #[.slice a n c, .int .i64 p, .int .i64 m] w (NumBad w)) :
    Calls Tryz.prog 148 #[.slice a n c, .int .i64 p, .pointer (some q)] w (NumBad w) := by
  have HH := Lib.hid H
  clear H
  go_enter Tryz.func148, Tryz.ntmps148
  go_wp2_with (go_at_call 149; refine HH.out.mono ?_; rintro e w1 ⟨x, y, s, c1, rfl, hb⟩; have HB := Lib.hid hb; clear hb)
  exact ⟨rfl, x, y, s, c1, rfl, HB.out⟩

set_option maxHeartbeats 400000 in
theorem readb_out (a : Option Addr) (n c : Nat) (f : Value) (p : Int) (hp : p < 0 ∨ n < p) (w : World) : Calls Tryz.prog 147 #[.slice a n c, .int .i64 p, f] w (BytesPost w [] 0 5 0) := by
  have hmf : ∀ (fn : Fn) (first cap : Array Value) (w : World), (Instr.makeFunc fn first cap).run Tryz.prog w = .ok (.func fn first cap) w := fun _ _ _ _ => rfl
  go_enter_defers Tryz.func147, Tryz.ntmps147
  go_wp2
  all_goals
    simp [Leaves, bodyPostD, results, Tryz.results147, go_sem]
    exact ⟨_, w.heap.size, rfl, .inl ⟨rfl, rfl⟩, Nat.le_refl _, by simp; omega, ((Below.refl _ _).alloc (Nat.le_refl _) _).alloc (by simp) _⟩

set_option maxHeartbeats 1000000 in
theorem readb_ok (a : Option Addr) (n c p : Nat) (q : Addr) (L : List Int) (E : Int) (hp : p ≤ n) (w : World)
    (H : ∀ w0, Below w.heap.size w w0 → Calls Tryz.prog 148 #[.slice a n c, .int .i64 p, .pointer (some q)] w0 (PiecePost w0 L E)) :
    Calls Tryz.prog 147 #[.slice a n c, .int .i64 p, .func (.func 148) #[] #[.pointer (some q)]] w (BytesPost w L E 0 0) := by
  have hmf : ∀ (fn : Fn) (first cap : Array Value) (w : World), (Instr.makeFunc fn first cap).run Tryz.prog w = .ok (.func fn first cap) w := fun _ _ _ _ => rfl
  have hb0 : Below w.heap.size w ((w.alloc (.cells #[.slice a n c] 28)).alloc (.cells #[.int .i64 0, .int .i64 0] 42)) := ((Below.refl _ _).alloc (Nat.le_refl _) _).alloc (by simp) _
  have HB0 := Lib.hid hb0
  have HH := Lib.hid (H _ hb0)
  clear hb0 H
  go_enter_defers Tryz.func147, Tryz.ntmps147
  go_wp2_with (go_at_call 148; refine HH.out.mono ?_; rintro e w1 ⟨v, g, rfl, h1, h2, h3, hb⟩; simp only [World.size_alloc] at hb h2; have H1 := Lib.hid h1; have H2 := Lib.hid h2; have H3 := Lib.hid h3; have HB := Lib.hid hb; have hcell := read_cells hb; clear hb h1 h2 h3; obtain ⟨k0, k1, k2, k3⟩ := hcell)
  refine leaves_cons (f := 150) (args := #[.pointer (some ⟨w.heap.size, 0, none⟩), .pointer (some ⟨w.heap.size + 1, 0, none⟩)]) (by simp) (by simp [go_sem]) ?_
  refine (catch_idle6 ⟨w.heap.size, 0, none⟩ ⟨w.heap.size + 1, 0, none⟩ _).mono ?_
  rintro e u' w'' ⟨rfl, rfl, rfl⟩
  obtain ⟨m0, m1⟩ := res_set (.int .i64 0) (.int .i64 0) k1 k2
  simp [Leaves, settle, results, Tryz.results147, go_sem, m0, m1]
  have g2 := H2.out
  refine ⟨v, g, rfl, (H1.out.set (by simp; omega) _).set (by simp; omega) _, by omega, ?_, ((HB0.out.trans (HB.out.mono (by omega))).setCell (by simp) _).setCell (by simp) _⟩
  have := H3.out
  simpa [World.setCell] using this

set_option maxHeartbeats 1000000 in
theorem readb_no (a : Option Addr) (n c p : Nat) (q : Addr) (hp : p ≤ n) (w : World)
    (H : ∀ w0, Below w.heap.size w w0 → Calls Tryz.prog 148 #[.slice a n c, .int .i64 p, .pointer (some q)] w0 (NumBad w0)) :
    Calls Tryz.prog 147 #[.slice a n c, .int .i64 p, .func (.func 148) #[] #[.pointer (some q)]] w (BytesPost w [] 0 4 n) := by
  have hmf : ∀ (fn : Fn) (first cap : Array Value) (w : World), (Instr.makeFunc fn first cap).run Tryz.prog w = .ok (.func fn first cap) w := fun _ _ _ _ => rfl
  have hb0 : Below w.heap.size w ((w.alloc (.cells #[.slice a n c] 28)).alloc (.cells #[.int .i64 0, .int .i64 0] 42)) := ((Below.refl _ _).alloc (Nat.le_refl _) _).alloc (by simp) _
  have HB0 := Lib.hid hb0
  have HH := Lib.hid (H _ hb0)
  clear hb0 H
  go_enter_defers Tryz.func147, Tryz.ntmps147
  go_wp2_with (go_at_call 148; refine HH.out.mono ?_; rintro e w1 ⟨x, y, s, c1, rfl, hb⟩; simp only [World.size_alloc] at hb; have HB := Lib.hid hb; have hcell := read_cells hb; clear hb; obtain ⟨k0, k1, k2, k3⟩ := hcell)
  refine leaves_cons (f := 150) (args := #[.pointer (some ⟨w.heap.size, 0, none⟩), .pointer (some ⟨w.heap.size + 1, 0, none⟩)]) (by simp) (by simp [go_sem]) ?_
  refine (catch_panicking6 ⟨w.heap.size, 0, none⟩ (w.heap.size + 1) a n c x y s c1 _ k0 k1 k2 k3).mono ?_
  rintro e u' w'' ⟨rfl, rfl, rfl⟩
  obtain ⟨m0, m1⟩ := res_set (.int .i64 4) (.int .i64 n) k1 k2
  simp [Leaves, settle, results, Tryz.results147, go_sem, m0, m1]
  have hsz := HB.out.size
  simp only [World.size_alloc] at hsz
  refine ⟨_, w.heap.size, rfl, .inl ⟨rfl, rfl⟩, Nat.le_refl _, ?_, ((HB0.out.trans (HB.out.mono (by omega))).setCell (by simp) _).setCell (by simp) _⟩
  simp [World.setCell]
  omega

theorem read_cells' {w w1 : World} {v : Value} (hb : Below (w.heap.size + 1 + 1) ((w.alloc (.cells #[v] 3)).alloc (.cells #[.int .i64 0, .int .i64 0] 42)) w1) :
    w1.cell? ⟨w.heap.size + 1, 0, none⟩ = some (.int .i64 0) ∧ w1.cell? ⟨w.heap.size + 1, 1, none⟩ = some (.int .i64 0) ∧ ∀ j, w1.frozen? ⟨w.heap.size + 1, j, none⟩ = false := by
  refine ⟨(hb.cell (p := ⟨_, _, _⟩) (by simp)).trans ?_, (hb.cell (p := ⟨_, _, _⟩) (by simp)).trans ?_, fun j => (hb.frozen (p := ⟨_, _, _⟩) (by simp)).trans ?_⟩
  all_goals simp [go_sem]

def bytE (len : Nat) (t n : Int) : Int := if n < 0 then 2 else if t < 0 ∨ (len : Int) < t then 5 else if (len : Int) < t + n then 4 else 0

def bytA (len : Nat) (t n : Int) : Int := if 0 ≤ n ∧ 0 ≤ t ∧ t ≤ (len : Int) ∧ (len : Int) < t + n then len else 0

def bytF (len : Nat) (t n : Int) : Int := if 0 ≤ n ∧ 0 ≤ t ∧ t + n ≤ (len : Int) then t + n else 0

def bytL (l : List Int) (t n : Int) : List Int := if 0 ≤ n ∧ 0 ≤ t ∧ t + n ≤ (l.length : Int) then cutL l t.toNat n.toNat else []

set_option maxHeartbeats 400000 in
theorem bytes_arg (a : Option Addr) (n c : Nat) (t m : Int) (hm : m < 0) (w : World) : Calls Tryz.prog 146 #[.slice a n c, .int .i64 t, .int .i64 m] w (BytesPost w [] 0 2 0) := by
  go_enter Tryz.func146, Tryz.ntmps146
  go_wp2
  refine bodyPost_ret (v := .tuple #[.slice none 0 0, .int .i64 0, .agg #[.int .i64 2, .int .i64 0]]) (by simp [results, Tryz.results146, go_sem]) rfl ⟨_, w.heap.size, rfl, .inl ⟨rfl, rfl⟩, Nat.le_refl _, by simp; omega, ?_⟩
  exact ((Below.refl _ _).alloc (Nat.le_refl _) _).alloc (by simp) _

set_option maxHeartbeats 400000 in
theorem bytes_rest (a : Option Addr) (n c : Nat) (t m : Int) (L : List Int) (E F A : Int) (hm : 0 ≤ m) (w : World)
    (H : ∀ w0 q, Below w.heap.size w w0 → w0.cell? q = some (.int .i64 m) → Calls Tryz.prog 147 #[.slice a n c, .int .i64 t, .func (.func 148) #[] #[.pointer (some q)]] w0 (BytesPost w0 L E F A)) :
    Calls Tryz.prog 146 #[.slice a n c, .int .i64 t, .int .i64 m] w (BytesPost w L E F A) := by
  have hmf : ∀ (fn : Fn) (first cap : Array Value) (w : World), (Instr.makeFunc fn first cap).run Tryz.prog w = .ok (.func fn first cap) w := fun _ _ _ _ => rfl
  have hb0 : Below w.heap.size w ((w.alloc (.cells #[.int .i64 m] 3)).alloc (.cells #[.int .i64 0, .int .i64 0] 42)) := ((Below.refl _ _).alloc (Nat.le_refl _) _).alloc (by simp) _
  have HB0 := Lib.hid hb0
  have HH := Lib.hid (H _ ⟨w.heap.size, 0, none⟩ hb0 (by simp [go_sem]))
  clear hb0 H
  go_enter Tryz.func146, Tryz.ntmps146
  go_wp2_with (go_at_call 147; refine HH.out.mono ?_; rintro e w1 ⟨v, g, rfl, h1, h2, h3, hb⟩; simp only [World.size_alloc] at hb h2; have H1 := Lib.hid h1; have H2 := Lib.hid h2; have H3 := Lib.hid h3; have HB := Lib.hid hb; have hcell := read_cells' hb; clear hb h1 h2 h3; obtain ⟨k1, k2, k3⟩ := hcell)
  obtain ⟨m0, m1⟩ := res_set (.int .i64 F) (.int .i64 A) k1 k2
  have g2 := H2.out
  have g3 := H3.out
  refine bodyPost_ret (v := .tuple #[v, .int .i64 E, .agg #[.int .i64 F, .int .i64 A]]) (by simp [results, Tryz.results146, go_sem, m0, m1]) rfl
    ⟨v, g, rfl, (H1.out.set (by simp; omega) _).set (by simp; omega) _, by omega, by simpa [World.setCell] using g3, ((HB0.out.trans (HB.out.mono (by omega))).setCell (by simp) _).setCell (by simp) _⟩

theorem readb_any {w : World} {lo hi c : Nat} {a : Option Addr} {l : List Int} (h : Sl w lo hi (.slice a l.length c) l) (hl : l.length ≤ 1000000) (hhi : hi ≤ w.heap.size) (t m : Int) (h0 : 0 ≤ m) (h1 : m ≤ 9223372036854775807) (q : Addr) (hq : w.cell? q = some (.int .i64 m)) :
    Calls Tryz.prog 147 #[.slice a l.length c, .int .i64 t, .func (.func 148) #[] #[.pointer (some q)]] w (BytesPost w (bytL l t m) (bytF l.length t m) (bytE l.length t m) (bytA l.length t m)) := by
  have hn : a = none → l.length = 0 := by
    obtain ⟨a', c', he, hc, hn, _⟩ := h
    injection he with e1 e2 e3
    subst e1; subst e3
    intro ha
    have := hn ha
    omega
  by_cases h2 : t < 0 ∨ (l.length : Int) < t
  · have e1 : bytL l t m = [] := by unfold bytL; rw [if_neg (by omega)]
    have e2 : bytF l.length t m = 0 := by unfold bytF; rw [if_neg (by omega)]
    have e3 : bytE l.length t m = 5 := by unfold bytE; rw [if_neg (by omega), if_pos h2]
    have e4 : bytA l.length t m = 0 := by unfold bytA; rw [if_neg (by omega)]
    rw [e1, e2, e3, e4]
    exact readb_out a l.length c _ t h2 w
  · obtain ⟨p, rfl⟩ : ∃ p : Nat, t = p := ⟨t.toNat, by omega⟩
    by_cases h3 : (p : Int) + m ≤ l.length
    · obtain ⟨k, rfl⟩ : ∃ k : Nat, m = k := ⟨m.toNat, by omega⟩
      have e1 : bytL l p k = cutL l p k := by unfold bytL; rw [if_pos (by omega), Int.toNat_natCast, Int.toNat_natCast]
      have e2 : bytF l.length p k = p + k := by unfold bytF; rw [if_pos (by omega)]
      have e3 : bytE l.length p k = 0 := by unfold bytE; rw [if_neg (by omega), if_neg h2, if_neg (by omega)]
      have e4 : bytA l.length p k = 0 := by unfold bytA; rw [if_neg (by omega)]
      rw [e1, e2, e3, e4]
      exact readb_ok a l.length c p q _ _ (by omega) w fun w0 hw => in33_fine (cell_later hw hq) (piece_fine (h.below hw hhi) hl (by omega))
    · have e1 : bytL l p m = [] := by unfold bytL; rw [if_neg (by omega)]
      have e2 : bytF l.length p m = 0 := by unfold bytF; rw [if_neg (by omega)]
      have e3 : bytE l.length p m = 4 := by unfold bytE; rw [if_neg (by omega), if_neg h2, if_pos (by omega)]
      have e4 : bytA l.length p m = l.length := by unfold bytA; rw [if_pos (by omega)]
      rw [e1, e2, e3, e4]
      exact readb_no a l.length c p q (by omega) w fun w0 hw => in33_short (cell_later hw hq) (piece_no a l.length c p m hn (by omega) hl (by omega) h1 (by omega) w0)

theorem bytes_any {w : World} {lo hi : Nat} {v : Value} {l : List Int} (h : Sl w lo hi v l) (hl : l.length ≤ 1000000) (hhi : hi ≤ w.heap.size) (t m : Int) (h1 : m ≤ 9223372036854775807) :
    Calls Tryz.prog 146 #[v, .int .i64 t, .int .i64 m] w (BytesPost w (bytL l t m) (bytF l.length t m) (bytE l.length t m) (bytA l.length t m)) := by
  have hs := h
  obtain ⟨a, c, rfl, _⟩ := h
  by_cases h0 : m < 0
  · have e1 : bytL l t m = [] := by unfold bytL; rw [if_neg (by omega)]
    have e2 : bytF l.length t m = 0 := by unfold bytF; rw [if_neg (by omega)]
    have e3 : bytE l.length t m = 2 := by unfold bytE; rw [if_pos h0]
    have e4 : bytA l.length t m = 0 := by unfold bytA; rw [if_neg (by omega)]
    rw [e1, e2, e3, e4]
    exact bytes_arg a l.length c t m h0 w
  · exact bytes_rest a l.length c t m _ _ _ _ (by omega) w fun w0 q hw hq => readb_any (hs.below hw hhi) hl (Nat.le_trans hhi hw.size) t m (by omega) h1 q hq

theorem bytes_at (l : List Int) (p k : Nat) (hl : l.length ≤ 1000000) (h : p + k ≤ l.length) :
    ∀ wx {lo hi : Nat} {v : Value}, Sl wx lo hi v l → Calls Tryz.prog 146 #[v, .int .i64 p, .int .i64 k] wx (BytesPost wx (cutL l p k) (p + k) 0 0) := fun wx _ _ _ hs => by
  have e1 : bytL l p k = cutL l p k := by unfold bytL; rw [if_pos (by omega), Int.toNat_natCast, Int.toNat_natCast]
  have e2 : bytF l.length p k = p + k := by unfold bytF; rw [if_pos (by omega)]
  have e3 : bytE l.length p k = 0 := by unfold bytE; rw [if_neg (by omega), if_neg (by omega), if_neg (by omega)]
  have e4 : bytA l.length p k = 0 := by unfold bytA; rw [if_neg (by omega)]
  have := bytes_any hs.top hl (Nat.le_refl _) p k (by omega)
  rw [e1, e2, e3, e4] at this
  exact this

theorem bytes_at_no (l : List Int) (p k : Nat) (hl : l.length ≤ 1000000) (h : p ≤ l.length) (h1 : l.length < p + k) (h2 : k ≤ 1000000 := by omega) :
    ∀ wx {lo hi : Nat} {v : Value}, Sl wx lo hi v l → Calls Tryz.prog 146 #[v, .int .i64 p, .int .i64 k] wx (BytesPost wx [] 0 4 l.length) := fun wx _ _ _ hs => by
  have e1 : bytL l p k = [] := by unfold bytL; rw [if_neg (by omega)]
  have e2 : bytF l.length p k = 0 := by unfold bytF; rw [if_neg (by omega)]
  have e3 : bytE l.length p k = 4 := by unfold bytE; rw [if_neg (by omega), if_neg (by omega), if_pos (by omega)]
  have e4 : bytA l.length p k = l.length := by unfold bytA; rw [if_pos (by omega)]
  have := bytes_any hs.top hl (Nat.le_refl _) p k (by omega)
  rw [e1, e2, e3, e4] at this
  exact this

end Go.Proofs.YteegekpanadmkaaGreat

/-
  A range over a function, over an iterator that yields texts: what the iterator keeps and what it turns, a caller's invariant, a body; panics of the iterator pass through.
-/
namespace Go.Proofs.YteegekpanadmkaaGreat
open Go.RowKit
set_option linter.unusedVariables false
set_option maxRecDepth 100000

/-- But for the blocks G the world is as it was. -/
structure Aside (G : Nat → Prop) (w w' : World) : Prop where
  os : w'.os = w.os
  tape : w'.tape = w.tape
  output : w'.output = w.output
  size : w.heap.size ≤ w'.heap.size
  block : ∀ k, k < w.heap.size → ¬ G k → w'.heap[k]? = w.heap[k]?

section
variable {G G' : Nat → Prop} {w w1 w2 : World} {B : Nat}
theorem Aside.refl (G : Nat → Prop) (w : World) : Aside G w w := ⟨rfl, rfl, rfl, Nat.le_refl _, fun _ _ _ => rfl⟩
theorem Aside.trans (h : Aside G w w1) (k : Aside G w1 w2) : Aside G w w2 :=
  ⟨k.os.trans h.os, k.tape.trans h.tape, k.output.trans h.output, Nat.le_trans h.size k.size, fun i hi hg => (k.block i (Nat.lt_of_lt_of_le hi h.size) hg).trans (h.block i hi hg)⟩
theorem Aside.mono (h : Aside G w w1) (hG : ∀ k, k < w.heap.size → G k → G' k) : Aside G' w w1 := ⟨h.os, h.tape, h.output, h.size, fun k hk hg => h.block k hk (fun e => hg (hG k hk e))⟩
theorem Aside.of_below (h : Below B w w1) (hB : ∀ k, k < w.heap.size → ¬ G k → k < B) : Aside G w w1 := ⟨h.os, h.tape, h.output, h.size, fun k hk hg => h.block k (hB k hk hg)⟩
theorem Aside.of_all (h : Below w.heap.size w w1) : Aside G w w1 := Aside.of_below h fun _ hk _ => hk
theorem Aside.below (h : Aside G w w1) (hB : ∀ k, k < B → k < w.heap.size ∧ ¬ G k) : Below B w w1 := ⟨h.os, h.tape, h.output, h.size, fun k hk => h.block k (hB k hk).1 (hB k hk).2⟩
theorem Aside.cell (h : Aside G w w1) {p : Addr} (hp : p.block < w.heap.size) (hg : ¬ G p.block) : w1.cell? p = w.cell? p := World.cell?_of_block (w := w) (h.block p.block hp hg)
theorem Aside.frozen (h : Aside G w w1) {p : Addr} (hp : p.block < w.heap.size) (hg : ¬ G p.block) : w1.frozen? p = w.frozen? p := World.frozen?_of_block (w := w) (h.block p.block hp hg)
theorem Aside.cell_lt (h : Aside G w w1) {p : Addr} {v : Value} (hv : w.cell? p = some v) (hg : ¬ G p.block) : w1.cell? p = some v := (h.cell (World.block_lt_of_cell? w p hv) hg).trans hv
theorem Aside.alloc (w : World) (o : Obj) : Aside G w (w.alloc o) := ⟨rfl, rfl, rfl, by simp, fun k hk _ => Below.heap_alloc _ _ _ hk⟩
theorem Aside.putObj (w : World) {r : Nat} (o : Obj) (hr : G r) : Aside G w (w.putObj r o) := ⟨rfl, rfl, rfl, by simp, fun k _ hg => World.putObj_heap_other (fun e => hg (e ▸ hr))⟩
theorem Aside.setCell (w : World) {p : Addr} (v : Value) (hr : G p.block) : Aside G w (w.setCell p v) := ⟨rfl, rfl, rfl, by simp [World.setCell], fun k _ hg => Below.heap_setCell _ _ _ _ (fun e => hg (e ▸ hr))⟩
theorem Aside.drewN (w : World) (n : Nat) : Aside G w (w.drewN n) := ⟨rfl, rfl, rfl, Nat.le_refl _, fun _ _ _ => rfl⟩
theorem Aside.grown {row : Option Nat} (hg : w.grownBy w1 row) (hr : ∀ k, row = some k → G k) : Aside G w w1 :=
  ⟨hg.os, hg.tape, hg.output, hg.size, fun k hk hn => hg.block k hk (fun e => hn (hr k e.symm))⟩
theorem Aside.of_drew (h : Aside G w.drew w1) : Aside G w w1 := ⟨h.os, h.tape, h.output, h.size, h.block⟩
theorem below_aside (h : Below B w w1) (k : Aside G w1 w2) (hB : ∀ k, k < B → k < w1.heap.size ∧ ¬ G k) : Below B w w2 := h.trans (k.below hB)
end

/-- How an iterator ends: all have come; a round said 'no more'; it panics behind all of them. -/
def SeqEnd (m : Nat) (fin : Option (List PanicEntry)) (J Jx : Nat → World → Prop) (e : Ending) (B : World) : Prop :=
  (fin = none ∧ (∃ v, e = .returned v) ∧ J m B) ∨ ((∃ v, e = .returned v) ∧ ∃ k, k ≤ m ∧ Jx k B) ∨ (∃ ch, fin = some ch ∧ e = .panicked ch ∧ J m B)

/-- What an iterator over texts does, whatever loop calls it: it yields xs, one behind the other, if it is not stopped; then it returns, or panics with fin. It leans on the blocks K, turns blocks of G alone, and asks St of the world in which it begins. -/
def SeqT (P : Program) (gf : Nat) (lb : Array Value) (K G : Nat → Prop) (xs : List ByteArray) (fin : Option (List PanicEntry)) (St : World → Prop) : Prop :=
  ∀ (l : Nat) (J Jx : Nat → World → Prop) (W : World),
    (∀ k A B, J k A → Aside G A B → J k B) →
    (∀ k A x, xs[k]? = some x → J k A → YieldAt Fence.wide 0 P l #[.string x] A fun e B =>
      (e = .returned (.bool true) ∧ J (k + 1) B ∧ A.heap.size ≤ B.heap.size ∧ ∀ b, K b → B.heap[b]? = A.heap[b]?) ∨ (e = .returned (.bool false) ∧ Jx (k + 1) B)) →
    St W → J 0 W →
    CallsIn Fence.wide 0 P gf (#[.func (.yield l) #[] #[]] ++ lb) W (SeqEnd xs.length fin J Jx)

/-- How a round's body may be left. -/
def roundT (M : Nat → Prop) (k : Nat) (I : Nat → World → Prop) (Ix : Code → Nat → World → Prop) (W : World) : Exit → Act → World → Prop
  | .normal, _, W' => Aside M W W' ∧ I (k + 1) W'
  | .ret, _, W' => Aside M W W' ∧ Ix .ret (k + 1) W'
  | .exit id, _, W' => Aside M W W' ∧ Ix (.exit id) (k + 1) W'
  | .goto t, _, W' => Aside M W W' ∧ Ix (.goto t) (k + 1) W'
  | .panic _, _, _ => False
  | .outgrown, _, _ => False

theorem wp_rangeFunc_T {P : Program} {gf : Nat} {lb : Array Value} {K G M : Nat → Prop} {xs : List ByteArray} {fin : Option (List PanicEntry)} {St : World → Prop}
    {g : Operand} {ps : Array Tmp} {assign body : Code} {Q : Exit → Act → World → Prop} {a : Act} {w : World} {D : Nat} (hD : w.heap.size = D)
    (hg : a.eval g = .func (.func gf) #[] lb) (eg : ∀ args w, (callFunc gf args).run P w = .ok (.enter gf args) w)
    (hseq : SeqT P gf lb K G xs fin St) (hSt : St w) (hStK : ∀ A B, St A → (∀ b, K b → B.heap[b]? = A.heap[b]?) → A.heap.size ≤ B.heap.size → St B)
    (hK : ∀ b, K b → b < D) (hM : ∀ b, M b → ¬ K b ∧ b ≠ D ∧ b ≠ D + 1) (hGK : ∀ b, G b → K b) (hps : ps.size = 1)
    (I : Nat → World → Prop) (Ix : Code → Nat → World → Prop)
    (hI : ∀ k A B, I k A → Aside (fun b => G b ∨ b = D ∨ b = D + 1) A B → I k B)
    (hIx : ∀ c k A B, Ix c k A → Aside (fun b => G b ∨ b = D ∨ b = D + 1) A B → Ix c k B)
    (h0 : I 0 w) (a₁ : ByteArray → Act)
    (hassign : ∀ (l : Nat) (x : ByteArray) (W : World) (K : Act → World → Prop), K (a₁ x) W →
      assign.wpIn (Fence.wide.inRound l) 0 P (Exit.then K (fun _ _ _ => False)) { tmps := (ps.zip #[.string x]).foldl (fun t (p, v) => t.setIfInBounds p v) a.tmps, defers := [] } W)
    (hbody : ∀ (l k : Nat) (x : ByteArray) (W : World), xs[k]? = some x → D + 2 ≤ W.heap.size → I k W → body.wpIn (Fence.wide.inRound l) 0 P (roundT M k I Ix W) (a₁ x) W)
    (hdone : fin = none → ∀ W, I xs.length W → D + 2 ≤ W.heap.size → W.heap[D]? = some (.deferred (some [])) → Q .normal { a with defers := { target := .collected D, args := #[] } :: a.defers } W)
    (hstop : ∀ c k W, k ≤ xs.length → Ix c k W → W.heap[D]? = some (.deferred (some [])) → c.wp P Q { a with defers := { target := .collected D, args := #[] } :: a.defers } W)
    (hpanic : ∀ ch, fin = some ch → ∀ W, I xs.length W → W.heap[D]? = some (.deferred (some [])) → Q (.panic ch) { a with defers := { target := .collected D, args := #[] } :: a.defers } W) :
    (Code.rangeFunc g ps assign body).wp P Q a w := by
  subst hD
  refine (wpIn_wide (n := 0)).1 (wpIn_rangeFunc ?_)
  intro fn hfn
  obtain ⟨rec, hrec⟩ : ∃ rec : LoopState → Option Code → Loop, rec = fun st pe => { state := st, pending := pe, fn, tmps := a.tmps, params := ps, assign, body, defers := w.heap.size } := ⟨_, rfl⟩
  obtain ⟨W1, hW1⟩ : ∃ W1, (w.alloc (.deferred (some []))).alloc (.loop (rec .ready none)) = W1 := ⟨_, rfl⟩
  have hs1 : W1.heap.size = w.heap.size + 2 := by rw [← hW1]; simp
  have hL1 : W1.heap[w.heap.size + 1]? = some (.loop (rec .ready none)) := by
    rw [← hW1]; have := World.alloc_heap_new (w.alloc (.deferred (some []))) (.loop (rec .ready none)); rwa [World.size_alloc] at this
  have hK1 : W1.heap[w.heap.size]? = some (.deferred (some [])) := by
    rw [← hW1]; exact (Below.heap_alloc _ _ _ (by simp)).trans (World.alloc_heap_new w _)
  have hA1 : ∀ G, Aside G w W1 := fun G => by rw [← hW1]; exact (Aside.alloc _ _).trans (Aside.alloc _ _)
  refine ⟨w.heap.size + 1, [{ target := .collected w.heap.size, args := #[] }], W1, { target := .fn (.func gf) lb, args := #[.func (.yield (w.heap.size + 1)) #[] #[]] }, W1, gf,
    #[.func (.yield (w.heap.size + 1)) #[] #[]] ++ lb, W1, ?_, ?_, ?_, ?_, (fun h => by simp [Fence.wide] at h), ?_⟩
  · rw [← hW1, hrec]; exact run_enterLoop_outer _ _ _ _ _
  · simp only [resolve, hg]
    simp [go_sem]
  · intro f' _; trivial
  · simp [invoke, go_sem, eg]
  · have hStep : ∀ (I : World → Prop), (∀ A B, I A → Aside (fun b => G b ∨ b = w.heap.size ∨ b = w.heap.size + 1) A B → I B) → ∀ A (o : Obj), I A → I (A.putObj (w.heap.size + 1) o) :=
      fun I h A o ha => h _ _ ha (Aside.putObj _ _ (.inr (.inr rfl)))
    have hSt1 : St W1 := hStK _ _ hSt (fun b hb => (hA1 (fun _ => False)).block b (hK b hb) (fun h => h)) (hA1 (fun _ => False)).size
    refine (hseq (w.heap.size + 1)
      (fun k W => I k W ∧ w.heap.size + 2 ≤ W.heap.size ∧ W.heap[w.heap.size + 1]? = some (.loop (rec .ready none)) ∧ W.heap[w.heap.size]? = some (.deferred (some [])))
      (fun k W => ∃ c, Ix c k W ∧ W.heap[w.heap.size + 1]? = some (.loop (rec .done (some c))) ∧ W.heap[w.heap.size]? = some (.deferred (some [])))
      W1
      (fun k A B hs hab => by
        obtain ⟨h1, h2, h3, h4⟩ := hs
        have hlo : ∀ b, G b → b < w.heap.size := fun b hb => hK b (hGK b hb)
        exact ⟨hI k A B h1 (hab.mono fun b _ hb => .inl hb), Nat.le_trans h2 hab.size, (hab.block _ (by omega) (fun e => by have := hlo _ e; omega)).trans h3, (hab.block _ (by omega) (fun e => by have := hlo _ e; omega)).trans h4⟩)
      ?_ hSt1 ⟨hI _ _ _ h0 (hA1 _), by omega, hL1, hK1⟩).mono ?_
    · -- one round
      rintro k W x hx ⟨hi, hsz, hl, hk⟩
      have hlt : w.heap.size + 1 < W.heap.size := by omega
      have hy := run_yield (P := P) (args := #[.string x]) hl (by rw [hrec]; simp [hps])
      rw [hrec] at hy
      refine ⟨fn, _, assign, body, hy, roundIn_of_wpIn hfn (hassign _ x W _ ⟨_, run_beginRound hl (by rw [hrec]), ?_⟩)⟩
      obtain ⟨W2, hW2⟩ : ∃ W2, W.putObj (w.heap.size + 1) (.loop { rec .ready none with state := .busy }) = W2 := ⟨_, rfl⟩
      have hs2 : W2.heap.size = W.heap.size := by rw [← hW2]; simp
      have hl2 : W2.heap[w.heap.size + 1]? = some (.loop { rec .ready none with state := .busy }) := by rw [← hW2]; exact World.putObj_heap_same hlt
      have hk2 : W2.heap[w.heap.size]? = some (.deferred (some [])) := by rw [← hW2]; exact (World.putObj_heap_other (by omega)).trans hk
      have hi2 : I k W2 := by rw [← hW2]; exact hStep _ (hI k) _ _ hi
      have hK2 : ∀ b, K b → W2.heap[b]? = W.heap[b]? := fun b hb => by rw [← hW2]; exact World.putObj_heap_other (by have := hK b hb; omega)
      rw [show W.putObj (w.heap.size + 1) (.loop { rec .ready none with state := .busy }) = W2 from hW2]
      refine wpIn_mono (hbody _ k x W2 hx (by omega) hi2) ?_
      have fin : ∀ (jump : Option Code) (W3 : World), Aside M W2 W3 →
          (Instr.endRound (w.heap.size + 1) jump).run P W3 = .ok (.bool jump.isNone) (W3.putObj (w.heap.size + 1) (.loop (rec (if jump.isNone then .ready else .done) jump))) ∧
          W2.heap.size ≤ W3.heap.size ∧
          (W3.putObj (w.heap.size + 1) (.loop (rec (if jump.isNone then .ready else .done) jump))).heap[w.heap.size + 1]? = some (.loop (rec (if jump.isNone then .ready else .done) jump)) ∧
          (W3.putObj (w.heap.size + 1) (.loop (rec (if jump.isNone then .ready else .done) jump))).heap[w.heap.size]? = some (.deferred (some [])) ∧
          ∀ b, K b → (W3.putObj (w.heap.size + 1) (.loop (rec (if jump.isNone then .ready else .done) jump))).heap[b]? = W.heap[b]? := fun jump W3 h3 => by
        have hm : ∀ b, b = w.heap.size + 1 ∨ b = w.heap.size ∨ K b → ¬ M b := fun b hb hm => by
          have := hM b hm
          rcases hb with e | e | e
          · exact this.2.2 e
          · exact this.2.1 e
          · exact this.1 e
        have hl3 := (h3.block _ (by omega) (hm _ (.inl rfl))).trans hl2
        have hk3 := (h3.block _ (by omega) (hm _ (.inr (.inl rfl)))).trans hk2
        have := run_endRound (P := P) jump hl3
        rw [hrec] at this ⊢
        refine ⟨this, h3.size, World.putObj_heap_same (Array.getElem?_eq_some_iff.1 hl3).1, (World.putObj_heap_other (by omega)).trans hk3, fun b hb => ?_⟩
        have hb1 := hK b hb
        exact (World.putObj_heap_other (by omega)).trans ((h3.block b (by omega) (hm _ (.inr (.inr hb)))).trans (hK2 b hb))
      rintro e a3 W3 hp
      cases e with
      | normal =>
        obtain ⟨ha3, hi3⟩ := hp
        obtain ⟨hr, hs3, hl4, hk4, hK4⟩ := fin none W3 ha3
        exact ⟨_, _, hr, .inl ⟨rfl, ⟨hStep _ (hI _) _ _ hi3, by simp; omega, hl4, hk4⟩, by simp; omega, hK4⟩⟩
      | ret =>
        obtain ⟨ha3, hi3⟩ := hp
        obtain ⟨hr, hs3, hl4, hk4, hK4⟩ := fin (some .ret) W3 ha3
        exact ⟨_, _, hr, .inr ⟨rfl, .ret, hStep _ (hIx _ _) _ _ hi3, hl4, hk4⟩⟩
      | exit id =>
        obtain ⟨ha3, hi3⟩ := hp
        obtain ⟨hr, hs3, hl4, hk4, hK4⟩ := fin (some (.exit id)) W3 ha3
        exact ⟨_, _, hr, .inr ⟨rfl, .exit id, hStep _ (hIx _ _) _ _ hi3, hl4, hk4⟩⟩
      | goto t =>
        obtain ⟨ha3, hi3⟩ := hp
        obtain ⟨hr, hs3, hl4, hk4, hK4⟩ := fin (some (.goto t)) W3 ha3
        exact ⟨_, _, hr, .inr ⟨rfl, .goto t, hStep _ (hIx _ _) _ _ hi3, hl4, hk4⟩⟩
      | panic ch => exact hp.elim
      | outgrown => exact hp.elim
    · -- behind the iterator
      rintro e W2 (⟨hf, ⟨v, rfl⟩, hi, hsz, hl, hk⟩ | ⟨⟨v, rfl⟩, k, hk0, c, hi, hl, hk⟩ | ⟨ch, hf, rfl, hi, hsz, hl, hk⟩)
      · refine ⟨none, _, ?_, hdone hf _ (hStep _ (hI _) _ (.loop { rec .ready none with state := .exhausted }) hi) (by simp; omega) ((World.putObj_heap_other (by omega)).trans hk)⟩
        have := run_endLoop (P := P) hl (by rw [hrec]; simp)
        rw [hrec] at this ⊢; exact this
      · refine ⟨some c, _, ?_, (wpIn_wide (n := 0)).2 (hstop c k _ hk0 (hStep _ (hIx c k) _ (.loop { rec .done (some c) with state := .exhausted }) hi) ((World.putObj_heap_other (by omega)).trans hk))⟩
        have := run_endLoop (P := P) hl (by rw [hrec]; simp)
        rw [hrec] at this ⊢; exact this
      · exact hpanic ch hf _ hi hk

/-- A function's contract from its body, where the body holds a range over a function. -/
theorem calls_of_wp_marks {P : Program} {f : FuncId} {fn : Func} {c : Code} {args : Array Value} {w : World} {R : Ending → World → Prop}
    (hf : P.funcs[f]? = some fn) (hb : fn.body = some c)
    (h : c.wp P (bodyPostM Fence.wide 0 P fn R) { tmps := args ++ Array.replicate (fn.ntmps - args.size) undef, defers := [] } w) : Calls P f args w R :=
  (callsIn_wide (n := 0)).1 (callsIn_of_wp_marks hf hb trivial ((wpIn_wide (n := 0)).2 h))
/-- Steps that turn blocks of G or such that were not there. -/
theorem Aside.onto {G M : Nat → Prop} {w W W' : World} (h : Aside G w W) (k : Aside M W W') (hM : ∀ b, b < w.heap.size → ¬ G b → ¬ M b) : Aside G w W' :=
  ⟨k.os.trans h.os, k.tape.trans h.tape, k.output.trans h.output, Nat.le_trans h.size k.size, fun b hb hg => (k.block b (Nat.lt_of_lt_of_le hb h.size) (hM b hb hg)).trans (h.block b hb hg)⟩

/-- Behind the loop: its block of deferred calls is shut; what is told is read off. -/
theorem marks_ret {P : Program} {fn : Func} {R : Ending → World → Prop} {tmps : Array Value} {W : World} {D : Nat} {args : Array Value} (hK : W.heap[D]? = some (.deferred (some []))) (v : Value)
    (hv : (results fn tmps).run P (W.putObj D (.deferred none)) = .ok v (W.putObj D (.deferred none))) (h : R (.returned v) (W.putObj D (.deferred none))) :
    bodyPostM Fence.wide 0 P fn R .ret { tmps := tmps, defers := [{ target := .collected D, args := args }] } W := by
  refine ⟨by simp, .inl ⟨_, _, rfl, run_takeDeferred hK, ?_⟩⟩
  exact ⟨v, hv, h⟩

theorem below_putObj {w W : World} {D B : Nat} {o : Obj} (h : Below B w W) (hD : B ≤ D) : Below B w (W.putObj D o) :=
  h.trans ⟨rfl, rfl, rfl, by simp, fun k hk => World.putObj_heap_other (by omega)⟩
end Go.Proofs.YteegekpanadmkaaGreat

/-
  Texts as lists of bytes; the labels with which bytes begin; slices of texts as lists.
-/
namespace Go.Proofs.YteegekpanadmkaaGreat
open Go.RowKit
set_option linter.unusedVariables false
set_option maxRecDepth 100000

/-- The text of these bytes. -/
def bs (l : List UInt8) : ByteArray := ⟨l.toArray⟩
@[simp] theorem bs_size (l : List UInt8) : (bs l).size = l.length := by simp [bs, ByteArray.size]
theorem bs_eta (s : ByteArray) : s = bs s.data.toList := by simp [bs]
theorem bs_toList (l : List UInt8) : (bs l).toList = l := ByteArray.toList_mk _
theorem bs_extract (l : List UInt8) (i j : Nat) : (bs l).extract i j = bs ((l.take j).drop i) := by
  have h := bs_eta ((bs l).extract i j)
  rw [h]
  congr 1
  rw [ByteArray.data_extract]
  simp [bs, List.drop_take]

/-- The labels with which bytes begin, each behind its length. -/
def labs : List UInt8 → List (List UInt8)
  | [] => []
  | c :: r => if c.toNat = 0 ∨ 63 < c.toNat ∨ r.length < c.toNat then [] else r.take c.toNat :: labs (r.drop c.toNat)
termination_by l => l.length
decreasing_by simp; omega

/-- What is left behind them. -/
def left : List UInt8 → List UInt8
  | [] => []
  | c :: r => if c.toNat = 0 ∨ 63 < c.toNat ∨ r.length < c.toNat then c :: r else left (r.drop c.toNat)
termination_by l => l.length
decreasing_by simp; omega

theorem labs_no (n : List UInt8) (p : Nat) (hp : p < n.length) (h : n[p].toNat = 0 ∨ 63 < n[p].toNat ∨ n.length < p + 1 + n[p].toNat) : labs (n.drop p) = [] ∧ left (n.drop p) = n.drop p := by
  have e : n.drop p = n[p] :: n.drop (p + 1) := List.drop_eq_getElem_cons hp
  have h' : n[p].toNat = 0 ∨ 63 < n[p].toNat ∨ (n.drop (p + 1)).length < n[p].toNat := by rw [List.length_drop]; omega
  rw [e, labs, left, if_pos h', if_pos h']
  exact ⟨rfl, rfl⟩

theorem labs_yes (n : List UInt8) (p : Nat) (hp : p < n.length) (h : ¬ (n[p].toNat = 0 ∨ 63 < n[p].toNat ∨ n.length < p + 1 + n[p].toNat)) :
    labs (n.drop p) = (n.drop (p + 1)).take n[p].toNat :: labs (n.drop (p + 1 + n[p].toNat)) ∧ left (n.drop p) = left (n.drop (p + 1 + n[p].toNat)) := by
  have e : n.drop p = n[p] :: n.drop (p + 1) := List.drop_eq_getElem_cons hp
  have h' : ¬ (n[p].toNat = 0 ∨ 63 < n[p].toNat ∨ (n.drop (p + 1)).length < n[p].toNat) := by rw [List.length_drop]; omega
  rw [e, labs, left, if_neg h', if_neg h', List.drop_drop]
  exact ⟨rfl, rfl⟩

theorem labs_end (n : List UInt8) (p : Nat) (hp : n.length ≤ p) : labs (n.drop p) = [] ∧ left (n.drop p) = [] := by
  rw [List.drop_eq_nil_of_le hp, labs, left]
  exact ⟨rfl, rfl⟩

theorem along_end {α : Type} {L : List α} {k : Nat} (h : L.drop k = []) (hk : k ≤ L.length) : k = L.length := by
  have := congrArg List.length h
  rw [List.length_drop] at this
  simp at this
  omega

theorem along_step {α : Type} {L r : List α} {k : Nat} {x : α} (h : L.drop k = x :: r) : L[k]? = some x ∧ L.drop (k + 1) = r ∧ k + 1 ≤ L.length := by
  have hl : k < L.length := by
    have := congrArg List.length h
    rw [List.length_drop] at this
    simp at this
    omega
  have e := List.drop_eq_getElem_cons hl
  rw [h] at e
  injection e with e1 e2
  exact ⟨by rw [List.getElem?_eq_getElem hl, e1], e2.symm, hl⟩

/-! ### operations on texts, as they run -/
theorem ix_run (n : List UInt8) (p : Nat) (hp : p < n.length) (w : World) : (Instr.index 9 (.string (bs n)) (.int .i64 p)).run Tryz.prog w = .ok (.int .u8 (n[p].toNat : Int)) w := by
  rw [run_index_string w 9 _ _ _ Tryz.underlying9, dif_pos (by rw [bs_size]; omega)]
  congr 3

theorem cut_run (n : List UInt8) (i j : Nat) (h : i ≤ j) (hj : j ≤ n.length) (w : World) : (Instr.slice 9 (.string (bs n)) (some (.int .i64 i)) (some (.int .i64 j)) none).run Tryz.prog w = .ok (.string (bs ((n.drop i).take (j - i)))) w := by
  rw [run_slice_string w 9 _ _ _ _ _ Tryz.underlying9 (by omega) (by omega) (by simp; omega), bs_extract, List.drop_take]
  simp

theorem from_run (n : List UInt8) (i : Nat) (h : i ≤ n.length) (w : World) : (Instr.slice 9 (.string (bs n)) (some (.int .i64 i)) none none).run Tryz.prog w = .ok (.string (bs (n.drop i))) w := by
  rw [run_slice_string_from_if w 9 _ _ _ Tryz.underlying9, if_pos (by simp; omega), bs_extract]
  simp

theorem labels_any (s : ByteArray) (w : World) : Calls Tryz.prog 125 #[.string s] w fun e w' =>
    e = .returned (.func (.func 133) #[] #[.pointer (some ⟨w.heap.size, 0, none⟩)]) ∧ w' = w.alloc (.cells #[.string s] 9) := by
  go_enter Tryz.func125, Tryz.ntmps125
  go_wp2
  go_ret
  exact ⟨rfl, rfl⟩
end Go.Proofs.YteegekpanadmkaaGreat

/-
  The iterator that goes along the labels of bytes.
-/
namespace Go.Proofs.YteegekpanadmkaaGreat
open Go.RowKit Go.Shelf
set_option linter.unusedVariables false
set_option maxRecDepth 100000

set_option maxHeartbeats 1000000 in
theorem labels1_seq (n : List UInt8) (Bn : Nat) (hn : n.length ≤ 4000000000000000000) : SeqT Tryz.prog 133 #[.pointer (some ⟨Bn, 0, none⟩)] (fun b => b = Bn) (fun _ => False) ((labs n).map bs) none (fun w => w.cell? ⟨Bn, 0, none⟩ = some (.string (bs n))) := by
  intro l J Jx W hJ hY hSt h0
  rw [List.length_map]
  show CallsIn _ _ _ _ #[.func (.yield l) #[] #[], .pointer (some ⟨Bn, 0, none⟩)] _ _
  have hc := hSt
  have HY := Lib.hid hY
  clear hY hSt hJ
  refine callsIn_of_wp Tryz.func133 rfl trivial ?_
  simp only [Tryz.ntmps133, List.size_toArray, List.length_cons, List.length_nil, Nat.reduceAdd, Nat.reduceSub, Array.replicate_succ,
     Array.replicate_zero, List.push_toArray, List.append_toArray, List.nil_append, List.cons_append]
  gi_wp2
  gi_loopw [3] (fun i wr => ∃ p k : Nat, i = .int .i64 p ∧ p ≤ n.length ∧ Hid ((labs n).drop k = labs (n.drop p) ∧ k ≤ (labs n).length) ∧ Hid (wr.cell? ⟨Bn, 0, none⟩ = some (.string (bs n))) ∧ Hid (J k wr)) (fun i _ => n.length - (intOf i).toNat)
  case atStart => exact ⟨0, 0, rfl, by omega, ⟨by simp, by omega⟩, hc, h0⟩
  case round =>
    obtain ⟨p, k, rfl, hp, HL, HC, HJ⟩ := hrel
    have hdone : labs (n.drop p) = [] → J (labs n).length wr := fun h => by
      have := along_end (HL.out.1.trans h) HL.out.2
      rw [← this]; exact HJ.out
    by_cases hlt : p < n.length
    · have hc := HC.out
      have hix := ix_run n p hlt
      have hc8 : n[p].toNat < 256 := n[p].toNat_lt
      have hstep := labs_yes n p hlt
      have hno := labs_no n p hlt
      have hcut := cut_run n (p + 1) (p + 1 + n[p].toNat) (by omega)
      obtain ⟨c, hcn⟩ : ∃ c, n[p].toNat = c := ⟨_, rfl⟩
      rw [hcn] at hix hc8 hstep hno hcut
      clear hcn
      by_cases h : c = 0 ∨ 63 < c ∨ n.length < p + 1 + c
      · have HD := Lib.hid (hdone (hno h).1)
        clear hno hstep hcut hdone
        gi_wp2
        all_goals
          refine ⟨fun _ h => (by cases h), ?_⟩
          gi_wp2
          refine bodyPost_ret (results_none rfl _ _ _) rfl ?_
          exact .inl ⟨rfl, ⟨_, rfl⟩, HD.out⟩
      · have hcut := hcut (by omega)
        obtain ⟨h1, h2, h3⟩ := along_step (HL.out.1.trans (hstep h).1)
        clear hno hstep hdone
        rw [show p + 1 + c - (p + 1) = c by omega] at hcut
        push_cast at hcut
        obtain ⟨x, hx⟩ : ∃ x, (n.drop (p + 1)).take c = x := ⟨_, rfl⟩
        rw [hx] at hcut h1
        clear hx
        obtain ⟨fn, tmps, assign, body, hy, hR⟩ := HY.out k wr _ (by rw [List.getElem?_map, h1]; rfl) HJ.out
        have t1 : ((c : Int) == 0) = false := by simp; omega
        have t2 : decide ((63 : Int) < c) = false := by simp; omega
        have t3 : decide ((n.length : Int) < p + 1 + c) = false := by simp; omega
        have H2 := Lib.hid h2
        clear h1 h2
        gi_wp2
        refine ⟨rfl, hR.mono ?_⟩
        rintro e W' (⟨rfl, hJ', hs, hk⟩ | ⟨rfl, hJx⟩)
        · have HC' : Hid (W'.cell? ⟨Bn, 0, none⟩ = some (.string (bs n))) := (World.cell?_of_block (hk Bn rfl)).trans HC.out
          have HJ' := Lib.hid hJ'
          clear hk hJ'
          gi_wp2
          refine ⟨⟨p + 1 + c, k + 1, by go_num, by omega, ⟨H2.out, h3⟩, HC', HJ'⟩, ?_⟩
          simp [intOf]; omega
        · have HJx := Lib.hid hJx
          clear hJx
          gi_wp2
          refine bodyPost_ret (results_none rfl _ _ _) rfl ?_
          exact .inr (.inl ⟨⟨_, rfl⟩, k + 1, h3, HJx.out⟩)
    · have HD := Lib.hid (hdone (labs_end n p (by omega)).1)
      clear hdone
      have hc := HC.out
      gi_wp2
      go_end0
      exact .inl ⟨rfl, ⟨_, rfl⟩, HD.out⟩
end Go.Proofs.YteegekpanadmkaaGreat
