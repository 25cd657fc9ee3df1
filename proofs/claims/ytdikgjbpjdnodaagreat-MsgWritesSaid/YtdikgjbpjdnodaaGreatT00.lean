/-
  Slices of bytes as lists, rows of the call's own, worlds that differ in one block; how they are kept.
-/
import Derived.Test.YtdikgjbpjdnodaaGreatRows
import Derived.WalkKit
import Derived.WalkSpells
import Derived.WalkLawsBesides
import Derived.OwnWalk
import Derived.IntWalk
import Derived.Lib.Hide
import Derived.LoopTactic
import Derived.Laws.BytesArg
import Derived.Laws.AppendOwnNone
import Derived.Laws.CopyOwn
import Derived.Laws.BitsLemmas
import Derived.Laws.Panics
import Derived.Deep.AppendLies
import Derived.BigQuiet
import Derived.Deep.QuietTactic
import Derived.Deep.RegionHeld
import Derived.Defers
import Derived.Recover
namespace Go.Proofs.YtdikgjbpjdnodaaGreat
open Go.RowKit
set_option linter.unusedVariables false
set_option maxRecDepth 100000

/-- The slice value v reads as the bytes l; what it leads to lies in blocks from lo on, below hi. -/
def Sl (w : World) (lo hi : Nat) (v : Value) (l : List Int) : Prop :=
  ∃ a c, v = .slice a l.length c ∧ l.length ≤ c ∧ (a = none → c = 0) ∧ (0 < l.length → ∃ b off, a = some ⟨b, off, none⟩ ∧ lo ≤ b ∧ b < hi ∧ ∀ j, j < l.length → w.cell? ⟨b, off + j, none⟩ = some (.int .u8 (l.getD j 0)))

/-- Block g alone may have turned. -/
def Only (g : Nat) (w w' : World) : Prop := w'.os = w.os ∧ w'.tape = w.tape ∧ w'.output = w.output ∧ w'.heap.size = w.heap.size ∧ ∀ k, k ≠ g → w'.heap[k]? = w.heap[k]?

theorem Only.refl (g : Nat) (w : World) : Only g w w := ⟨rfl, rfl, rfl, rfl, fun _ _ => rfl⟩

theorem Only.below {g B : Nat} {w w' : World} (h : Only g w w') (hB : B ≤ g) : Below B w w' :=
  ⟨h.1, h.2.1, h.2.2.1, by rw [h.2.2.2.1]; exact Nat.le_refl _, fun k hk => h.2.2.2.2 k (by omega)⟩

theorem below_drewN {B : Nat} {a w : World} (h : Below B a w) (n : Nat) : Below B a (w.drewN n) := h.trans ⟨rfl, rfl, rfl, Nat.le_refl _, fun _ _ => rfl⟩

section
variable {w w' : World} {lo hi lo' hi' B g : Nat} {v : Value} {l : List Int}
theorem Sl.keep (h : Sl w lo hi v l) (hk : ∀ b o, lo ≤ b → b < hi → w'.cell? ⟨b, o, none⟩ = w.cell? ⟨b, o, none⟩) : Sl w' lo hi v l := by
  obtain ⟨a, c, rfl, hc, hn, hp⟩ := h
  refine ⟨a, c, rfl, hc, hn, fun h0 => ?_⟩
  obtain ⟨b, off, rfl, h1, h2, h3⟩ := hp h0
  exact ⟨b, off, rfl, h1, h2, fun j hj => (hk b _ h1 h2).trans (h3 j hj)⟩
theorem Sl.below (h : Sl w lo hi v l) (hb : Below B w w') (hB : hi ≤ B) : Sl w' lo hi v l :=
  h.keep fun b o _ h2 => hb.cell (p := ⟨b, o, none⟩) (Nat.lt_of_lt_of_le h2 hB)
theorem Sl.only (h : Sl w lo hi v l) (ho : Only g w w') (hg : g < lo ∨ hi ≤ g) : Sl w' lo hi v l :=
  h.keep fun b o h1 h2 => World.cell?_of_block (a := ⟨b, o, none⟩) (ho.2.2.2.2 b (by omega))
theorem Sl.wide (h : Sl w lo hi v l) (h1 : lo' ≤ lo) (h2 : hi ≤ hi') : Sl w lo' hi' v l := by
  obtain ⟨a, c, rfl, hc, hn, hp⟩ := h
  refine ⟨a, c, rfl, hc, hn, fun h0 => ?_⟩
  obtain ⟨b, off, rfl, h3, h4, h5⟩ := hp h0
  exact ⟨b, off, rfl, by omega, by omega, h5⟩
end

/-- A value of a row of the call's own: nil, or block g, which is just these bytes. -/
def Own (w : World) (g : Nat) (v : Value) (l : List Int) : Prop :=
  (v = .slice none 0 0 ∧ l = []) ∨ (v = .slice (some ⟨g, 0, none⟩) l.length l.length ∧ w.heap[g]? = some (.cells (l.map (Value.int .u8)).toArray 5 (0, 0)))

theorem Own.sl {w : World} {g : Nat} {v : Value} {l : List Int} (h : Own w g v l) : Sl w g (g + 1) v l := by
  rcases h with ⟨rfl, rfl⟩ | ⟨rfl, hg⟩
  · exact ⟨none, 0, rfl, by simp, fun _ => rfl, fun h => by simp at h⟩
  · refine ⟨_, _, rfl, Nat.le_refl _, fun h => by simp at h, fun _ => ⟨g, 0, rfl, Nat.le_refl _, by omega, fun j hj => ?_⟩⟩
    rw [Nat.zero_add, World.cell?, hg]
    simp [hj]

theorem Own.below {w w' : World} {g B : Nat} {v : Value} {l : List Int} (h : Own w g v l) (hb : Below B w w') (hg : g < B) : Own w' g v l := by
  rcases h with h | ⟨rfl, h⟩
  · exact .inl h
  · exact .inr ⟨rfl, (hb.block g hg).trans h⟩

theorem Own.only {w w' : World} {g k : Nat} {v : Value} {l : List Int} (h : Own w g v l) (ho : Only k w w') (hg : g ≠ k) : Own w' g v l := by
  rcases h with h | ⟨rfl, h⟩
  · exact .inl h
  · exact .inr ⟨rfl, (ho.2.2.2.2 g hg).trans h⟩

theorem Tryz.info5 : (Tryz.prog.info? 5).map (fun i => (i.zero, i.size, i.bytes)) = some (some (.int .u8 0), 1, 1) := by kernel_rfl

theorem Tryz.size5 : (Tryz.prog.info? 5).map (·.size) = some 1 := by kernel_rfl

theorem madeN (n : Nat) : madeCells #[.int .u8 0] n = (List.replicate n (Value.int .u8 0)).toArray := by
  rw [← toList_madeCells_one]

theorem makeN (n : Nat) (hn : n ≤ 1000000) (w : World) : (Instr.makeSlice 28 (.int .i64 n) (.int .i64 n)).run Tryz.prog w = .ok (.slice (some ⟨w.heap.size, 0, none⟩) n n) (w.alloc (.cells (List.replicate n (Value.int .u8 0)).toArray 5)) := by
  obtain ⟨i0, hi, hz0, hz1, hz2⟩ := info_parts Tryz.info5
  have := run_make (P := Tryz.prog) w 28 5 i0 (.int .u8 0) Tryz.underlying28 hi hz0 .i64 .i64 n n (by omega) (by omega) (by rw [hz2]; omega) (by omega)
  rw [this, hz1, Int.toNat_natCast, Nat.mul_one]
  congr 3
  exact madeN n

theorem make2 (w : World) : (Instr.makeSlice 28 (.int .i64 2) (.int .i64 2)).run Tryz.prog w = .ok (.slice (some ⟨w.heap.size, 0, none⟩) 2 2) (w.alloc (.cells #[.int .u8 0, .int .u8 0] 5)) := makeN 2 (by omega) w

theorem make4 (w : World) : (Instr.makeSlice 28 (.int .i64 4) (.int .i64 4)).run Tryz.prog w = .ok (.slice (some ⟨w.heap.size, 0, none⟩) 4 4) (w.alloc (.cells #[.int .u8 0, .int .u8 0, .int .u8 0, .int .u8 0] 5)) := makeN 4 (by omega) w

/-- Block g is c bytes, whatever they are. -/
def BytesAt (w : World) (g c : Nat) : Prop := ∃ l : List Int, l.length = c ∧ w.heap[g]? = some (.cells (l.map (Value.int .u8)).toArray 5 (0, 0))

theorem BytesAt.cell {w : World} {g c k : Nat} (h : BytesAt w g c) (hk : k < c) : ∃ x : Int, w.cell? ⟨g, k, none⟩ = some (.int .u8 x) := by
  obtain ⟨l, hl, hg⟩ := h
  refine ⟨l.getD k 0, ?_⟩
  rw [World.cell?, hg]
  simp [hl, hk]

theorem BytesAt.frozen {w : World} {g c k : Nat} (h : BytesAt w g c) : w.frozen? ⟨g, k, none⟩ = false := by
  obtain ⟨l, hl, hg⟩ := h
  simp [World.frozen?, hg]

theorem BytesAt.set {w : World} {g c k : Nat} (h : BytesAt w g c) (x : Int) : BytesAt (w.setCell ⟨g, k, none⟩ (.int .u8 x)) g c := by
  obtain ⟨l, hl, hg⟩ := h
  refine ⟨l.set k x, by simpa using hl, ?_⟩
  simp [World.setCell, Array.getElem?_modify, hg, List.map_set]

theorem Only.set {w0 w : World} {g k : Nat} (h : Only g w0 w) (u : Value) : Only g w0 (w.setCell ⟨g, k, none⟩ u) := by
  obtain ⟨h1, h2, h3, h4, h5⟩ := h
  refine ⟨h1, h2, h3, by simp [World.setCell, h4], fun j hj => (Below.heap_setCell w ⟨g, k, none⟩ u j hj).trans (h5 j hj)⟩

theorem Own.bytes {w : World} {g : Nat} {l : List Int} (h : w.heap[g]? = some (.cells (l.map (Value.int .u8)).toArray 5 (0, 0))) : BytesAt w g l.length := ⟨l, rfl, h⟩

/-- Of block g, c bytes, the first k are those of L. -/
def Part (w : World) (g c : Nat) (L : List Int) (k : Nat) : Prop := BytesAt w g c ∧ ∀ t, t < k → w.cell? ⟨g, t, none⟩ = some (.int .u8 (L.getD t 0))

theorem Part.step {w : World} {g c k : Nat} {L : List Int} (h : Part w g c L k) (hk : k < c) (x : Int) (hx : x = L.getD k 0) : Part (w.setCell ⟨g, k, none⟩ (.int .u8 x)) g c L (k + 1) := by
  refine ⟨h.1.set _, fun t ht => ?_⟩
  by_cases e : t = k
  · subst e
    obtain ⟨y, hy⟩ := h.1.cell hk
    rw [World.cell?_setCell_same _ _ _ hy, hx]
  · rw [World.cell?_setCell_other _ _ _ _ (by first | (simp; done) | (simp; omega))]
    exact h.2 t (by omega)

theorem Part.start {w : World} {g m : Nat} {L l : List Int} (hL : L.take l.length = l) (hm : l.length ≤ m)
    (h : w.heap[g]? = some (.cells (splice (List.replicate m (Value.int .u8 0)) 0 (l.map (Value.int .u8))).toArray 5 (0, 0))) : Part w g m L l.length := by
  have e : splice (List.replicate m (Value.int .u8 0)) 0 (l.map (Value.int .u8)) = (l ++ List.replicate (m - l.length) 0).map (Value.int .u8) := by
    simp [splice]
  rw [e] at h
  refine ⟨⟨_, by simp; omega, h⟩, fun t ht => ?_⟩
  rw [World.cell?, h]
  have h1 : L.getD t 0 = l[t] := by
    have := congrArg (fun x : List Int => x[t]?) hL
    simp only [List.getElem?_take, if_pos ht, List.getElem?_eq_getElem ht] at this
    simp [List.getD, this]
  rw [h1]
  simp [ht, List.getElem?_append]

theorem Sl.news {w : World} {lo hi n c : Nat} {a : Option Addr} {l : List Int} (hp : 0 < l.length → ∃ b off, a = some ⟨b, off, none⟩ ∧ lo ≤ b ∧ b < hi ∧ ∀ j, j < l.length → w.cell? ⟨b, off + j, none⟩ = some (.int .u8 (l.getD j 0)))
    {w' : World} (hb : Below w.heap.size w w') (h0 : 0 < (l.map (Value.int .u8)).length) : ∃ ad, a = some ad ∧ ∀ j u, (l.map (Value.int .u8))[j]? = some u → w'.cell? (ad.add j) = some u := by
  obtain ⟨b, off, rfl, _, _, hx⟩ := hp (by simpa using h0)
  refine ⟨_, rfl, fun j u hu => ?_⟩
  rw [List.getElem?_map] at hu
  obtain ⟨n, hn, rfl⟩ := Option.map_eq_some_iff.mp hu
  have hj : j < l.length := (List.getElem?_eq_some_iff.mp hn).1
  rw [WideShapes.add_plain, cell_later hb (hx j hj), List.getD, hn]; rfl

/-- v is a row of the call's own, in blocks from B on, of which the first bytes are l. -/
def OwnR (w : World) (B : Nat) (v : Value) (l : List Int) : Prop := w.ownsRow B 5 1 v l.length (l.map (Value.int .u8))

theorem OwnR.sl {w : World} {B : Nat} {v : Value} {l : List Int} (h : OwnR w B v l) : Sl w B w.heap.size v l := by
  have hlt := World.ownsRow.lt h
  rcases h.2 with ⟨rfl, h0⟩ | ⟨g, cap, cur, rfl, hB, hg, hc, _⟩
  · have : l = [] := List.eq_nil_of_length_eq_zero h0
    subst this
    exact ⟨none, 0, rfl, by simp, fun _ => rfl, fun h => by simp at h⟩
  · refine ⟨_, cap, rfl, hc, fun h => by simp at h, fun _ => ⟨g, 0, rfl, hB, (hlt g rfl).2, fun j hj => ?_⟩⟩
    have := World.ownsRow.cells h (g := g) rfl j (.int .u8 (l.getD j 0)) (by rw [List.getElem?_map, List.getElem?_eq_getElem hj, List.getD, List.getElem?_eq_getElem hj]; rfl)
    rw [WideShapes.add_plain] at this
    exact this

theorem OwnR.mono {w : World} {B B' : Nat} {v : Value} {l : List Int} (h : OwnR w B v l) (hB : B' ≤ B) : OwnR w B' v l := by
  refine ⟨h.1, ?_⟩
  rcases h.2 with h2 | ⟨g, cap, cur, hv, hg, r⟩
  · exact .inl h2
  · exact .inr ⟨g, cap, cur, hv, Nat.le_trans hB hg, r⟩

/-- append onto a row of the call's own, whatever is appended. -/
theorem wpList_app {w : World} {ops : Array Oper} {rest : List Oper} {o : Oper} {a : Act} {Q : Exit → Act → World → Prop} (hgd : o.guard = none) (s x : Operand)
    (ho : o.op = .call { callee := .builtin .append, args := #[s, x], argTypes := #[28, 28] })
    (B lo hi : Nat) (v xv : Value) (l l' : List Int) (hs : a.eval s = v) (hx : a.eval x = xv) (hown : OwnR w B v l) (hsl : Sl w lo hi xv l') (hb : l.length + l'.length ≤ 1000000) (hB : B ≤ w.heap.size)
    (h : ∀ v' w', Hid (OwnR w' B v' (l ++ l')) → Hid (Below B w w') → wpList Tryz.prog ops Q rest (a.put o.dst v') w') : wpList Tryz.prog ops Q (o :: rest) a w := by
  obtain ⟨i0, hi, hz0, hz1, hz2⟩ := info_parts Tryz.info5
  have hown' : w.ownsRow B 5 1 v l.length (l.map (Value.int .u8)) := hown
  obtain ⟨ad, c, rfl, hc, hn, hp⟩ := hsl
  have hrow : ∀ k, v.ownBlock = some k → B ≤ k := fun k hk => (World.ownsRow.lt hown k hk).1
  rcases ad with _ | ad
  · have hc0 := hn rfl
    subst hc0
    have h0 : l' = [] := List.eq_nil_of_length_eq_zero (by omega)
    subst h0
    exact wpList_append_own_none hgd s x 28 ho B 5 i0 1 Tryz.underlying28 hi v l.length (l.map (Value.int .u8)) hs hown' hx (h v w (by rw [List.append_nil]; exact hown) (Below.refl _ _))
  · refine wpList_append_own w hgd s x 28 ho B 5 i0 (.int .u8 0) 1 1 Tryz.underlying28 hi hz0 hz1 hz2 rfl (by decide) v l.length (l.map (Value.int .u8)) hs hown' ad l'.length c (l'.map (Value.int .u8)) hx (by simp) ?_ (ints_oneCell _ _) (by unfold maxLen; omega) (by omega) hB ?_
    · intro j u hu
      rw [List.getElem?_map] at hu
      obtain ⟨n, hq, rfl⟩ := Option.map_eq_some_iff.mp hu
      have hj : j < l'.length := (List.getElem?_eq_some_iff.mp hq).1
      obtain ⟨b, off, he, _, _, hcell⟩ := hp (by omega)
      injection he with he
      subst he
      rw [WideShapes.add_plain, hcell j hj, List.getD, hq]; rfl
    · intro v' w' h1 h2 _
      refine h v' w' ?_ ((Below.refl _ _).grown h2 hB hrow)
      show w'.ownsRow B 5 1 v' (l ++ l').length ((l ++ l').map (Value.int .u8))
      rw [List.length_append, List.map_append]
      exact h1

theorem two_alloc (w : World) (o o' : Obj) : ((w.alloc o).alloc o').heap[w.heap.size + 1]? = some o' := by
  have := heap_alloc_new (w.alloc o) o'
  simpa using this

theorem sl_one (w : World) (x : Int) : Sl (w.alloc (.cells #[.int .u8 x] 5)) w.heap.size (w.heap.size + 1) (.slice (some ⟨w.heap.size, 0, none⟩) 1 1) [x] := by
  refine ⟨_, 1, rfl, by simp, fun h => by simp at h, fun _ => ⟨_, _, rfl, Nat.le_refl _, by omega, fun j hj => ?_⟩⟩
  obtain rfl : j = 0 := by simpa using hj
  simp [go_sem]

theorem size5 (w : World) : (sizeOf (Tryz.prog.elem 28)).run Tryz.prog w = .ok 1 w := by kernel_rfl

/-- So many bytes from a place on. -/
def cutL (l : List Int) (p m : Nat) : List Int := (l.drop p).take m

theorem cutL_len (l : List Int) (p m : Nat) (h : p + m ≤ l.length) : (cutL l p m).length = m := by unfold cutL; rw [List.length_take, List.length_drop]; omega

theorem cutL_none (l : List Int) (p : Nat) : cutL l p 0 = [] := by simp [cutL]

theorem splice_all (m : Nat) (cs : List Value) (z : Value) (h : cs.length = m) : splice (List.replicate m z) 0 cs = cs := by
  unfold splice
  simp [h]

theorem out_wrap (p len : Nat) (n : Int) (hp : p ≤ len) (hl : len ≤ 1000000) (h0 : 0 < n) (h1 : n ≤ 9223372036854775807) (h : (len : Int) < p + n) :
    wrap64 (wrap64 ((p : Int) + n) - 1) < 0 ∨ (len : Int) ≤ wrap64 (wrap64 ((p : Int) + n) - 1) := by
  unfold wrap64
  omega

theorem Sl.news_cut {w : World} {lo hi c : Nat} {a : Option Addr} {l : List Int} (h : Sl w lo hi (.slice a l.length c) l) {w' : World} (hb : Below w.heap.size w w') (p m : Nat) (hm : 0 < m) (hp : p + m ≤ l.length) :
    ∃ b off, a = some ⟨b, off, none⟩ ∧ ∀ j u, ((cutL l p m).map (Value.int .u8))[j]? = some u → w'.cell? ⟨b, off + p + j, none⟩ = some u := by
  obtain ⟨a', c', he, hc, hn, hq⟩ := h
  injection he with e1 e2 e3
  subst e1; subst e3
  obtain ⟨b, off, rfl, _, _, hx⟩ := hq (by omega)
  refine ⟨b, off, rfl, fun j u hu => ?_⟩
  rw [List.getElem?_map] at hu
  obtain ⟨n, hn, rfl⟩ := Option.map_eq_some_iff.mp hu
  have hj : j < m := by
    have := (List.getElem?_eq_some_iff.mp hn).1
    rw [cutL_len l p m hp] at this
    exact this
  have e : l[p + j]? = some n := by
    unfold cutL at hn
    rw [List.getElem?_take, if_pos hj, List.getElem?_drop] at hn
    exact hn
  have := hx (p + j) (by omega)
  rw [List.getD, e] at this
  rw [show off + p + j = off + (p + j) by omega, cell_later hb this]; rfl

/-- A cut of a slice. -/
theorem slice_cut {w : World} {lo hi c p m : Nat} {a : Option Addr} {l : List Int} (h : Sl w lo hi (.slice a l.length c) l) (hp : p + m ≤ l.length) :
    ∃ sv, (∀ wx, (Instr.slice 28 (.slice a l.length c) (some (.int .i64 p)) (some (.int .i64 (p + m))) none).run Tryz.prog wx = .ok sv wx) ∧ Sl w lo hi sv (cutL l p m) := by
  obtain ⟨a', c', he, hc, hn, hq⟩ := h
  injection he with e1 e2 e3
  subst e1; subst e3
  refine ⟨sliced a p (p + m) c 1, fun wx => ?_, ?_⟩
  · rw [run_slice_lh (P := Tryz.prog) wx 28 a l.length c Tryz.underlying28 .i64 .i64 p (p + m) (by omega) (by omega) (by omega), size5]
    simp only [Result.andThen, Int.toNat_natCast, show ((p : Int) + (m : Int)).toNat = p + m by omega]
  · refine ⟨if c = p then a else a.map (·.add (p * 1)), c - p, ?_, ?_, ?_, ?_⟩
    · unfold sliced; rw [cutL_len l p m hp, Nat.add_sub_cancel_left]
    · rw [cutL_len l p m hp]; omega
    · intro hnone
      have : a = none := by
        split at hnone
        · exact hnone
        · simpa using hnone
      have := hn this
      omega
    · intro h0
      rw [cutL_len l p m hp] at h0
      obtain ⟨b, off, rfl, h1, h2, hx⟩ := hq (by omega)
      rw [if_neg (by omega)]
      refine ⟨b, off + p, ?_, h1, h2, fun j hj => ?_⟩
      · simp only [Option.map_some, Nat.mul_one]; rw [WideShapes.add_plain]
      · rw [cutL_len l p m hp] at hj
        rw [show off + p + j = off + (p + j) by omega, hx (p + j) (by omega)]
        congr 2
        unfold cutL
        rw [List.getD, List.getD, List.getElem?_take, if_pos hj, List.getElem?_drop]

theorem wraps_i64 (n : Int) (h0 : 0 ≤ n) (h1 : n < 2 ^ 63) : IntKind.i64.wrap n = n := by
  have e : (2 : Int) ^ 63 = 9223372036854775808 := by decide
  rw [e] at h1
  exact IntWalk.i64_in _ (by omega)

theorem or_byte (X y : Int) (h0 : 0 ≤ X) (h1 : X ≤ 36028797018963967) (y0 : 0 ≤ y) (y1 : y ≤ 255) : bits .or .i64 (X * 256) y = X * 256 + y := by
  have e : (2 : Int) ^ 63 = 9223372036854775808 := by decide
  have e8 : (2 : Int) ^ 8 = 256 := by decide
  exact bits_join .i64 63 (by decide) wraps_i64 8 (X * 256) y (by omega) (by rw [e8]; omega) (by rw [e]; omega) y0 (by rw [e8]; omega) (by rw [e]; omega)

theorem or_none (y : Int) (y0 : 0 ≤ y) (y1 : y ≤ 255) : bits .or .i64 0 y = y := by
  have := or_byte 0 y (by omega) (by omega) y0 y1
  simpa using this

theorem or_wrap (X y : Int) (h0 : 0 ≤ X) (h1 : X ≤ 36028797018963967) (y0 : 0 ≤ y) (y1 : y ≤ 255) : bits .or .i64 (wrap64 (X * 256)) y = X * 256 + y := by
  rw [IntWalk.wrap64_in _ ⟨by omega, by omega⟩]
  exact or_byte X y h0 h1 y0 y1

def ByteL (l : List Int) : Prop := ∀ n ∈ l, 0 ≤ n ∧ n ≤ 255

theorem ByteL.at_ {l : List Int} (h : ByteL l) (k : Nat) (hk : k < l.length) : 0 ≤ l.getD k 0 ∧ l.getD k 0 ≤ 255 := by
  rw [List.getD, List.getElem?_eq_getElem hk]
  exact h _ (List.getElem_mem hk)

theorem ByteL.append {a b : List Int} (ha : ByteL a) (hb : ByteL b) : ByteL (a ++ b) := fun n hn => by
  rcases List.mem_append.mp hn with h | h
  · exact ha n h
  · exact hb n h

theorem res_set {w1 : World} {g : Nat} {x0 y0 : Value} (x y : Value) (k1 : w1.cell? ⟨g, 0, none⟩ = some x0) (k2 : w1.cell? ⟨g, 1, none⟩ = some y0) :
    (w1.setCell ⟨g, 0, none⟩ x).cell? ⟨g, 0, none⟩ = some x ∧ ((w1.setCell ⟨g, 0, none⟩ x).setCell ⟨g, 1, none⟩ y).cell? ⟨g, 1, none⟩ = some y := by
  have k3 : (w1.setCell ⟨g, 0, none⟩ x).cell? ⟨g, 1, none⟩ = some y0 := by
    rw [World.cell?_setCell_other _ _ _ _ (by simp)]
    exact k2
  exact ⟨World.cell?_setCell_same _ _ _ k1, World.cell?_setCell_same _ _ _ k3⟩

theorem Own.set {w : World} {g : Nat} {v : Value} {L : List Int} (h : Own w g v L) {p : Addr} (hp : g ≠ p.block) (u : Value) : Own (w.setCell p u) g v L := by
  rcases h with h | ⟨rfl, h⟩
  · exact .inl h
  · exact .inr ⟨rfl, (Below.heap_setCell w p u g hp).trans h⟩

theorem below_lt {B : Nat} {w w1 : World} {o : Obj} (hb : Below B (w.alloc o) w1) : w.heap.size < w1.heap.size := by
  have := hb.size
  simp only [World.size_alloc] at this
  omega

theorem OwnR.some_ {w : World} {B : Nat} {v : Value} {l : List Int} (h : OwnR w B v l) (h0 : 0 < l.length) :
    ∃ b cap, v = .slice (some ⟨b, 0, none⟩) l.length cap ∧ b < w.heap.size ∧ ∀ j, j < l.length → w.cell? ⟨b, j, none⟩ = some (.int .u8 (l.getD j 0)) := by
  rcases h.2 with ⟨_, h1⟩ | ⟨g, cap, cur, rfl, _, _, _⟩
  · omega
  · obtain ⟨a', c', he, _, _, hx⟩ := h.sl
    injection he with e1 e2 e3
    obtain ⟨b, off, e4, _, h2, h3⟩ := hx h0
    rw [← e1] at e4
    injection e4 with e4
    injection e4 with e5 e6 e7
    subst e5; subst e6
    exact ⟨g, cap, rfl, h2, fun j hj => by have := h3 j hj; rwa [Nat.zero_add] at this⟩

theorem OwnR.two {w : World} {B : Nat} {v : Value} {x y : Int} (h : OwnR w B v [x, y]) :
    ∃ b cap, v = .slice (some ⟨b, 0, none⟩) 2 cap ∧ b < w.heap.size ∧ w.cell? ⟨b, 0, none⟩ = some (.int .u8 x) ∧ w.cell? ⟨b, 1, none⟩ = some (.int .u8 y) := by
  obtain ⟨b, cap, rfl, hb, hx⟩ := h.some_ (by simp)
  exact ⟨b, cap, rfl, hb, hx 0 (by simp), hx 1 (by simp)⟩

theorem OwnR.four {w : World} {B : Nat} {v : Value} {x y z t : Int} (h : OwnR w B v [x, y, z, t]) :
    ∃ b cap, v = .slice (some ⟨b, 0, none⟩) 4 cap ∧ b < w.heap.size ∧ w.cell? ⟨b, 0, none⟩ = some (.int .u8 x) ∧ w.cell? ⟨b, 1, none⟩ = some (.int .u8 y) ∧ w.cell? ⟨b, 2, none⟩ = some (.int .u8 z) ∧ w.cell? ⟨b, 3, none⟩ = some (.int .u8 t) := by
  obtain ⟨b, cap, rfl, hb, hx⟩ := h.some_ (by simp)
  exact ⟨b, cap, rfl, hb, hx 0 (by simp), hx 1 (by simp), hx 2 (by simp), hx 3 (by simp)⟩

theorem sl_lit (w : World) (l : List Int) : Sl (w.alloc (.cells (l.map (Value.int .u8)).toArray 5)) w.heap.size (w.heap.size + 1) (.slice (some ⟨w.heap.size, 0, none⟩) l.length l.length) l :=
  Own.sl (.inr ⟨rfl, heap_alloc_new w _⟩)

theorem bel_alloc {w w' : World} (hb : Below w.heap.size w w') (o : Obj) : Below w.heap.size w (w'.alloc o) := hb.alloc hb.size o

/-- Block b begins with x, y. -/
def Cl (w : World) (b : Nat) (x y : Value) : Prop := w.cell? ⟨b, 0, none⟩ = some x ∧ w.cell? ⟨b, 1, none⟩ = some y

theorem Cl.later {w w' : World} {b : Nat} {x y : Value} (h : Cl w b x y) (hb : Below w.heap.size w w') : Cl w' b x y := ⟨cell_later hb h.1, cell_later hb h.2⟩

theorem Cl.lt {w : World} {b : Nat} {x y : Value} (h : Cl w b x y) : b < w.heap.size := World.block_lt_of_cell? w _ h.1

theorem Cl.new (w : World) (x y : Value) (t : TypeId) : Cl (w.alloc (.cells #[x, y] t)) w.heap.size x y := ⟨by simp [go_sem], by simp [go_sem]⟩

theorem Sl.later {w w' : World} {lo hi : Nat} {v : Value} {l : List Int} (h : Sl w lo hi v l) (hb : Below w.heap.size w w') : Sl w' lo hi v l := by
  obtain ⟨a, c, rfl, hc, hn, hp⟩ := h
  refine ⟨a, c, rfl, hc, hn, fun h0 => ?_⟩
  obtain ⟨b, off, rfl, h1, h2, hx⟩ := hp h0
  exact ⟨b, off, rfl, h1, h2, fun j hj => cell_later hb (hx j hj)⟩

theorem Sl.top {w : World} {lo hi : Nat} {v : Value} {l : List Int} (h : Sl w lo hi v l) : Sl w 0 w.heap.size v l := by
  obtain ⟨a, c, rfl, hc, hn, hp⟩ := h
  refine ⟨a, c, rfl, hc, hn, fun h0 => ?_⟩
  obtain ⟨b, off, rfl, h1, h2, hx⟩ := hp h0
  exact ⟨b, off, rfl, Nat.zero_le _, World.block_lt_of_cell? w _ (hx 0 h0), hx⟩

theorem Own.empty {w : World} {g : Nat} {v : Value} (h : Own w g v []) : ∃ a, v = .slice a 0 0 := by
  rcases h with ⟨rfl, _⟩ | ⟨rfl, _⟩
  · exact ⟨_, rfl⟩
  · exact ⟨_, rfl⟩

/-- One more world: what is known of a first one, up to a third one, by way of new memory. -/
theorem bel_call {w w1 w2 : World} (h : Below w.heap.size w w1) (hb : Below w1.heap.size w1 w2) : Below w.heap.size w w2 := h.trans (hb.mono h.size)

theorem getD_behind (al M : List Int) (i : Nat) : (al ++ M).getD (al.length + i) 0 = M.getD i 0 := by
  rw [List.getD, List.getD, List.getElem?_append_right (by omega), Nat.add_sub_cancel_left]

end Go.Proofs.YtdikgjbpjdnodaaGreat

/-
  The panic of an index out of range, as it ends a call.
-/
namespace Go.Proofs.YtdikgjbpjdnodaaGreat
open Go.RowKit
set_option linter.unusedVariables false
set_option maxRecDepth 100000

/-- An end by the panic of an index out of range; below w nothing has turned. -/
def NumBad (w : World) (e : Ending) (w' : World) : Prop :=
  ∃ x y s c, e = .panicked [{ v := .iface 8 (.agg #[.int .i64 x, .int .i64 y, .bool s, .int .u8 c]), recovered := false }] ∧ Below w.heap.size w w'

theorem bp_run {α : Type} (k : IntKind) (x y : Int) (code : BoundsCode) (w : World) :
    ∃ s n c, (boundsPanic k x y code : Sem α).run Tryz.prog w = .halt (.panic (.iface 8 (.agg #[.int .i64 (IntKind.i64.wrap x), .int .i64 y, .bool s, .int .u8 c]))) (w.drewN n) := by
  unfold boundsPanic
  split
  · simp only [runtimePanic, goPanic, go_sem]
    exact ⟨_, 1, _, rfl⟩
  · simp only [runtimePanic, goPanic, go_sem]
    exact ⟨_, 0, _, rfl⟩

theorem idx_out (a : Option Addr) (len cap : Nat) (i : Int) (hnil : a = none → len = 0) (ho : i < 0 ∨ (len : Int) ≤ i) (w : World) :
    ∃ x y s n c, (Instr.indexAt 28 (.slice a len cap) (.int .i64 i)).run Tryz.prog w = .halt (.panic (.iface 8 (.agg #[.int .i64 x, .int .i64 y, .bool s, .int .u8 c]))) (w.drewN n) := by
  cases a with
  | some a =>
    rw [run_indexAt_slice (h := Tryz.underlying28), if_neg (by omega)]
    obtain ⟨s, n, c, h⟩ := bp_run (α := Value) .i64 i len .index w
    exact ⟨_, _, s, n, c, h⟩
  | none =>
    obtain rfl := hnil rfl
    have e : (Instr.indexAt 28 (.slice none 0 cap) (.int .i64 i)).run Tryz.prog w = (boundsPanic .i64 i 0 .index).run Tryz.prog w := by
      simp [Instr.indexAt, run_underlying Tryz.underlying28, asIntOf]
    rw [e]
    obtain ⟨s, n, c, h⟩ := bp_run (α := Value) .i64 i 0 .index w
    exact ⟨_, _, s, n, c, h⟩
end Go.Proofs.YtdikgjbpjdnodaaGreat

/-
  octet.Get16, Get32: read, its deferred function, the panic of an index out of range.
-/
namespace Go.Proofs.YtdikgjbpjdnodaaGreat
open Go.RowKit
set_option linter.unusedVariables false
set_option maxRecDepth 100000

theorem ta_nil (w : World) : (Instr.typeAssert .nilIface 20 123 true).run Tryz.prog w = .ok (.tuple #[.nilIface, .bool false]) w := by kernel_rfl

theorem ta_bounds (x y : Int) (s : Bool) (c : Int) (w : World) : (Instr.typeAssert (.iface 8 (.agg #[.int .i64 x, .int .i64 y, .bool s, .int .u8 c])) 20 123 true).run Tryz.prog w = .ok (.tuple #[.iface 8 (.agg #[.int .i64 x, .int .i64 y, .bool s, .int .u8 c]), .bool true]) w := by kernel_rfl

theorem res_cells {w w1 : World} {x y : Value} (hb : Below (w.heap.size + 1) (w.alloc (.cells #[x, y] 43)) w1) :
    w1.cell? ⟨w.heap.size, 0, none⟩ = some x ∧ w1.cell? ⟨w.heap.size, 1, none⟩ = some y ∧ ∀ j, w1.frozen? ⟨w.heap.size, j, none⟩ = false := by
  refine ⟨(hb.cell (p := ⟨_, _, _⟩) (by simp)).trans ?_, (hb.cell (p := ⟨_, _, _⟩) (by simp)).trans ?_, fun j => (hb.frozen (p := ⟨_, _, _⟩) (by simp)).trans ?_⟩
  all_goals simp [go_sem]

/-- The number that two, that four bytes are. -/
def num2 (x y : Int) : Int := x * 256 + y

def num4 (x y z t : Int) : Int := ((x * 256 + y) * 256 + z) * 256 + t

set_option maxHeartbeats 1000000 in
theorem number2_ok (g off n : Nat) (p c : Nat) (x y : Int) (h : p + 2 ≤ n) (hn : n ≤ 1000000) (w : World)
    (cx : w.cell? ⟨g, off + p, none⟩ = some (.int .u8 x)) (x0 : 0 ≤ x) (x1 : x ≤ 255)
    (cy : w.cell? ⟨g, off + (p + 1), none⟩ = some (.int .u8 y)) (y0 : 0 ≤ y) (y1 : y ≤ 255)
    : Calls Tryz.prog 70 #[.slice (some ⟨g, off, none⟩) n c, .int .i64 p] w fun e w' => e = .returned (.tuple #[.int .i64 (num2 x y), .int .i64 (p + 2)]) ∧ Below w.heap.size w w' := by
  have hg : g < w.heap.size := World.block_lt_of_cell? w _ cx
  go_enter Tryz.func70, Tryz.ntmps70
  go_wp2
  refine wp_loop_rounds 3 ?_
  iterate 3 (rw [rounds_succ]; go_wp2)
  go_quiet (fail)
  go_wp2
  go_ret2
  refine ⟨?_, below_drewN ((Below.refl _ _).alloc (Nat.le_refl _) _) _⟩
  rw [or_none x x0 x1, or_wrap x y (by omega) (by omega) y0 y1]
  rfl

set_option maxHeartbeats 1000000 in
theorem number2_no0 (a : Option Addr) (p c : Nat) (hn : p ≤ 1000000) (ha : a = none → p = 0) (w : World) : Calls Tryz.prog 70 #[.slice a p c, .int .i64 p] w (NumBad w) := by
  obtain ⟨e1, e2, e3, e4, e5, hrun⟩ := idx_out a p c p ha (by omega) (w.alloc (.cells #[.int .u8 0, .int .u8 0] 110))
  go_enter Tryz.func70, Tryz.ntmps70
  go_wp2
  refine wp_loop_rounds 3 ?_
  iterate 1 (rw [rounds_succ]; go_wp2)
  exact ⟨rfl, e1, e2, e3, e5, rfl, below_drewN ((Below.refl _ _).alloc (Nat.le_refl _) _) _⟩

set_option maxHeartbeats 1000000 in
theorem number2_no1 (g off n : Nat) (p c : Nat) (x : Int) (h : p + 1 = n) (hn : n ≤ 1000000) (w : World)
    (cx : w.cell? ⟨g, off + p, none⟩ = some (.int .u8 x)) (x0 : 0 ≤ x) (x1 : x ≤ 255)
    : Calls Tryz.prog 70 #[.slice (some ⟨g, off, none⟩) n c, .int .i64 p] w (NumBad w) := by
  have hg : g < w.heap.size := World.block_lt_of_cell? w _ cx
  obtain ⟨e1, e2, e3, e4, e5, hrun⟩ := idx_out (some ⟨g, off, none⟩) n c (p + 1) (by simp) (by omega) (w.alloc (.cells #[.int .u8 0, .int .u8 0] 110))
  go_enter Tryz.func70, Tryz.ntmps70
  go_wp2
  refine wp_loop_rounds 3 ?_
  iterate 2 (rw [rounds_succ]; go_wp2)
  exact ⟨rfl, e1, e2, e3, e5, rfl, below_drewN ((Below.refl _ _).alloc (Nat.le_refl _) _) _⟩

set_option maxHeartbeats 1000000 in
theorem number4_ok (g off n : Nat) (p c : Nat) (x y z t : Int) (h : p + 4 ≤ n) (hn : n ≤ 1000000) (w : World)
    (cx : w.cell? ⟨g, off + p, none⟩ = some (.int .u8 x)) (x0 : 0 ≤ x) (x1 : x ≤ 255)
    (cy : w.cell? ⟨g, off + (p + 1), none⟩ = some (.int .u8 y)) (y0 : 0 ≤ y) (y1 : y ≤ 255)
    (cz : w.cell? ⟨g, off + (p + 2), none⟩ = some (.int .u8 z)) (z0 : 0 ≤ z) (z1 : z ≤ 255)
    (ct : w.cell? ⟨g, off + (p + 3), none⟩ = some (.int .u8 t)) (t0 : 0 ≤ t) (t1 : t ≤ 255)
    : Calls Tryz.prog 145 #[.slice (some ⟨g, off, none⟩) n c, .int .i64 p] w fun e w' => e = .returned (.tuple #[.int .i64 (num4 x y z t), .int .i64 (p + 4)]) ∧ Below w.heap.size w w' := by
  have hg : g < w.heap.size := World.block_lt_of_cell? w _ cx
  go_enter Tryz.func145, Tryz.ntmps145
  go_wp2
  refine wp_loop_rounds 5 ?_
  iterate 5 (rw [rounds_succ]; go_wp2)
  go_quiet (fail)
  go_wp2
  go_ret2
  refine ⟨?_, below_drewN ((Below.refl _ _).alloc (Nat.le_refl _) _) _⟩
  rw [or_none x x0 x1, or_wrap x y (by omega) (by omega) y0 y1, or_wrap (x * 256 + y) z (by omega) (by omega) z0 z1, or_wrap ((x * 256 + y) * 256 + z) t (by omega) (by omega) t0 t1]
  rfl

set_option maxHeartbeats 1000000 in
theorem number4_no0 (a : Option Addr) (p c : Nat) (hn : p ≤ 1000000) (ha : a = none → p = 0) (w : World) : Calls Tryz.prog 145 #[.slice a p c, .int .i64 p] w (NumBad w) := by
  obtain ⟨e1, e2, e3, e4, e5, hrun⟩ := idx_out a p c p ha (by omega) (w.alloc (.cells #[.int .u8 0, .int .u8 0, .int .u8 0, .int .u8 0] 189))
  go_enter Tryz.func145, Tryz.ntmps145
  go_wp2
  refine wp_loop_rounds 5 ?_
  iterate 1 (rw [rounds_succ]; go_wp2)
  exact ⟨rfl, e1, e2, e3, e5, rfl, below_drewN ((Below.refl _ _).alloc (Nat.le_refl _) _) _⟩

set_option maxHeartbeats 1000000 in
theorem number4_no1 (g off n : Nat) (p c : Nat) (x : Int) (h : p + 1 = n) (hn : n ≤ 1000000) (w : World)
    (cx : w.cell? ⟨g, off + p, none⟩ = some (.int .u8 x)) (x0 : 0 ≤ x) (x1 : x ≤ 255)
    : Calls Tryz.prog 145 #[.slice (some ⟨g, off, none⟩) n c, .int .i64 p] w (NumBad w) := by
  have hg : g < w.heap.size := World.block_lt_of_cell? w _ cx
  obtain ⟨e1, e2, e3, e4, e5, hrun⟩ := idx_out (some ⟨g, off, none⟩) n c (p + 1) (by simp) (by omega) (w.alloc (.cells #[.int .u8 0, .int .u8 0, .int .u8 0, .int .u8 0] 189))
  go_enter Tryz.func145, Tryz.ntmps145
  go_wp2
  refine wp_loop_rounds 5 ?_
  iterate 2 (rw [rounds_succ]; go_wp2)
  exact ⟨rfl, e1, e2, e3, e5, rfl, below_drewN ((Below.refl _ _).alloc (Nat.le_refl _) _) _⟩

set_option maxHeartbeats 1000000 in
theorem number4_no2 (g off n : Nat) (p c : Nat) (x y : Int) (h : p + 2 = n) (hn : n ≤ 1000000) (w : World)
    (cx : w.cell? ⟨g, off + p, none⟩ = some (.int .u8 x)) (x0 : 0 ≤ x) (x1 : x ≤ 255)
    (cy : w.cell? ⟨g, off + (p + 1), none⟩ = some (.int .u8 y)) (y0 : 0 ≤ y) (y1 : y ≤ 255)
    : Calls Tryz.prog 145 #[.slice (some ⟨g, off, none⟩) n c, .int .i64 p] w (NumBad w) := by
  have hg : g < w.heap.size := World.block_lt_of_cell? w _ cx
  obtain ⟨e1, e2, e3, e4, e5, hrun⟩ := idx_out (some ⟨g, off, none⟩) n c (p + 2) (by simp) (by omega) (w.alloc (.cells #[.int .u8 0, .int .u8 0, .int .u8 0, .int .u8 0] 189))
  go_enter Tryz.func145, Tryz.ntmps145
  go_wp2
  refine wp_loop_rounds 5 ?_
  iterate 3 (rw [rounds_succ]; go_wp2)
  exact ⟨rfl, e1, e2, e3, e5, rfl, below_drewN ((Below.refl _ _).alloc (Nat.le_refl _) _) _⟩

set_option maxHeartbeats 1000000 in
theorem number4_no3 (g off n : Nat) (p c : Nat) (x y z : Int) (h : p + 3 = n) (hn : n ≤ 1000000) (w : World)
    (cx : w.cell? ⟨g, off + p, none⟩ = some (.int .u8 x)) (x0 : 0 ≤ x) (x1 : x ≤ 255)
    (cy : w.cell? ⟨g, off + (p + 1), none⟩ = some (.int .u8 y)) (y0 : 0 ≤ y) (y1 : y ≤ 255)
    (cz : w.cell? ⟨g, off + (p + 2), none⟩ = some (.int .u8 z)) (z0 : 0 ≤ z) (z1 : z ≤ 255)
    : Calls Tryz.prog 145 #[.slice (some ⟨g, off, none⟩) n c, .int .i64 p] w (NumBad w) := by
  have hg : g < w.heap.size := World.block_lt_of_cell? w _ cx
  obtain ⟨e1, e2, e3, e4, e5, hrun⟩ := idx_out (some ⟨g, off, none⟩) n c (p + 3) (by simp) (by omega) (w.alloc (.cells #[.int .u8 0, .int .u8 0, .int .u8 0, .int .u8 0] 189))
  go_enter Tryz.func145, Tryz.ntmps145
  go_wp2
  refine wp_loop_rounds 5 ?_
  iterate 4 (rw [rounds_succ]; go_wp2)
  exact ⟨rfl, e1, e2, e3, e5, rfl, below_drewN ((Below.refl _ _).alloc (Nat.le_refl _) _) _⟩

theorem catch_idle (p q : Addr) (w : World) :
    CallsD Tryz.prog 73 #[.pointer (some p), .pointer (some q)] .returning w fun e u' w' => e = .returned (.tuple #[]) ∧ u' = .returning ∧ w = w' := by
  refine callsD_of_wpS Tryz.func73 rfl fun c₀ cs hu => ?_
  simp only [Tryz.ntmps73, List.size_toArray, List.length_cons, List.length_nil, Nat.reduceAdd, Nat.reduceSub, Array.replicate_succ, Array.replicate_zero, List.push_toArray, List.append_toArray, List.nil_append, List.cons_append]
  apply wpS_seq
  apply wpS_region
  simp [wpOpsS, go_sem, recoverD, hu, Exit.thenS, ta_nil]
  refine wpS_of_wp ?_
  go_wp2
  cases c₀
  simp_all [bodyPostS, results, Tryz.results73]

theorem catch_panicking (p : Addr) (g : Nat) (a : Option Addr) (n k : Nat) (x y : Int) (s : Bool) (c : Int) (w : World) (hp : w.cell? p = some (.slice a n k)) (h0 : w.cell? ⟨g, 0, none⟩ = some (.int .i64 0)) (h1 : w.cell? ⟨g, 1, none⟩ = some (.int .i64 0)) (hf : ∀ j, w.frozen? ⟨g, j, none⟩ = false) :
    CallsD Tryz.prog 73 #[.pointer (some p), .pointer (some ⟨g, 0, none⟩)] (.panicking [{ v := .iface 8 (.agg #[.int .i64 x, .int .i64 y, .bool s, .int .u8 c]), recovered := false }]) w fun e u' w' =>
      e = .returned (.tuple #[]) ∧ u' = .panicking [{ v := .iface 8 (.agg #[.int .i64 x, .int .i64 y, .bool s, .int .u8 c]), recovered := true }] ∧ w' = (w.setCell ⟨g, 0, none⟩ (.int .i64 4)).setCell ⟨g, 1, none⟩ (.int .i64 n) := by
  refine callsD_of_wpS Tryz.func73 rfl fun c₀ cs hu => ?_
  simp only [Tryz.ntmps73, List.size_toArray, List.length_cons, List.length_nil, Nat.reduceAdd, Nat.reduceSub, Array.replicate_succ, Array.replicate_zero, List.push_toArray, List.append_toArray, List.nil_append, List.cons_append]
  apply wpS_seq
  apply wpS_region
  simp [wpOpsS, go_sem, recoverD, hu, Exit.thenS, ta_bounds]
  refine wpS_of_wp ?_
  go_wp2
  cases c₀
  simp_all [bodyPostS, results, Tryz.results73]

def GetPost (w : World) (N E F A : Int) (e : Ending) (w' : World) : Prop :=
  e = .returned (.tuple #[.int .i64 N, .int .i64 E, .agg #[.int .i64 F, .int .i64 A]]) ∧ Below w.heap.size w w'

/-- What number tells: the number and where it ends. -/
def NumOk (w : World) (N E : Int) (e : Ending) (w' : World) : Prop := e = .returned (.tuple #[.int .i64 N, .int .i64 E]) ∧ Below w.heap.size w w'

def nAt2 (l : List Int) (p : Nat) : Int := num2 (l.getD p 0) (l.getD (p + 1) 0)

def nAt4 (l : List Int) (p : Nat) : Int := num4 (l.getD p 0) (l.getD (p + 1) 0) (l.getD (p + 2) 0) (l.getD (p + 3) 0)

theorem number2_fine {w : World} {lo hi p c : Nat} {a : Option Addr} {l : List Int} (h : Sl w lo hi (.slice a l.length c) l) (hb : ByteL l) (hl : l.length ≤ 1000000) (hp : p + 2 ≤ l.length) :
    Calls Tryz.prog 70 #[.slice a l.length c, .int .i64 p] w (NumOk w (nAt2 l p) (p + 2)) := by
  obtain ⟨a', c', he, hc, hn, hq⟩ := h
  injection he with e1 e2 e3
  subst e1; subst e3
  obtain ⟨b, off, rfl, _, _, hx⟩ := hq (by omega)
  have y0 := hb.at_ p (by omega)
  have y1 := hb.at_ (p + 1) (by omega)
  exact number2_ok b off l.length p c _ _ hp hl w (hx p (by omega)) y0.1 y0.2 (hx (p + 1) (by omega)) y1.1 y1.2

theorem number2_short {w : World} {lo hi p c : Nat} {a : Option Addr} {l : List Int} (h : Sl w lo hi (.slice a l.length c) l) (hb : ByteL l) (hl : l.length ≤ 1000000) (hp : p ≤ l.length) (hs : l.length < p + 2) :
    Calls Tryz.prog 70 #[.slice a l.length c, .int .i64 p] w (NumBad w) := by
  obtain ⟨a', c', he, hc, hn, hq⟩ := h
  injection he with e1 e2 e3
  subst e1; subst e3
  obtain h0 | h0 : l.length = p ∨ p + 1 = l.length := by omega
  · rw [h0] at hc ⊢
    exact number2_no0 a p c (by omega) (fun ha => by have := hn ha; omega) w
  · obtain ⟨b, off, rfl, _, _, hx⟩ := hq (by omega)
    have y0 := hb.at_ p (by omega)
    exact number2_no1 b off l.length p c _ h0 hl w (hx p (by omega)) y0.1 y0.2

theorem number4_fine {w : World} {lo hi p c : Nat} {a : Option Addr} {l : List Int} (h : Sl w lo hi (.slice a l.length c) l) (hb : ByteL l) (hl : l.length ≤ 1000000) (hp : p + 4 ≤ l.length) :
    Calls Tryz.prog 145 #[.slice a l.length c, .int .i64 p] w (NumOk w (nAt4 l p) (p + 4)) := by
  obtain ⟨a', c', he, hc, hn, hq⟩ := h
  injection he with e1 e2 e3
  subst e1; subst e3
  obtain ⟨b, off, rfl, _, _, hx⟩ := hq (by omega)
  have y0 := hb.at_ p (by omega)
  have y1 := hb.at_ (p + 1) (by omega)
  have y2 := hb.at_ (p + 2) (by omega)
  have y3 := hb.at_ (p + 3) (by omega)
  exact number4_ok b off l.length p c _ _ _ _ hp hl w (hx p (by omega)) y0.1 y0.2 (hx (p + 1) (by omega)) y1.1 y1.2 (hx (p + 2) (by omega)) y2.1 y2.2 (hx (p + 3) (by omega)) y3.1 y3.2

theorem number4_short {w : World} {lo hi p c : Nat} {a : Option Addr} {l : List Int} (h : Sl w lo hi (.slice a l.length c) l) (hb : ByteL l) (hl : l.length ≤ 1000000) (hp : p ≤ l.length) (hs : l.length < p + 4) :
    Calls Tryz.prog 145 #[.slice a l.length c, .int .i64 p] w (NumBad w) := by
  obtain ⟨a', c', he, hc, hn, hq⟩ := h
  injection he with e1 e2 e3
  subst e1; subst e3
  obtain h0 | h0 | h0 | h0 : l.length = p ∨ p + 1 = l.length ∨ p + 2 = l.length ∨ p + 3 = l.length := by omega
  · rw [h0] at hc ⊢
    exact number4_no0 a p c (by omega) (fun ha => by have := hn ha; omega) w
  · obtain ⟨b, off, rfl, _, _, hx⟩ := hq (by omega)
    have y0 := hb.at_ p (by omega)
    exact number4_no1 b off l.length p c _ h0 hl w (hx p (by omega)) y0.1 y0.2
  · obtain ⟨b, off, rfl, _, _, hx⟩ := hq (by omega)
    have y0 := hb.at_ p (by omega)
    have y1 := hb.at_ (p + 1) (by omega)
    exact number4_no2 b off l.length p c _ _ h0 hl w (hx p (by omega)) y0.1 y0.2 (hx (p + 1) (by omega)) y1.1 y1.2
  · obtain ⟨b, off, rfl, _, _, hx⟩ := hq (by omega)
    have y0 := hb.at_ p (by omega)
    have y1 := hb.at_ (p + 1) (by omega)
    have y2 := hb.at_ (p + 2) (by omega)
    exact number4_no3 b off l.length p c _ _ _ h0 hl w (hx p (by omega)) y0.1 y0.2 (hx (p + 1) (by omega)) y1.1 y1.2 (hx (p + 2) (by omega)) y2.1 y2.2

theorem read_cells {w w1 : World} {v : Value} (hb : Below (w.heap.size + 1 + 1) ((w.alloc (.cells #[v] 28)).alloc (.cells #[.int .i64 0, .int .i64 0] 43)) w1) :
    w1.cell? ⟨w.heap.size, 0, none⟩ = some v ∧ w1.cell? ⟨w.heap.size + 1, 0, none⟩ = some (.int .i64 0) ∧ w1.cell? ⟨w.heap.size + 1, 1, none⟩ = some (.int .i64 0) ∧ ∀ j, w1.frozen? ⟨w.heap.size + 1, j, none⟩ = false := by
  refine ⟨(hb.cell (p := ⟨_, _, _⟩) (by simp; omega)).trans ?_, (hb.cell (p := ⟨_, _, _⟩) (by simp)).trans ?_, (hb.cell (p := ⟨_, _, _⟩) (by simp)).trans ?_, fun j => (hb.frozen (p := ⟨_, _, _⟩) (by simp)).trans ?_⟩
  all_goals simp [go_sem]

set_option maxHeartbeats 400000 in
theorem read_out (a : Option Addr) (n c : Nat) (f : Value) (p : Int) (hp : p < 0 ∨ n < p) (w : World) : Calls Tryz.prog 69 #[.slice a n c, .int .i64 p, f] w (GetPost w 0 0 5 0) := by
  have hmf : ∀ (fn : Fn) (first cap : Array Value) (w : World), (Instr.makeFunc fn first cap).run Tryz.prog w = .ok (.func fn first cap) w := fun _ _ _ _ => rfl
  go_enter_defers Tryz.func69, Tryz.ntmps69
  go_wp2
  all_goals
    simp [Leaves, bodyPostD, results, Tryz.results69, go_sem]
    exact ⟨rfl, ((Below.refl _ _).alloc (Nat.le_refl _) _).alloc (by simp) _⟩

set_option maxHeartbeats 1000000 in
theorem read16_ok (a : Option Addr) (n c p : Nat) (N E : Int) (hp : p ≤ n) (w : World)
    (H : ∀ w0, Below w.heap.size w w0 → Calls Tryz.prog 70 #[.slice a n c, .int .i64 p] w0 (NumOk w0 N E)) :
    Calls Tryz.prog 69 #[.slice a n c, .int .i64 p, .func (.func 70) #[] #[]] w (GetPost w N E 0 0) := by
  have hmf : ∀ (fn : Fn) (first cap : Array Value) (w : World), (Instr.makeFunc fn first cap).run Tryz.prog w = .ok (.func fn first cap) w := fun _ _ _ _ => rfl
  have hb0 : Below w.heap.size w ((w.alloc (.cells #[.slice a n c] 28)).alloc (.cells #[.int .i64 0, .int .i64 0] 43)) := ((Below.refl _ _).alloc (Nat.le_refl _) _).alloc (by simp) _
  have HB0 := Lib.hid hb0
  have HH := Lib.hid (H _ hb0)
  clear hb0 H
  go_enter_defers Tryz.func69, Tryz.ntmps69
  go_wp2_with (go_at_call 70; refine HH.out.mono ?_; rintro e w1 ⟨rfl, hb⟩; simp only [World.size_alloc] at hb; have HB := Lib.hid hb; have hcell := read_cells hb; clear hb; obtain ⟨k0, k1, k2, k3⟩ := hcell)
  refine leaves_cons (f := 73) (args := #[.pointer (some ⟨w.heap.size, 0, none⟩), .pointer (some ⟨w.heap.size + 1, 0, none⟩)]) (by simp) (by simp [go_sem]) ?_
  refine (catch_idle ⟨w.heap.size, 0, none⟩ ⟨w.heap.size + 1, 0, none⟩ _).mono ?_
  rintro e u' w'' ⟨rfl, rfl, rfl⟩
  obtain ⟨m0, m1⟩ := res_set (.int .i64 0) (.int .i64 0) k1 k2
  simp [Leaves, settle, results, Tryz.results69, go_sem, m0, m1]
  exact ⟨rfl, ((HB0.out.trans (HB.out.mono (by omega))).setCell (by simp) _).setCell (by simp) _⟩

set_option maxHeartbeats 1000000 in
theorem read16_no (a : Option Addr) (n c p : Nat) (hp : p ≤ n) (w : World)
    (H : ∀ w0, Below w.heap.size w w0 → Calls Tryz.prog 70 #[.slice a n c, .int .i64 p] w0 (NumBad w0)) :
    Calls Tryz.prog 69 #[.slice a n c, .int .i64 p, .func (.func 70) #[] #[]] w (GetPost w 0 0 4 n) := by
  have hmf : ∀ (fn : Fn) (first cap : Array Value) (w : World), (Instr.makeFunc fn first cap).run Tryz.prog w = .ok (.func fn first cap) w := fun _ _ _ _ => rfl
  have hb0 : Below w.heap.size w ((w.alloc (.cells #[.slice a n c] 28)).alloc (.cells #[.int .i64 0, .int .i64 0] 43)) := ((Below.refl _ _).alloc (Nat.le_refl _) _).alloc (by simp) _
  have HB0 := Lib.hid hb0
  have HH := Lib.hid (H _ hb0)
  clear hb0 H
  go_enter_defers Tryz.func69, Tryz.ntmps69
  go_wp2_with (go_at_call 70; refine HH.out.mono ?_; rintro e w1 ⟨x, y, s, c1, rfl, hb⟩; simp only [World.size_alloc] at hb; have HB := Lib.hid hb; have hcell := read_cells hb; clear hb; obtain ⟨k0, k1, k2, k3⟩ := hcell)
  refine leaves_cons (f := 73) (args := #[.pointer (some ⟨w.heap.size, 0, none⟩), .pointer (some ⟨w.heap.size + 1, 0, none⟩)]) (by simp) (by simp [go_sem]) ?_
  refine (catch_panicking ⟨w.heap.size, 0, none⟩ (w.heap.size + 1) a n c x y s c1 _ k0 k1 k2 k3).mono ?_
  rintro e u' w'' ⟨rfl, rfl, rfl⟩
  obtain ⟨m0, m1⟩ := res_set (.int .i64 4) (.int .i64 n) k1 k2
  simp [Leaves, settle, results, Tryz.results69, go_sem, m0, m1]
  exact ⟨rfl, ((HB0.out.trans (HB.out.mono (by omega))).setCell (by simp) _).setCell (by simp) _⟩

set_option maxHeartbeats 1000000 in
theorem read32_ok (a : Option Addr) (n c p : Nat) (N E : Int) (hp : p ≤ n) (w : World)
    (H : ∀ w0, Below w.heap.size w w0 → Calls Tryz.prog 145 #[.slice a n c, .int .i64 p] w0 (NumOk w0 N E)) :
    Calls Tryz.prog 69 #[.slice a n c, .int .i64 p, .func (.func 145) #[] #[]] w (GetPost w N E 0 0) := by
  have hmf : ∀ (fn : Fn) (first cap : Array Value) (w : World), (Instr.makeFunc fn first cap).run Tryz.prog w = .ok (.func fn first cap) w := fun _ _ _ _ => rfl
  have hb0 : Below w.heap.size w ((w.alloc (.cells #[.slice a n c] 28)).alloc (.cells #[.int .i64 0, .int .i64 0] 43)) := ((Below.refl _ _).alloc (Nat.le_refl _) _).alloc (by simp) _
  have HB0 := Lib.hid hb0
  have HH := Lib.hid (H _ hb0)
  clear hb0 H
  go_enter_defers Tryz.func69, Tryz.ntmps69
  go_wp2_with (go_at_call 145; refine HH.out.mono ?_; rintro e w1 ⟨rfl, hb⟩; simp only [World.size_alloc] at hb; have HB := Lib.hid hb; have hcell := read_cells hb; clear hb; obtain ⟨k0, k1, k2, k3⟩ := hcell)
  refine leaves_cons (f := 73) (args := #[.pointer (some ⟨w.heap.size, 0, none⟩), .pointer (some ⟨w.heap.size + 1, 0, none⟩)]) (by simp) (by simp [go_sem]) ?_
  refine (catch_idle ⟨w.heap.size, 0, none⟩ ⟨w.heap.size + 1, 0, none⟩ _).mono ?_
  rintro e u' w'' ⟨rfl, rfl, rfl⟩
  obtain ⟨m0, m1⟩ := res_set (.int .i64 0) (.int .i64 0) k1 k2
  simp [Leaves, settle, results, Tryz.results69, go_sem, m0, m1]
  exact ⟨rfl, ((HB0.out.trans (HB.out.mono (by omega))).setCell (by simp) _).setCell (by simp) _⟩

set_option maxHeartbeats 1000000 in
theorem read32_no (a : Option Addr) (n c p : Nat) (hp : p ≤ n) (w : World)
    (H : ∀ w0, Below w.heap.size w w0 → Calls Tryz.prog 145 #[.slice a n c, .int .i64 p] w0 (NumBad w0)) :
    Calls Tryz.prog 69 #[.slice a n c, .int .i64 p, .func (.func 145) #[] #[]] w (GetPost w 0 0 4 n) := by
  have hmf : ∀ (fn : Fn) (first cap : Array Value) (w : World), (Instr.makeFunc fn first cap).run Tryz.prog w = .ok (.func fn first cap) w := fun _ _ _ _ => rfl
  have hb0 : Below w.heap.size w ((w.alloc (.cells #[.slice a n c] 28)).alloc (.cells #[.int .i64 0, .int .i64 0] 43)) := ((Below.refl _ _).alloc (Nat.le_refl _) _).alloc (by simp) _
  have HB0 := Lib.hid hb0
  have HH := Lib.hid (H _ hb0)
  clear hb0 H
  go_enter_defers Tryz.func69, Tryz.ntmps69
  go_wp2_with (go_at_call 145; refine HH.out.mono ?_; rintro e w1 ⟨x, y, s, c1, rfl, hb⟩; simp only [World.size_alloc] at hb; have HB := Lib.hid hb; have hcell := read_cells hb; clear hb; obtain ⟨k0, k1, k2, k3⟩ := hcell)
  refine leaves_cons (f := 73) (args := #[.pointer (some ⟨w.heap.size, 0, none⟩), .pointer (some ⟨w.heap.size + 1, 0, none⟩)]) (by simp) (by simp [go_sem]) ?_
  refine (catch_panicking ⟨w.heap.size, 0, none⟩ (w.heap.size + 1) a n c x y s c1 _ k0 k1 k2 k3).mono ?_
  rintro e u' w'' ⟨rfl, rfl, rfl⟩
  obtain ⟨m0, m1⟩ := res_set (.int .i64 4) (.int .i64 n) k1 k2
  simp [Leaves, settle, results, Tryz.results69, go_sem, m0, m1]
  exact ⟨rfl, ((HB0.out.trans (HB.out.mono (by omega))).setCell (by simp) _).setCell (by simp) _⟩

/-- The fault's number, where it is, and what is told where there is none. -/
def getE (sz len : Nat) (t : Int) : Int := if t < 0 ∨ (len : Int) < t then 5 else if (len : Int) < t + sz then 4 else 0

def getA (sz len : Nat) (t : Int) : Int := if 0 ≤ t ∧ t ≤ (len : Int) ∧ (len : Int) < t + sz then len else 0

def getF (sz len : Nat) (t v : Int) : Int := if 0 ≤ t ∧ t + sz ≤ (len : Int) then v else 0

theorem read16_any {w : World} {lo hi c : Nat} {a : Option Addr} {l : List Int} (h : Sl w lo hi (.slice a l.length c) l) (hb : ByteL l) (hl : l.length ≤ 1000000) (hhi : hi ≤ w.heap.size) (t : Int) :
    Calls Tryz.prog 69 #[.slice a l.length c, .int .i64 t, .func (.func 70) #[] #[]] w (GetPost w (getF 2 l.length t (nAt2 l t.toNat)) (getF 2 l.length t (t + 2)) (getE 2 l.length t) (getA 2 l.length t)) := by
  by_cases h0 : t < 0 ∨ (l.length : Int) < t
  · have e1 : ∀ v, getF 2 l.length t v = 0 := fun v => by unfold getF; rw [if_neg (by omega)]
    have e2 : getE 2 l.length t = 5 := by unfold getE; rw [if_pos h0]
    have e3 : getA 2 l.length t = 0 := by unfold getA; rw [if_neg (by omega)]
    rw [e1, e1, e2, e3]
    exact read_out a l.length c _ t h0 w
  · obtain ⟨p, rfl⟩ : ∃ p : Nat, t = p := ⟨t.toNat, by omega⟩
    by_cases h1 : p + 2 ≤ l.length
    · have e1 : ∀ v, getF 2 l.length p v = v := fun v => by unfold getF; rw [if_pos (by omega)]
      have e2 : getE 2 l.length p = 0 := by unfold getE; rw [if_neg h0, if_neg (by omega)]
      have e3 : getA 2 l.length p = 0 := by unfold getA; rw [if_neg (by omega)]
      rw [e1, e1, e2, e3, Int.toNat_natCast]
      exact read16_ok a l.length c p _ _ (by omega) w fun w0 hw => number2_fine (h.below hw hhi) hb hl h1
    · have e1 : ∀ v, getF 2 l.length p v = 0 := fun v => by unfold getF; rw [if_neg (by omega)]
      have e2 : getE 2 l.length p = 4 := by unfold getE; rw [if_neg h0, if_pos (by omega)]
      have e3 : getA 2 l.length p = l.length := by unfold getA; rw [if_pos (by omega)]
      rw [e1, e1, e2, e3]
      exact read16_no a l.length c p (by omega) w fun w0 hw => number2_short (h.below hw hhi) hb hl (by omega) (by omega)

set_option maxHeartbeats 400000 in
theorem get16_any {w : World} {lo hi : Nat} {v : Value} {l : List Int} (h : Sl w lo hi v l) (hb : ByteL l) (hl : l.length ≤ 1000000) (hhi : hi ≤ w.heap.size) (t : Int) :
    Calls Tryz.prog 62 #[v, .int .i64 t] w (GetPost w (getF 2 l.length t (nAt2 l t.toNat)) (getF 2 l.length t (t + 2)) (getE 2 l.length t) (getA 2 l.length t)) := by
  have hb0 : Below w.heap.size w (w.alloc (.cells #[.int .i64 0, .int .i64 0] 43)) := (Below.refl _ _).alloc (Nat.le_refl _) _
  have hs := h.below hb0 hhi
  obtain ⟨a, c, rfl, _⟩ := h
  have HH := Lib.hid (read16_any hs hb hl (by simp; omega) t)
  have HB0 := Lib.hid hb0
  clear hb0 hs hb
  generalize getF 2 l.length t (nAt2 l t.toNat) = N at *
  generalize getF 2 l.length t (t + 2) = E at *
  generalize getE 2 l.length t = F at *
  generalize getA 2 l.length t = A at *
  go_enter Tryz.func62, Tryz.ntmps62
  go_wp2_with (go_at_call 69; refine HH.out.mono ?_; rintro e w1 ⟨rfl, hb⟩; simp only [World.size_alloc] at hb; have HB := Lib.hid hb; have hcell := res_cells hb; clear hb; obtain ⟨k1, k2, k3⟩ := hcell)
  obtain ⟨m0, m1⟩ := res_set (.int .i64 F) (.int .i64 A) k1 k2
  refine bodyPost_ret (v := .tuple #[.int .i64 N, .int .i64 E, .agg #[.int .i64 F, .int .i64 A]]) (by simp [results, Tryz.results62, go_sem, m0, m1]) rfl ⟨rfl, ?_⟩
  exact ((HB0.out.trans (HB.out.mono (by omega))).setCell (by simp) _).setCell (by simp) _

theorem read32_any {w : World} {lo hi c : Nat} {a : Option Addr} {l : List Int} (h : Sl w lo hi (.slice a l.length c) l) (hb : ByteL l) (hl : l.length ≤ 1000000) (hhi : hi ≤ w.heap.size) (t : Int) :
    Calls Tryz.prog 69 #[.slice a l.length c, .int .i64 t, .func (.func 145) #[] #[]] w (GetPost w (getF 4 l.length t (nAt4 l t.toNat)) (getF 4 l.length t (t + 4)) (getE 4 l.length t) (getA 4 l.length t)) := by
  by_cases h0 : t < 0 ∨ (l.length : Int) < t
  · have e1 : ∀ v, getF 4 l.length t v = 0 := fun v => by unfold getF; rw [if_neg (by omega)]
    have e2 : getE 4 l.length t = 5 := by unfold getE; rw [if_pos h0]
    have e3 : getA 4 l.length t = 0 := by unfold getA; rw [if_neg (by omega)]
    rw [e1, e1, e2, e3]
    exact read_out a l.length c _ t h0 w
  · obtain ⟨p, rfl⟩ : ∃ p : Nat, t = p := ⟨t.toNat, by omega⟩
    by_cases h1 : p + 4 ≤ l.length
    · have e1 : ∀ v, getF 4 l.length p v = v := fun v => by unfold getF; rw [if_pos (by omega)]
      have e2 : getE 4 l.length p = 0 := by unfold getE; rw [if_neg h0, if_neg (by omega)]
      have e3 : getA 4 l.length p = 0 := by unfold getA; rw [if_neg (by omega)]
      rw [e1, e1, e2, e3, Int.toNat_natCast]
      exact read32_ok a l.length c p _ _ (by omega) w fun w0 hw => number4_fine (h.below hw hhi) hb hl h1
    · have e1 : ∀ v, getF 4 l.length p v = 0 := fun v => by unfold getF; rw [if_neg (by omega)]
      have e2 : getE 4 l.length p = 4 := by unfold getE; rw [if_neg h0, if_pos (by omega)]
      have e3 : getA 4 l.length p = l.length := by unfold getA; rw [if_pos (by omega)]
      rw [e1, e1, e2, e3]
      exact read32_no a l.length c p (by omega) w fun w0 hw => number4_short (h.below hw hhi) hb hl (by omega) (by omega)

set_option maxHeartbeats 400000 in
theorem get32_any {w : World} {lo hi : Nat} {v : Value} {l : List Int} (h : Sl w lo hi v l) (hb : ByteL l) (hl : l.length ≤ 1000000) (hhi : hi ≤ w.heap.size) (t : Int) :
    Calls Tryz.prog 137 #[v, .int .i64 t] w (GetPost w (getF 4 l.length t (nAt4 l t.toNat)) (getF 4 l.length t (t + 4)) (getE 4 l.length t) (getA 4 l.length t)) := by
  have hb0 : Below w.heap.size w (w.alloc (.cells #[.int .i64 0, .int .i64 0] 43)) := (Below.refl _ _).alloc (Nat.le_refl _) _
  have hs := h.below hb0 hhi
  obtain ⟨a, c, rfl, _⟩ := h
  have HH := Lib.hid (read32_any hs hb hl (by simp; omega) t)
  have HB0 := Lib.hid hb0
  clear hb0 hs hb
  generalize getF 4 l.length t (nAt4 l t.toNat) = N at *
  generalize getF 4 l.length t (t + 4) = E at *
  generalize getE 4 l.length t = F at *
  generalize getA 4 l.length t = A at *
  go_enter Tryz.func137, Tryz.ntmps137
  go_wp2_with (go_at_call 69; refine HH.out.mono ?_; rintro e w1 ⟨rfl, hb⟩; simp only [World.size_alloc] at hb; have HB := Lib.hid hb; have hcell := res_cells hb; clear hb; obtain ⟨k1, k2, k3⟩ := hcell)
  obtain ⟨m0, m1⟩ := res_set (.int .i64 F) (.int .i64 A) k1 k2
  refine bodyPost_ret (v := .tuple #[.int .i64 N, .int .i64 E, .agg #[.int .i64 F, .int .i64 A]]) (by simp [results, Tryz.results137, go_sem, m0, m1]) rfl ⟨rfl, ?_⟩
  exact ((HB0.out.trans (HB.out.mono (by omega))).setCell (by simp) _).setCell (by simp) _
end Go.Proofs.YtdikgjbpjdnodaaGreat
