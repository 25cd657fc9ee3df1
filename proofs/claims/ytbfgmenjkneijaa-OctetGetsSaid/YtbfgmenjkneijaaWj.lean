/-
  piece: a copy of some bytes, or the panic of an index out of range.
-/
import Derived.Test.YtbfgmenjkneijaaWi
import Derived.Laws.CopyOwn
namespace Go.Proofs.Ytbfgmenjkneijaa
open Go.RowKit
set_option linter.unusedVariables false

/-- So many bytes from a place on. -/
def cutL (l : List Int) (p m : Nat) : List Int := (l.drop p).take m
theorem cutL_len (l : List Int) (p m : Nat) (h : p + m ≤ l.length) : (cutL l p m).length = m := by unfold cutL; rw [List.length_take, List.length_drop]; omega

/-- New bytes, and a number. -/
def PiecePost (w : World) (L : List Int) (E : Int) (e : Ending) (w' : World) : Prop :=
  ∃ v g, e = .returned (.tuple #[v, .int .i64 E]) ∧ Own w' g v L ∧ w.heap.size ≤ g ∧ g < w'.heap.size ∧ Below w.heap.size w w'

theorem splice_all (m : Nat) (cs : List Value) (z : Value) (h : cs.length = m) : splice (List.replicate m z) 0 cs = cs := by
  unfold splice
  simp [h]

theorem out_wrap (p len : Nat) (n : Int) (hp : p ≤ len) (hl : len ≤ 1000000) (h0 : 0 < n) (h1 : n ≤ 9223372036854775807) (h : (len : Int) < p + n) :
    wrap64 (wrap64 ((p : Int) + n) - 1) < 0 ∨ (len : Int) ≤ wrap64 (wrap64 ((p : Int) + n) - 1) := by
  unfold wrap64
  omega

set_option maxHeartbeats 1000000 in
theorem piece_no (a : Option Addr) (len c p : Nat) (n : Int) (ha : a = none → len = 0) (hp : p ≤ len) (hl : len ≤ 1000000) (h0 : 0 < n) (h1 : n ≤ 9223372036854775807) (h : (len : Int) < p + n) (w : World) :
    Calls Try.prog 34 #[.slice a len c, .int .i64 p, .int .i64 n] w (NumBad w) := by
  obtain ⟨e1, e2, e3, e4, e5, hrun⟩ := idx_out a len c _ ha (out_wrap p len n hp hl h0 h1 h) w
  have HA := Lib.hid h1
  have HB := Lib.hid h
  clear h1 h ha
  go_enter Try.func34, Try.ntmps34
  go_wp2
  exact ⟨rfl, e1, e2, e3, e5, rfl, below_drewN (Below.refl _ _) _⟩

theorem Sl.news_cut {w : World} {lo hi c : Nat} {a : Option Addr} {l : List Int} (h : Sl w lo hi (.slice a l.length c) l) {w' : World} (hb : Below w.heap.size w w') (p m : Nat) (hm : 0 < m) (hp : p + m ≤ l.length) :
    ∃ b off, a = some ⟨b, off, none⟩ ∧ ∀ j u, ((cutL l p m).map (Value.int .u8))[j]? = some u → w'.cell? ⟨b, off + p + j, none⟩ = some u := by
  obtain ⟨a', c', he, hc, hn, hq⟩ := h
  injection he with e1 e2 e3
  subst e1; subst e3
  obtain ⟨b, off, rfl, _, _, hx⟩ := hq (by omega)
  refine ⟨b, off, rfl, fun j u hu => ?_⟩
  rw [List.getElem?_map] at hu
  obtain ⟨n, hn, rfl⟩ := Option.map_eq_some_iff.mp hu
  have hj : j < m := by
    have := (List.getElem?_eq_some_iff.mp hn).1
    rw [cutL_len l p m hp] at this
    exact this
  have e : l[p + j]? = some n := by
    unfold cutL at hn
    rw [List.getElem?_take, if_pos hj, List.getElem?_drop] at hn
    exact hn
  have := hx (p + j) (by omega)
  rw [List.getD, e] at this
  rw [show off + p + j = off + (p + j) by omega, cell_later hb this]; rfl

set_option maxHeartbeats 1000000 in
theorem piece_some {w : World} {lo hi c p m : Nat} {a : Option Addr} {l : List Int} (h : Sl w lo hi (.slice a l.length c) l) (hl : l.length ≤ 1000000) (hm : 0 < m) (hp : p + m ≤ l.length) :
    Calls Try.prog 34 #[.slice a l.length c, .int .i64 p, .int .i64 m] w (PiecePost w (cutL l p m) (p + m)) := by
  have hb1 : Below w.heap.size w (w.alloc (Obj.cells (Array.replicate m (Value.int IntKind.u8 0)) 5)) := (Below.refl _ _).alloc (Nat.le_refl _) _
  obtain ⟨b, off, rfl, hnews⟩ := h.news_cut hb1 p m hm hp
  have hcell : w.cell? ⟨b, off + (p + m - 1), none⟩ = some (.int .u8 (l.getD (p + m - 1) 0)) := by
    obtain ⟨a', c', he, hc, hn, hq⟩ := h
    injection he with e1 e2 e3
    obtain ⟨b', off', e4, _, _, hx⟩ := hq (by omega)
    rw [← e1] at e4
    injection e4 with e4
    injection e4 with e5 e6 e7
    subst e5; subst e6
    exact hx (p + m - 1) (by omega)
  have hcap : l.length ≤ c := by
    obtain ⟨a', c', he, hc, hn, hq⟩ := h
    injection he with e1 e2 e3
    omega
  obtain ⟨x, hx⟩ : ∃ x, x = l.getD (p + m - 1) 0 := ⟨_, rfl⟩
  rw [← hx] at hcell
  have hlc := cutL_len l p m hp
  obtain ⟨cs, hcs⟩ : ∃ cs, cs = (cutL l p m).map (Value.int .u8) := ⟨_, rfl⟩
  have hlen : cs.length = m := by rw [hcs]; simpa using hlc
  have hone : ∀ u ∈ cs, u.oneCell' = true := by rw [hcs]; exact ints_oneCell _ _
  rw [← hcs] at hnews
  obtain ⟨len, hle⟩ : ∃ len, len = l.length := ⟨_, rfl⟩
  rw [← hle] at hp hl hcap ⊢
  have HN := Lib.hid hnews
  have HO := Lib.hid hone
  have HC := Lib.hid hcs
  have HL := Lib.hid hlen
  have HLC := Lib.hid hlc
  have HB1 := Lib.hid hb1
  have hmk := fun wx => makeN m (by omega) wx
  have hcp : ¬ c = p := by omega
  clear hnews hone hcs hlen hb1 hlc h hx hle
  go_enter Try.func34, Try.ntmps34
  go_wp2_with (with_reducible refine wpList_copy_splice rfl (.tmp 20) (.tmp 23) 22 22 rfl 5 Try.underlying22 Try.size5 _ _ _ _ _ _ rfl rfl w.heap.size 0 (List.replicate m (Value.int .u8 0)) 5 ?c1 cs ?c2 ?c3 ?c4 HO.out w.heap.size w HB1.out (Nat.le_refl _) ?_)
  case c1 => rw [List.toArray_replicate]; exact heap_alloc_new w _
  case c2 => rw [HL.out]; exact (Nat.min_eq_right (by omega)).symm
  case c3 => exact fun h0 => HN.out
  case c4 => rw [HL.out]; simp
  rw [HL.out]
  intro w1 HG HB
  have hg : w1.heap[w.heap.size]? = some (.cells ((cutL l p m).map (Value.int .u8)).toArray 5 (0, 0)) := by
    have := HG.out
    rw [splice_all m cs _ HL.out, HC.out] at this
    exact this
  have hlt : w.heap.size < w1.heap.size := (Array.getElem?_eq_some_iff.mp hg).1
  have HB := Lib.hid HB
  have HG2 := Lib.hid hg
  clear hg HG hmk
  go_wp2_with fail
  go_ret2
  exact ⟨_, w.heap.size, rfl, .inr ⟨by rw [HLC.out]; rfl, HG2.out⟩, Nat.le_refl _, hlt, HB.out⟩

theorem cutL_none (l : List Int) (p : Nat) : cutL l p 0 = [] := by simp [cutL]

set_option maxHeartbeats 1000000 in
theorem piece_none (a : Option Addr) (len c p : Nat) (hc : len ≤ c) (hl : len ≤ 1000000) (hp : p ≤ len) (w : World) :
    Calls Try.prog 34 #[.slice a len c, .int .i64 p, .int .i64 0] w (PiecePost w [] p) := by
  have hmk := fun wx => makeN 0 (by omega) wx
  simp only [Int.natCast_zero, List.replicate_zero] at hmk
  have hbel : Below w.heap.size w (w.alloc (.cells #[] 5)) := (Below.refl _ _).alloc (Nat.le_refl _) _
  have HB := Lib.hid hbel
  clear hbel
  go_enter Try.func34, Try.ntmps34
  go_wp2_with (with_reducible refine wpList_copy_nothing rfl (.tmp 20) (.tmp 23) 22 22 rfl 5 Try.underlying22 Try.size5 _ _ _ _ _ _ rfl rfl (Nat.min_zero _) ?_)
  all_goals
    go_ret2
    exact ⟨_, w.heap.size, rfl, .inr ⟨rfl, heap_alloc_new w _⟩, Nat.le_refl _, by simp, HB.out⟩

theorem piece_fine {w : World} {lo hi c p m : Nat} {a : Option Addr} {l : List Int} (h : Sl w lo hi (.slice a l.length c) l) (hl : l.length ≤ 1000000) (hp : p + m ≤ l.length) :
    Calls Try.prog 34 #[.slice a l.length c, .int .i64 p, .int .i64 m] w (PiecePost w (cutL l p m) (p + m)) := by
  by_cases hm : 0 < m
  · exact piece_some h hl hm hp
  · obtain rfl : m = 0 := by omega
    obtain ⟨a', c', he, hc, _⟩ := h
    injection he with e1 e2 e3
    subst e3
    rw [cutL_none]
    simpa using piece_none a l.length c p hc hl (by omega) w
end Go.Proofs.Ytbfgmenjkneijaa
