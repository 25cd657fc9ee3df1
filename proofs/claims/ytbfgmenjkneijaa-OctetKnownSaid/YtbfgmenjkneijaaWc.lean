/-
  LentBytes: a copy of the bytes, with three marks behind it, in a new block.
-/
import Derived.Test.YtbfgmenjkneijaaWb

import Derived.Laws.CopyOwn
namespace Go.Proofs.Ytbfgmenjkneijaa
open Go.RowKit
set_option linter.unusedVariables false

/-- Of block g, c bytes, the first k are those of L. -/
def Part (w : World) (g c : Nat) (L : List Int) (k : Nat) : Prop := BytesAt w g c ∧ ∀ t, t < k → w.cell? ⟨g, t, none⟩ = some (.int .u8 (L.getD t 0))

theorem Part.step {w : World} {g c k : Nat} {L : List Int} (h : Part w g c L k) (hk : k < c) (x : Int) (hx : x = L.getD k 0) : Part (w.setCell ⟨g, k, none⟩ (.int .u8 x)) g c L (k + 1) := by
  refine ⟨h.1.set _, fun t ht => ?_⟩
  by_cases e : t = k
  · subst e
    obtain ⟨y, hy⟩ := h.1.cell hk
    rw [World.cell?_setCell_same _ _ _ hy, hx]
  · rw [World.cell?_setCell_other _ _ _ _ (by first | (simp; done) | (simp; omega))]
    exact h.2 t (by omega)
theorem Part.full {w : World} {g c : Nat} {L : List Int} (h : Part w g c L c) (hL : L.length = c) : w.heap[g]? = some (.cells (L.map (Value.int .u8)).toArray 5 (0, 0)) := by
  obtain ⟨⟨l, hl, hg⟩, hc⟩ := h
  have : l = L := by
    apply List.ext_getElem (by omega)
    intro t h1 h2
    have := hc t (by omega)
    rw [World.cell?, hg] at this
    simpa [h1, h2] using this
  rw [← this]; exact hg
theorem Part.start {w : World} {g m : Nat} {L l : List Int} (hL : L.take l.length = l) (hm : l.length ≤ m)
    (h : w.heap[g]? = some (.cells (splice (List.replicate m (Value.int .u8 0)) 0 (l.map (Value.int .u8))).toArray 5 (0, 0))) : Part w g m L l.length := by
  have e : splice (List.replicate m (Value.int .u8 0)) 0 (l.map (Value.int .u8)) = (l ++ List.replicate (m - l.length) 0).map (Value.int .u8) := by
    simp [splice]
  rw [e] at h
  refine ⟨⟨_, by simp; omega, h⟩, fun t ht => ?_⟩
  rw [World.cell?, h]
  have h1 : L.getD t 0 = l[t] := by
    have := congrArg (fun x : List Int => x[t]?) hL
    simp only [List.getElem?_take, if_pos ht, List.getElem?_eq_getElem ht] at this
    simp [List.getD, this]
  rw [h1]
  simp [ht, List.getElem?_append]

/-- What LentBytes lends: the bytes, and three marks behind them. -/
def lentL (l : List Int) : List Int := l ++ [160 + (l.length : Int) % 90, 160 + ((l.length : Int) + 1) % 90, 160 + ((l.length : Int) + 2) % 90]
theorem lentL_len (l : List Int) : (lentL l).length = l.length + 3 := by simp [lentL]
theorem lentL_take (l : List Int) : (lentL l).take l.length = l := by simp [lentL]
theorem lentL_mark (l : List Int) (k : Nat) (h1 : l.length ≤ k) (h2 : k < l.length + 3) : (lentL l).getD k 0 = 160 + (k : Int) % 90 := by
  unfold lentL
  rw [List.getD, List.getElem?_append_right h1]
  obtain rfl | rfl | rfl : k = l.length ∨ k = l.length + 1 ∨ k = l.length + 2 := by omega
  · simp
  · simp [Nat.add_sub_cancel_left]
  · simp [Nat.add_sub_cancel_left]

/-- Block g is lent: the bytes l, and the marks. -/
def LentAt (w : World) (g : Nat) (l : List Int) : Prop := w.heap[g]? = some (.cells ((lentL l).map (Value.int .u8)).toArray 5 (0, 0))
def LentPost (w : World) (l : List Int) (e : Ending) (w' : World) : Prop :=
  e = .returned (.slice (some ⟨w.heap.size, 0, none⟩) l.length (l.length + 3)) ∧ Below w.heap.size w w' ∧ LentAt w' w.heap.size l

theorem Sl.news {w : World} {lo hi n c : Nat} {a : Option Addr} {l : List Int} (hp : 0 < l.length → ∃ b off, a = some ⟨b, off, none⟩ ∧ lo ≤ b ∧ b < hi ∧ ∀ j, j < l.length → w.cell? ⟨b, off + j, none⟩ = some (.int .u8 (l.getD j 0)))
    {w' : World} (hb : Below w.heap.size w w') (h0 : 0 < (l.map (Value.int .u8)).length) : ∃ ad, a = some ad ∧ ∀ j u, (l.map (Value.int .u8))[j]? = some u → w'.cell? (ad.add j) = some u := by
  obtain ⟨b, off, rfl, _, _, hx⟩ := hp (by simpa using h0)
  refine ⟨_, rfl, fun j u hu => ?_⟩
  rw [List.getElem?_map] at hu
  obtain ⟨n, hn, rfl⟩ := Option.map_eq_some_iff.mp hu
  have hj : j < l.length := (List.getElem?_eq_some_iff.mp hn).1
  rw [WideShapes.add_plain, cell_later hb (hx j hj), List.getD, hn]; rfl

set_option maxHeartbeats 1000000 in
theorem lent_any {w : World} {lo hi : Nat} {v : Value} {l : List Int} (h : Sl w lo hi v l) (hl : l.length ≤ 1000) : Calls Try.prog 15 #[v] w (LentPost w l) := by
  obtain ⟨a, c, rfl, hc, hn, hp⟩ := h
  have hmk := fun wx => makeN (l.length + 3) (by omega) wx
  have hN : (((l.length + 3 : Nat) : Int)) = (l.length : Int) + 3 := by omega
  rw [hN] at hmk
  clear hN
  have hb1 : Below w.heap.size w (w.alloc (Obj.cells (Array.replicate (l.length + 3) (Value.int IntKind.u8 0)) 5)) := (Below.refl _ _).alloc (Nat.le_refl _) _
  have HN := Lib.hid (Sl.news (n := 0) (c := 0) hp hb1)
  have HB1 := Lib.hid hb1
  clear hp hn hb1
  have hone : ∀ u ∈ l.map (Value.int .u8), u.oneCell' = true := ints_oneCell _ _
  obtain ⟨cs, hcs⟩ : ∃ cs, cs = l.map (Value.int .u8) := ⟨_, rfl⟩
  have hlc : cs.length = l.length := by rw [hcs]; simp
  rw [← hcs] at hone HN
  have HO := Lib.hid hone
  have HC := Lib.hid hcs
  have HL := Lib.hid hlc
  clear hone hcs hlc
  go_enter Try.func15, Try.ntmps15
  go_wp2_with (with_reducible refine wpList_copy_splice rfl (.tmp 9) (.tmp 10) 22 22 rfl 5 Try.underlying22 Try.size5 _ _ _ _ _ _ rfl rfl w.heap.size 0 (List.replicate (l.length + 3) (Value.int .u8 0)) 5 ?c1 cs ?c2 ?c3 ?c4 HO.out w.heap.size w HB1.out (Nat.le_refl _) ?_)
  case c1 => rw [List.toArray_replicate]; exact heap_alloc_new w _
  case c2 => rw [HL.out]; exact (Nat.min_eq_left (by omega)).symm
  case c3 => exact fun h0 => HN.out h0
  case c4 => rw [HL.out]; simp
  rw [HL.out]
  intro w1 HG HB
  have HS := Lib.hid (Part.start (m := l.length + 3) (lentL_take l) (by omega) (by rw [← HC.out]; exact HG.out))
  clear HB1 HO HC HN HL hmk
  clear HG
  have HB := Lib.hid HB
  go_wp2_with fail
  go_loopw [4] (fun i wr => ∃ k : Nat, l.length ≤ k ∧ k ≤ l.length + 3 ∧ i = .int .i64 k ∧ Hid (Part wr w.heap.size (l.length + 3) (lentL l) k) ∧ Hid (Below w.heap.size w wr)) (fun i _ => l.length + 3 - (intOf i).toNat)
  case atStart => exact ⟨l.length, by omega, by omega, rfl, HS, HB⟩
  case round =>
    obtain ⟨k, hk0, hk, rfl, HP, HB⟩ := hrel
    by_cases hlt : k < l.length + 3
    · obtain ⟨x, hx⟩ := HP.out.1.cell hlt
      have hf := HP.out.1.frozen (k := k)
      have HM := Lib.hid (lentL_mark l k hk0 hlt)
      go_wp2
      go_roundw
      case rel => exact ⟨k + 1, by omega, by omega, by go_num, Lib.hid (HP.out.step hlt _ (by rw [HM.out])), Lib.hid (HB.out.setCell (Nat.le_refl _) _)⟩
      case measure => simp [intOf]; omega
    · obtain rfl : k = l.length + 3 := by omega
      have HF := Lib.hid (HP.out.full (lentL_len l))
      go_wp2
      go_ret
      exact ⟨rfl, HB.out, HF.out⟩
end Go.Proofs.Ytbfgmenjkneijaa
