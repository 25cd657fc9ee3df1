/-
  LentBytes: a copy, with three marks behind it.
-/
import Derived.Test.YtckmjpnkjnihlaaBWords
import Derived.Laws.CopyOwn
namespace Go.Proofs.Ytckmjpnkjnihlaa
open Go.RowKit
set_option linter.unusedVariables false
set_option maxRecDepth 100000

/-- What LentBytes lends: the bytes, and three marks behind them. -/
def lentL (l : List Int) : List Int := l ++ [160 + (l.length : Int) % 90, 160 + ((l.length : Int) + 1) % 90, 160 + ((l.length : Int) + 2) % 90]

theorem lentL_len (l : List Int) : (lentL l).length = l.length + 3 := by simp [lentL]

theorem lentL_take (l : List Int) : (lentL l).take l.length = l := by simp [lentL]

theorem lentL_mark (l : List Int) (k : Nat) (h1 : l.length ≤ k) (h2 : k < l.length + 3) : (lentL l).getD k 0 = 160 + (k : Int) % 90 := by
  unfold lentL
  rw [List.getD, List.getElem?_append_right h1]
  obtain rfl | rfl | rfl : k = l.length ∨ k = l.length + 1 ∨ k = l.length + 2 := by omega
  · simp
  · simp [Nat.add_sub_cancel_left]
  · simp [Nat.add_sub_cancel_left]

/-- Block g is lent: the bytes l, and the marks. -/
def LentAt (w : World) (g : Nat) (l : List Int) : Prop := w.heap[g]? = some (.cells ((lentL l).map (Value.int .u8)).toArray 5 (0, 0))

def LentPost (w : World) (l : List Int) (e : Ending) (w' : World) : Prop :=
  e = .returned (.slice (some ⟨w.heap.size, 0, none⟩) l.length (l.length + 3)) ∧ Below w.heap.size w w' ∧ LentAt w' w.heap.size l

set_option maxHeartbeats 1000000 in
theorem lent_any {w : World} {lo hi : Nat} {v : Value} {l : List Int} (h : Sl w lo hi v l) (hl : l.length ≤ 100000) : Calls Try.prog 7 #[v] w (LentPost w l) := by
  obtain ⟨a, c, rfl, hc, hn, hp⟩ := h
  have hmk := fun wx => makeN (l.length + 3) (by omega) wx
  have hN : (((l.length + 3 : Nat) : Int)) = (l.length : Int) + 3 := by omega
  rw [hN] at hmk
  clear hN
  have hb1 : Below w.heap.size w (w.alloc (Obj.cells (Array.replicate (l.length + 3) (Value.int IntKind.u8 0)) 5)) := (Below.refl _ _).alloc (Nat.le_refl _) _
  have HN := Lib.hid (Sl.news (n := 0) (c := 0) hp hb1)
  have HB1 := Lib.hid hb1
  clear hp hn hb1
  have hone : ∀ u ∈ l.map (Value.int .u8), u.oneCell' = true := ints_oneCell _ _
  obtain ⟨cs, hcs⟩ : ∃ cs, cs = l.map (Value.int .u8) := ⟨_, rfl⟩
  have hlc : cs.length = l.length := by rw [hcs]; simp
  rw [← hcs] at hone HN
  have HO := Lib.hid hone
  have HC := Lib.hid hcs
  have HL := Lib.hid hlc
  clear hone hcs hlc
  go_enter Try.func7, Try.ntmps7
  go_wp2_with (with_reducible refine wpList_copy_splice rfl (.tmp 9) (.tmp 10) 22 22 rfl 5 Try.underlying22 Try.size5 _ _ _ _ _ _ rfl rfl w.heap.size 0 (List.replicate (l.length + 3) (Value.int .u8 0)) 5 ?c1 cs ?c2 ?c3 ?c4 HO.out w.heap.size w HB1.out (Nat.le_refl _) ?_)
  case c1 => rw [List.toArray_replicate]; exact heap_alloc_new w _
  case c2 => rw [HL.out]; exact (Nat.min_eq_left (by omega)).symm
  case c3 => exact fun h0 => HN.out h0
  case c4 => rw [HL.out]; simp
  rw [HL.out]
  intro w1 HG HB
  have HS := Lib.hid (Part.start (m := l.length + 3) (lentL_take l) (by omega) (by rw [← HC.out]; exact HG.out))
  clear HB1 HO HC HN HL hmk
  clear HG
  have HB := Lib.hid HB
  go_wp2_with fail
  go_loopw [4] (fun i wr => ∃ k : Nat, l.length ≤ k ∧ k ≤ l.length + 3 ∧ i = .int .i64 k ∧ Hid (Part wr w.heap.size (l.length + 3) (lentL l) k) ∧ Hid (Below w.heap.size w wr)) (fun i _ => l.length + 3 - (intOf i).toNat)
  case atStart => exact ⟨l.length, by omega, by omega, rfl, HS, HB⟩
  case round =>
    obtain ⟨k, hk0, hk, rfl, HP, HB⟩ := hrel
    by_cases hlt : k < l.length + 3
    · obtain ⟨x, hx⟩ := HP.out.1.cell hlt
      have hf := HP.out.1.frozen (k := k)
      have HM := Lib.hid (lentL_mark l k hk0 hlt)
      go_wp2
      go_roundw
      case rel => exact ⟨k + 1, by omega, by omega, by go_num, Lib.hid (HP.out.step hlt _ (by rw [HM.out])), Lib.hid (HB.out.setCell (Nat.le_refl _) _)⟩
      case measure => simp [intOf]; omega
    · obtain rfl : k = l.length + 3 := by omega
      have HF := Lib.hid (HP.out.full (lentL_len l))
      go_wp2
      go_ret
      exact ⟨rfl, HB.out, HF.out⟩

theorem LentAt.sl {w : World} {g : Nat} {l : List Int} (h : LentAt w g l) : Sl w g (g + 1) (.slice (some ⟨g, 0, none⟩) (l.length + 3) (l.length + 3)) (lentL l) := by
  have := Own.sl (g := g) (l := lentL l) (w := w) (.inr ⟨rfl, h⟩)
  rw [lentL_len] at this
  exact this

theorem LentAt.slk {w : World} {g k : Nat} {l : List Int} (h : LentAt w g l) (hk : k = l.length + 3) : Sl w g (g + 1) (.slice (some ⟨g, 0, none⟩) k k) (lentL l) := by
  subst hk; exact h.sl

theorem LentAt.at_ {w : World} {g g' : Nat} {l : List Int} (h : LentAt w g l) (e : g = g') : LentAt w g' l := e ▸ h

theorem LentAt.later {w w' : World} {g : Nat} {l : List Int} (h : LentAt w g l) (hb : Below w.heap.size w w') (hg : g < w.heap.size) : LentAt w' g l := (hb.block g hg).trans h

theorem lent_n {w : World} {lo hi n c : Nat} {a : Option Addr} {l : List Int} (h : Sl w lo hi (.slice a n c) l) (hl : n ≤ 100000) (hn : n = l.length) (q : Nat) (hq : q = n + 3) :
    Calls Try.prog 7 #[.slice a n c] w fun e w' => e = .returned (.slice (some ⟨w.heap.size, 0, none⟩) n q) ∧ Below w.heap.size w w' ∧ LentAt w' w.heap.size l := by
  subst hn; subst hq
  exact lent_any h hl

theorem LentAt.lt {w : World} {g : Nat} {l : List Int} (h : LentAt w g l) : g < w.heap.size := (Array.getElem?_eq_some_iff.mp h).1

theorem LentAt.only {w w' : World} {g k : Nat} {l : List Int} (h : LentAt w g l) (ho : Only k w w') (hg : g ≠ k) : LentAt w' g l := (ho.2.2.2.2 g hg).trans h

theorem LentAt.later' {w w' : World} {g : Nat} {l : List Int} (h : LentAt w g l) (hb : Below w.heap.size w w') : LentAt w' g l := h.later hb h.lt

/-- What was lent reads as the bytes. -/
theorem LentAt.in_ {w : World} {g : Nat} {l : List Int} (h : LentAt w g l) : Sl w g (g + 1) (.slice (some ⟨g, 0, none⟩) l.length (l.length + 3)) l := by
  obtain ⟨a, c, he, hc, hn, hp⟩ := h.sl
  injection he with e1 e2 e3
  refine ⟨_, _, rfl, by omega, fun h => by simp at h, fun h0 => ?_⟩
  obtain ⟨b, off, e4, h1, h2, hx⟩ := hp (by rw [lentL_len]; omega)
  rw [← e1] at e4
  injection e4 with e4
  injection e4 with e5 e6 e7
  subst e5; subst e6
  refine ⟨g, 0, rfl, h1, h2, fun j hj => ?_⟩
  rw [hx j (by rw [lentL_len]; omega)]
  congr 2
  unfold lentL
  rw [List.getD, List.getD, List.getElem?_append_left hj]
end Go.Proofs.Ytckmjpnkjnihlaa
