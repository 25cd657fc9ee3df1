/-
  long; LentTexts, CopyTexts, SameTexts, OverTexts, KeptTexts.
-/
import Derived.Test.YtibaeklpgfadpaaTl
import Derived.Deep.RegionHeld3
import Derived.Laws.CopyOwn
namespace Go.Proofs.Ytibaeklpgfadpaa
open Go.RowKit Go.Shelf
set_option linter.unusedVariables false

/-- Has one more than 100 bytes? -/
def lng (l : List (List UInt8)) : Bool := l.any fun x => decide (100 < x.length)

set_option maxHeartbeats 400000 in
theorem long_any {w : World} {lo hi : Nat} {v : Value} {l : List (List UInt8)} (h : St w lo hi v l) (hl : l.length ≤ 1000000) : Calls Try.prog 9 #[v] w fun e w' => e = .returned (.bool (lng l)) ∧ w = w' := by
  obtain ⟨a, c, rfl, hc, hn, hp⟩ := id h
  have HS := Lib.hid h
  clear h hn hp
  go_enter Try.func9, Try.ntmps9
  go_wp2
  go_loop [3] (fun i => ∃ k : Nat, k ≤ l.length ∧ i = .int .i64 k ∧ Hid (lng (l.take k) = false)) (fun i => l.length - (intOf i).toNat)
  case atStart => exact ⟨0, by omega, rfl, by simp [Hid, lng]⟩
  case round =>
    obtain ⟨k, hk, rfl, HL⟩ := hrel
    by_cases hlt : k < l.length
    · obtain ⟨b, off, rfl, hb1, hb2, hcell⟩ := HS.out.cell (by omega)
      have hc1 := hcell k hlt
      have hget : l[k]? = some l[k] := List.getElem?_eq_getElem hlt
      have e : l.getD k [] = l[k] := by rw [List.getD, hget]; rfl
      rw [e] at hc1
      obtain ⟨y, hy⟩ : ∃ y, l[k] = y := ⟨_, rfl⟩
      rw [hy] at hc1 hget
      have et : l.take (k + 1) = l.take k ++ [y] := by rw [List.take_add_one, hget]; rfl
      have hmem : y ∈ l := List.mem_of_getElem? hget
      clear hcell e hy hget
      unfold tv at hc1
      by_cases hbig : 100 < y.length
      · have t1 : decide ((100 : Int) < y.length) = true := by simp; omega
        have HE := Lib.hid (show lng l = true by unfold lng; rw [List.any_eq_true]; exact ⟨y, hmem, by simpa using hbig⟩)
        clear et hmem
        go_wp2
        go_ret
        exact ⟨by rw [HE.out]; rfl, rfl⟩
      · have t1 : decide ((100 : Int) < y.length) = false := by simp; omega
        have HE := Lib.hid (show lng (l.take (k + 1)) = false by
          have := HL.out
          unfold lng at this ⊢
          rw [et, List.any_append, this]
          simp; omega)
        clear et hmem
        go_wp2
        go_round
        case rel => exact ⟨k + 1, by omega, by go_num, HE⟩
        case measure => simp [intOf]; omega
    · have HE := Lib.hid (show lng l = false by have := HL.out; rwa [List.take_of_length_le (by omega)] at this)
      go_wp2
      go_ret
      exact ⟨by rw [HE.out]; rfl, rfl⟩

/-! ### LentTexts -/
def lentT (l : List (List UInt8)) : List (List UInt8) := l ++ [[108, 101, 110, 116], [108, 101, 110, 116], [108, 101, 110, 116]]
theorem lentT_len (l : List (List UInt8)) : (lentT l).length = l.length + 3 := by simp [lentT]
theorem lentT_take (l : List (List UInt8)) : (lentT l).take l.length = l := by simp [lentT]
theorem lentT_mark (l : List (List UInt8)) (k : Nat) (h1 : l.length ≤ k) (h2 : k < l.length + 3) : (lentT l).getD k [] = [108, 101, 110, 116] := by
  unfold lentT
  rw [List.getD, List.getElem?_append_right h1]
  obtain rfl | rfl | rfl : k = l.length ∨ k = l.length + 1 ∨ k = l.length + 2 := by omega
  · simp
  · simp [Nat.add_sub_cancel_left]
  · simp [Nat.add_sub_cancel_left]

/-- Block g is these texts. -/
def RowT (w : World) (g : Nat) (L : List (List UInt8)) : Prop := w.heap[g]? = some (.cells (L.map tv).toArray 9 (0, 0))

/-- Of block g, c texts, the first k are those of L. -/
def PartT (w : World) (g c : Nat) (L : List (List UInt8)) (k : Nat) : Prop := ∃ l, l.length = c ∧ RowT w g l ∧ ∀ t, t < k → l.getD t [] = L.getD t []

theorem RowT.cell {w : World} {g k : Nat} {L : List (List UInt8)} (h : RowT w g L) (hk : k < L.length) : w.cell? ⟨g, k, none⟩ = some (tv (L.getD k [])) := by
  rw [World.cell?, h]
  simp [hk]
theorem RowT.frozen {w : World} {g k : Nat} {L : List (List UInt8)} (h : RowT w g L) : w.frozen? ⟨g, k, none⟩ = false := by simp [World.frozen?, RowT] at h ⊢; simp [h]
theorem RowT.set {w : World} {g k : Nat} {L : List (List UInt8)} (h : RowT w g L) (x : List UInt8) : RowT (w.setCell ⟨g, k, none⟩ (tv x)) g (L.set k x) := by
  unfold RowT at h ⊢
  simp [World.setCell, Array.getElem?_modify, h, List.map_set]

theorem PartT.cell {w : World} {g c k j : Nat} {L : List (List UInt8)} (h : PartT w g c L k) (hj : j < c) : ∃ x, w.cell? ⟨g, j, none⟩ = some (tv x) := by
  obtain ⟨l, hl, hr, _⟩ := h
  exact ⟨_, hr.cell (by omega)⟩
theorem PartT.frozen {w : World} {g c k j : Nat} {L : List (List UInt8)} (h : PartT w g c L k) : w.frozen? ⟨g, j, none⟩ = false := by
  obtain ⟨l, hl, hr, _⟩ := h
  exact hr.frozen
theorem PartT.step {w : World} {g c k : Nat} {L : List (List UInt8)} (h : PartT w g c L k) (hk : k < c) (x : List UInt8) (hx : x = L.getD k []) : PartT (w.setCell ⟨g, k, none⟩ (tv x)) g c L (k + 1) := by
  obtain ⟨l, hl, hr, ht⟩ := h
  refine ⟨l.set k x, by simpa using hl, hr.set x, fun t htk => ?_⟩
  by_cases e : t = k
  · subst e
    rw [List.getD, List.getElem?_set_self (by omega), ← hx]; rfl
  · rw [List.getD, List.getElem?_set_ne (Ne.symm e)]
    exact ht t (by omega)
theorem PartT.full {w : World} {g c : Nat} {L : List (List UInt8)} (h : PartT w g c L c) (hL : L.length = c) : RowT w g L := by
  obtain ⟨l, hl, hr, ht⟩ := h
  have : l = L := by
    apply List.ext_getElem (by omega)
    intro t h1 h2
    have := ht t (by omega)
    rw [List.getD, List.getD, List.getElem?_eq_getElem h1, List.getElem?_eq_getElem h2] at this
    exact this
  rw [← this]; exact hr
theorem PartT.start {w : World} {g m : Nat} {L l : List (List UInt8)} (hL : L.take l.length = l) (hm : l.length ≤ m)
    (h : w.heap[g]? = some (.cells (splice (List.replicate m (Value.string ⟨#[]⟩)) 0 (l.map tv)).toArray 9 (0, 0))) : PartT w g m L l.length := by
  have e : splice (List.replicate m (Value.string ⟨#[]⟩)) 0 (l.map tv) = (l ++ List.replicate (m - l.length) []).map tv := by
    simp [splice, tv, bs]
  rw [e] at h
  refine ⟨_, by simp; omega, h, fun t ht => ?_⟩
  have h1 : L[t]? = l[t]? := by
    have := congrArg (fun x : List (List UInt8) => x[t]?) hL
    simp only [List.getElem?_take, if_pos ht] at this
    exact this
  rw [List.getD, List.getD, List.getElem?_append_left ht, h1]

theorem RowT.st {w : World} {g k : Nat} {L : List (List UInt8)} (h : RowT w g L) (hk : k = L.length) : St w g (g + 1) (.slice (some ⟨g, 0, none⟩) k k) L := by
  subst hk
  exact ⟨_, _, rfl, Nat.le_refl _, fun h => by simp at h, fun _ => ⟨g, 0, rfl, Nat.le_refl _, by omega, fun j hj => by rw [Nat.zero_add]; exact h.cell hj⟩⟩
theorem RowT.head {w : World} {g : Nat} {l : List (List UInt8)} (h : RowT w g (lentT l)) : St w g (g + 1) (.slice (some ⟨g, 0, none⟩) l.length (l.length + 3)) l := by
  refine ⟨_, _, rfl, by omega, fun h => by simp at h, fun _ => ⟨g, 0, rfl, Nat.le_refl _, by omega, fun j hj => ?_⟩⟩
  rw [Nat.zero_add, h.cell (by rw [lentT_len]; omega)]
  congr 2
  unfold lentT
  rw [List.getD, List.getD, List.getElem?_append_left hj]
theorem RowT.lt {w : World} {g : Nat} {L : List (List UInt8)} (h : RowT w g L) : g < w.heap.size := (Array.getElem?_eq_some_iff.mp h).1
theorem RowT.later {w w' : World} {g : Nat} {L : List (List UInt8)} (h : RowT w g L) (hb : Below w.heap.size w w') : RowT w' g L := (hb.block g h.lt).trans h
theorem RowT.aside {w w' : World} {g : Nat} {L : List (List UInt8)} {G : Nat → Prop} (h : RowT w g L) (ha : Aside G w w') (hg : ¬ G g) : RowT w' g L := (ha.block g h.lt hg).trans h
theorem RowT.at_ {w : World} {g g' : Nat} {L : List (List UInt8)} (h : RowT w g L) (e : g = g') : RowT w g' L := e ▸ h

theorem makeT (n : Nat) (hn : n ≤ 1000000) (w : World) : (Instr.makeSlice 22 (.int .i64 n) (.int .i64 n)).run Try.prog w = .ok (.slice (some ⟨w.heap.size, 0, none⟩) n n) (w.alloc (.cells (List.replicate n (Value.string ⟨#[]⟩)).toArray 9)) := by
  obtain ⟨i0, hi, hz0, hz1, hz2⟩ := info_parts Try.infoT
  have := run_make (P := Try.prog) w 22 9 i0 (.string ⟨#[]⟩) Try.underlying22 hi hz0 .i64 .i64 n n (by omega) (by omega) (by rw [hz2]; omega) (by omega)
  rw [this, hz1, Int.toNat_natCast, Nat.mul_one]
  congr 3
  show madeCells #[.string ⟨#[]⟩] n = _
  rw [← toList_madeCells_one]

theorem St.news {w : World} {lo hi n c : Nat} {a : Option Addr} {l : List (List UInt8)} (hp : 0 < l.length → ∃ b off, a = some ⟨b, off, none⟩ ∧ lo ≤ b ∧ b < hi ∧ ∀ j, j < l.length → w.cell? ⟨b, off + j, none⟩ = some (tv (l.getD j [])))
    {w' : World} (hb : Below w.heap.size w w') (h0 : 0 < (l.map tv).length) : ∃ ad, a = some ad ∧ ∀ j u, (l.map tv)[j]? = some u → w'.cell? (ad.add j) = some u := by
  obtain ⟨b, off, rfl, _, _, hx⟩ := hp (by simpa using h0)
  refine ⟨_, rfl, fun j u hu => ?_⟩
  rw [List.getElem?_map] at hu
  obtain ⟨n, hn, rfl⟩ := Option.map_eq_some_iff.mp hu
  have hj : j < l.length := (List.getElem?_eq_some_iff.mp hn).1
  rw [WideShapes.add_plain, cell_later hb (hx j hj), List.getD, hn]; rfl

def LentTPost (w : World) (l : List (List UInt8)) (e : Ending) (w' : World) : Prop :=
  e = .returned (.slice (some ⟨w.heap.size, 0, none⟩) l.length (l.length + 3)) ∧ Below w.heap.size w w' ∧ RowT w' w.heap.size (lentT l)

set_option maxHeartbeats 1000000 in
theorem lentT_any {w : World} {lo hi : Nat} {v : Value} {l : List (List UInt8)} (h : St w lo hi v l) (hl : l.length ≤ 1000) : Calls Try.prog 10 #[v] w (LentTPost w l) := by
  obtain ⟨a, c, rfl, hc, hn, hp⟩ := h
  have hmk := fun wx => makeT (l.length + 3) (by omega) wx
  have hN : (((l.length + 3 : Nat) : Int)) = (l.length : Int) + 3 := by omega
  rw [hN] at hmk
  clear hN
  have hb1 : Below w.heap.size w (w.alloc (Obj.cells (Array.replicate (l.length + 3) (Value.string ⟨#[]⟩)) 9)) := (Below.refl _ _).alloc (Nat.le_refl _) _
  have HN := Lib.hid (St.news (n := 0) (c := 0) hp hb1)
  have HB1 := Lib.hid hb1
  clear hp hn hb1
  have hone : ∀ u ∈ l.map tv, u.oneCell' = true := texts_oneCell _
  obtain ⟨cs, hcs⟩ : ∃ cs, cs = l.map tv := ⟨_, rfl⟩
  have hlc : cs.length = l.length := by rw [hcs]; simp
  rw [← hcs] at hone HN
  have HO := Lib.hid hone
  have HC := Lib.hid hcs
  have HL := Lib.hid hlc
  clear hone hcs hlc
  go_enter Try.func10, Try.ntmps10
  go_wp2_with (with_reducible refine wpList_copy_splice rfl (.tmp 9) (.tmp 10) 22 22 rfl 9 Try.underlying22 Try.sizeT _ _ _ _ _ _ rfl rfl w.heap.size 0 (List.replicate (l.length + 3) (Value.string ⟨#[]⟩)) 9 ?c1 cs ?c2 ?c3 ?c4 HO.out w.heap.size w HB1.out (Nat.le_refl _) ?_)
  case c1 => rw [List.toArray_replicate]; exact heap_alloc_new w _
  case c2 => rw [HL.out]; exact (Nat.min_eq_left (by omega)).symm
  case c3 => exact fun h0 => HN.out h0
  case c4 => rw [HL.out]; simp
  rw [HL.out]
  intro w1 HG HB
  have HS := Lib.hid (PartT.start (m := l.length + 3) (lentT_take l) (by omega) (by rw [← HC.out]; exact HG.out))
  clear HB1 HO HC HN HL hmk
  clear HG
  have HB := Lib.hid HB
  go_wp2_with fail
  go_loopw [4] (fun i wr => ∃ k : Nat, l.length ≤ k ∧ k ≤ l.length + 3 ∧ i = .int .i64 k ∧ Hid (PartT wr w.heap.size (l.length + 3) (lentT l) k) ∧ Hid (Below w.heap.size w wr)) (fun i _ => l.length + 3 - (intOf i).toNat)
  case atStart => exact ⟨l.length, by omega, by omega, rfl, HS, HB⟩
  case round =>
    obtain ⟨k, hk0, hk, rfl, HP, HB⟩ := hrel
    by_cases hlt : k < l.length + 3
    · obtain ⟨x, hx⟩ := HP.out.cell hlt
      have hf := HP.out.frozen (j := k)
      have HM := Lib.hid (HP.out.step hlt [108, 101, 110, 116] (lentT_mark l k hk0 hlt).symm)
      go_wp2
      go_roundw
      case rel => exact ⟨k + 1, by omega, by omega, by go_num, HM, Lib.hid (HB.out.setCell (Nat.le_refl _) _)⟩
      case measure => simp [intOf]; omega
    · obtain rfl : k = l.length + 3 := by omega
      have HF := Lib.hid (HP.out.full (lentT_len l))
      go_wp2
      go_ret
      exact ⟨rfl, HB.out, HF.out⟩
end Go.Proofs.Ytibaeklpgfadpaa
