/-
  Rows of bytes of the call's own, made by append or out of a text: nothing of them is frozen, what lies behind their length is zeros.
-/
import Derived.Test.YtdikgjbpjdnodaaGreatT03
import Derived.Test.YtdikgjbpjdnodaaGreatT00
import Derived.Deep.RegionHeld3
import Derived.Maps.OwnSet
import Derived.LaidEqlPtr
import Derived.Outline
import Derived.Deep.LoopGhost
import Derived.BigQuiet
namespace Go.Proofs.YtdikgjbpjdnodaaGreat
open Go.RowKit Go.Shelf
set_option linter.unusedVariables false
set_option maxRecDepth 100000

/-- The bytes l, then zeros up to the capacity. -/
def rowB (l : List UInt8) (cap : Nat) : List Value := ub l ++ List.replicate (cap - l.length) (.int .u8 0)

theorem ub_len (l : List UInt8) : (ub l).length = l.length := by simp [ub]
theorem ub_iz (l : List UInt8) : ub l = (iz l).map (Value.int .u8) := by unfold ub iz; rw [List.map_map]; rfl
theorem ub_app (a b : List UInt8) : ub (a ++ b) = ub a ++ ub b := List.map_append
theorem rowB_len {l : List UInt8} {cap : Nat} (h : l.length ≤ cap) : (rowB l cap).length = cap := by unfold rowB; rw [List.length_append, ub_len, List.length_replicate]; omega
theorem rowB_get {l : List UInt8} {cap j : Nat} (h : j < l.length) : (rowB l cap)[j]? = some (.int .u8 ((l.getD j 0).toNat : Nat)) := by
  unfold rowB
  rw [List.getElem?_append_left (by rw [ub_len]; exact h), ub, List.getElem?_map, List.getElem?_eq_getElem h, List.getD, List.getElem?_eq_getElem h]
  rfl

/-- v is nil, or such a row, in a block from B on. -/
def OwnB (w : World) (B : Nat) (v : Value) (l : List UInt8) : Prop :=
  (v = .slice none 0 0 ∧ l = []) ∨ ∃ g cap, ∃ fz : Nat × Nat, v = .slice (some ⟨g, 0, none⟩) l.length cap ∧ B ≤ g ∧ l.length ≤ cap ∧ cap ≤ maxLen ∧ (fz.2 = 0 ∨ cap ≤ fz.1) ∧ w.heap[g]? = some (.cells (rowB l cap).toArray 5 fz)

section
variable {w w' : World} {B B' : Nat} {v : Value} {l : List UInt8} {G : Nat → Prop}
theorem OwnB.nil (w : World) (B : Nat) : OwnB w B (.slice .none 0 0) [] := .inl ⟨rfl, rfl⟩
theorem OwnB.lt (h : OwnB w B v l) : ∀ k, v.ownBlock = some k → B ≤ k ∧ k < w.heap.size := by
  intro k hk
  rcases h with ⟨rfl, _⟩ | ⟨g, cap, fz, rfl, hB, _, _, _, hg⟩
  · simp [Value.ownBlock] at hk
  · simp [Value.ownBlock] at hk
    subst hk
    exact ⟨hB, (Array.getElem?_eq_some_iff.1 hg).1⟩
theorem OwnB.aside (h : OwnB w B v l) (ha : Aside G w w') (hG : ∀ b, v.ownBlock = some b → ¬ G b) : OwnB w' B v l := by
  have hlt := h.lt
  rcases h with h2 | ⟨g, cap, fz, hv, hg, h1, h2, h3, hh⟩
  · exact .inl h2
  · exact .inr ⟨g, cap, fz, hv, hg, h1, h2, h3, (ha.block g (by subst hv; exact (hlt g rfl).2) (hG g (by rw [hv]; rfl))).trans hh⟩
theorem OwnB.mono (h : OwnB w B v l) (hB : B' ≤ B) : OwnB w B' v l := by
  rcases h with h2 | ⟨g, cap, fz, hv, hg, r⟩
  · exact .inl h2
  · exact .inr ⟨g, cap, fz, hv, Nat.le_trans hB hg, r⟩
theorem OwnB.below (h : OwnB w B v l) (hb : Below w.heap.size w w') : OwnB w' B v l := h.aside (G := fun _ => False) (Aside.of_all hb) fun _ _ h => h
theorem OwnB.shape (h : OwnB w B v l) : ∃ a c, v = .slice a l.length c := by
  rcases h with ⟨rfl, rfl⟩ | ⟨g, cap, fz, rfl, _⟩
  · exact ⟨none, 0, rfl⟩
  · exact ⟨_, cap, rfl⟩
theorem OwnB.cells (h : OwnB w B v l) {g : Nat} (hg : v.ownBlock = some g) : ∀ j, j < l.length → w.cell? ⟨g, j, none⟩ = some (.int .u8 ((l.getD j 0).toNat : Nat)) := by
  intro j hj
  rcases h with ⟨rfl, _⟩ | ⟨g', cap, fz, rfl, _, _, _, _, hh⟩
  · simp [Value.ownBlock] at hg
  · simp [Value.ownBlock] at hg
    subst hg
    rw [World.cell?, hh]
    simpa using rowB_get (cap := cap) hj
theorem OwnB.some_ (h : OwnB w B v l) (h0 : 0 < l.length) : ∃ g c, v = .slice (some ⟨g, 0, none⟩) l.length c ∧ v.ownBlock = some g := by
  rcases h with ⟨rfl, rfl⟩ | ⟨g, cap, fz, rfl, _⟩
  · simp at h0
  · exact ⟨g, cap, rfl, rfl⟩
theorem OwnB.sl (h : OwnB w B v l) : Sl w B w.heap.size v (iz l) := by
  have hlt := h.lt
  have hc := fun g hg => h.cells (g := g) hg
  rcases h with ⟨rfl, rfl⟩ | ⟨g, cap, fz, rfl, hB, hl, _, _, hh⟩
  · exact ⟨none, 0, rfl, by simp [iz], fun _ => rfl, fun h => by simp [iz] at h⟩
  · refine ⟨some ⟨g, 0, none⟩, cap, by rw [iz_len], by rw [iz_len]; exact hl, fun h => by simp at h, fun _ => ⟨g, 0, rfl, hB, (hlt g rfl).2, fun j hj => ?_⟩⟩
    rw [iz_len] at hj
    rw [Nat.zero_add, hc g rfl j hj, iz_get l j hj, List.getD, List.getElem?_eq_getElem hj]
    rfl
theorem OwnB.of_own {g : Nat} (h : Own w g v (iz l)) (hl : l.length ≤ 1000000) : OwnB w g v l := by
  rcases h with ⟨h1, h2⟩ | ⟨h1, h2⟩
  · exact .inl ⟨h1, by have := congrArg List.length h2; rw [iz_len] at this; exact List.eq_nil_of_length_eq_zero this⟩
  · rw [iz_len] at h1
    refine .inr ⟨g, l.length, (0, 0), h1, Nat.le_refl _, Nat.le_refl _, by unfold maxLen; omega, .inl rfl, ?_⟩
    rw [h2, rowB, Nat.sub_self, List.replicate_zero, List.append_nil, ub_iz]
end

/-- A text as bytes. -/
theorem conv_B (w : World) (s : List UInt8) (hs : s.length ≤ 1000000) : ∃ cap W, (convert 9 28 (.string (bs s))).run Tryz.prog w = .ok (.slice (some ⟨w.heap.size, 0, none⟩) s.length cap) W ∧ OwnB W w.heap.size (.slice (some ⟨w.heap.size, 0, none⟩) s.length cap) s ∧ Below w.heap.size w W ∧ w.heap.size < W.heap.size := by
  have h := run_bytes_of_string (P := Tryz.prog) w 9 28 5 (bs s) Tryz.underlying9 Tryz.underlying28 Tryz.underlying5
  rw [bs_size] at h
  have hge := grownCap_ge w s.length 0 5
  have hlist : (bytesRow (bs s) (grownCap w s.length 0 5)) = (rowB s (grownCap w s.length 0 5)).toArray := by
    unfold bytesRow rowB ub
    rw [bs_size]
    simp [bs]
  have hsz : (rowB s (grownCap w s.length 0 5)).toArray.size = grownCap w s.length 0 5 := by simp only [List.size_toArray, rowB_len hge]
  rw [hlist, hsz] at h
  exact ⟨_, _, h, .inr ⟨w.heap.size, grownCap w s.length 0 5, (grownCap w s.length 0 5, grownCap w s.length 0 5 + 1), rfl, Nat.le_refl _, hge, grownCap_le_maxLen w s.length 0 5 (by unfold maxLen; omega), .inr (Nat.le_refl _), heap_alloc_new w.drew _⟩, (Below.refl _ w).drew.alloc (Nat.le_refl _) _, by simp⟩

/-- Cells written into a row that is marked behind its end. -/
theorem store_marked (P : Program) (g t : Nat) (fz : Nat × Nat) : ∀ (vs : List Value) (o i : Nat) (cur : Array Value) (w : World), w.heap[g]? = some (.cells cur t fz) → (fz.2 = 0 ∨ cur.size ≤ fz.1) → o + i + vs.length ≤ cur.size → (∀ x ∈ vs, x.oneCell' = true) →
    (storeCells ⟨g, o, none⟩ vs i).run P w = .ok () (w.setRow g (cur.toList.take (o + i) ++ vs ++ cur.toList.drop (o + i + vs.length)).toArray) := by
  intro vs
  induction vs with
  | nil =>
    intro o i cur w hg _ _ _
    have : cur.toList.take (o + i) ++ [] ++ cur.toList.drop (o + i + ([] : List Value).length) = cur.toList := by simp
    rw [this, Array.toArray_toList, setRow_self w g cur t fz hg]
    rfl
  | cons x r ih =>
    intro o i cur w hg hz hl h1
    rw [List.length_cons] at hl
    have hlt : o + i < cur.size := by omega
    have hx : w.cell? ⟨g, o + i, none⟩ = some cur[o + i] := by simp [World.cell?, hg, hlt]
    have hf : w.frozen? ⟨g, o + i, none⟩ = false := by
      have : ¬ (fz.1 ≤ o + i ∧ o + i < fz.2) := by omega
      simp only [World.frozen?, hg]
      simpa using this
    have hstep : (store ((⟨g, o, none⟩ : Addr).add i) x).run P w = .ok () (w.setRow g (cur.setIfInBounds (o + i) x)) := by
      rw [WideShapes.add_plain, run_store P w _ x _ (h1 x List.mem_cons_self), hx]
      simp [hf, setCell_eq_setRow w g (o + i) cur t fz x hg]
    have hrest := ih o (i + 1) (cur.setIfInBounds (o + i) x) _ (setRow_heap w g cur _ t fz hg) (by simpa using hz) (by simp; omega) (fun y hy => h1 y (List.mem_cons_of_mem _ hy))
    have hlist : (cur.setIfInBounds (o + i) x).toList.take (o + (i + 1)) ++ r ++ (cur.setIfInBounds (o + i) x).toList.drop (o + (i + 1) + r.length) = cur.toList.take (o + i) ++ (x :: r) ++ cur.toList.drop (o + i + (r.length + 1)) := by
      rw [Array.toList_setIfInBounds]
      have hl2 : o + i < cur.toList.length := by simpa using hlt
      rw [show o + (i + 1) = o + i + 1 by omega, List.take_set, List.drop_set_of_lt (by omega), List.take_add_one, List.getElem?_eq_getElem hl2]
      rw [List.set_append_right _ _ (by rw [List.length_take]; omega)]
      have hl3 : cur.toList.length = cur.size := Array.length_toList
      have e1 : o + i - (cur.toList.take (o + i)).length = 0 := by rw [List.length_take]; omega
      rw [e1, Option.toList_some, List.set_cons_zero, List.append_assoc, List.append_assoc, List.append_assoc, List.singleton_append]
      congr 4
      omega
    simp only [storeCells, Sem.run_bind, hstep, Result.andThen_ok, hrest, setRow_setRow, hlist, List.length_cons]

/-- append of bytes, as it runs. -/
theorem run_appB {w : World} (B : Nat) (v xv : Value) (l l' : List UInt8) {lo hi : Nat} (hown : OwnB w B v l) (hx : Sl w lo hi xv (iz l')) (h0 : 0 < l'.length) (hb : l.length + l'.length ≤ 1000000) (hB : B ≤ w.heap.size) :
    ∃ v' w', (Builtin.append_ #[28, 28] 28 #[v, xv]).run Tryz.prog w = .ok v' w' ∧ OwnB w' B v' (l ++ l') ∧ w.grownBy w' v.ownBlock ∧ (v'.ownBlock = v.ownBlock ∨ v'.ownBlock = some w.heap.size) := by
  obtain ⟨i0, hi, hz0, hz1, hz2⟩ := info_parts Tryz.info5
  obtain ⟨ad, c, rfl, hc, hn, hp⟩ := hx
  rw [iz_len] at hc hp
  rw [iz_len]
  obtain ⟨g', off, rfl, _, _, hcell⟩ := hp h0
  have hnews : ∀ j u, (ub l')[j]? = some u → w.cell? ((⟨g', off, none⟩ : Addr).add j) = some u := by
    intro j u hu
    have hj : j < l'.length := by have := (List.getElem?_eq_some_iff.mp hu).1; rwa [ub_len] at this
    rw [WideShapes.add_plain, hcell j hj, iz_get l' j hj]
    rw [ub, List.getElem?_map, List.getElem?_eq_getElem hj] at hu
    exact hu
  have hm : (ub l').length = l'.length := ub_len _
  have fin : ∀ (need cap : Nat), l.length + l'.length ≤ cap → cap ≤ maxLen → ∀ W, W.heap[w.heap.size]? = some (.cells (ub l ++ ub l' ++ List.replicate (cap - (l.length + l'.length)) (Value.int .u8 0)).toArray 5 (0, 0)) →
      OwnB W B (.slice (some ⟨w.heap.size, 0, none⟩) (l.length + l'.length) cap) (l ++ l') := fun need cap h1 h2 W hW => by
    refine .inr ⟨w.heap.size, cap, (0, 0), by rw [List.length_append], hB, by rw [List.length_append]; exact h1, h2, .inl rfl, ?_⟩
    rw [hW, rowB, ub_app, List.length_append]
  rcases hown with ⟨rfl, rfl⟩ | ⟨g, cap, fz, rfl, hbg, hlc, hcm, hfz, hg⟩
  · have hr := run_append_nil (P := Tryz.prog) w 28 28 5 i0 (.int .u8 0) Tryz.underlying28 hi hz0 ⟨g', off, none⟩ l'.length c (ub l') (by rw [hz1, hm]; omega) hnews (by omega) (by simp at hb; omega) (by rw [hz2]; simp at hb; omega)
    have hge := grownCap_ge w l'.length 0 5
    have h := fin 0 (grownCap w l'.length 0 5) (by simpa using hge) (grownCap_le_maxLen w l'.length 0 5 (by simp at hb; unfold maxLen; omega)) (w.drew.alloc (.cells (ub l' ++ List.replicate (grownCap w l'.length 0 5 - l'.length) (Value.int .u8 0)).toArray 5)) (by
      refine (heap_alloc_new w.drew _).trans ?_
      simp [ub])
    simp only [List.length_nil, Nat.zero_add] at h
    refine ⟨_, _, hr, ?_, ⟨rfl, rfl, rfl, by simp, fun k hk _ => Below.heap_alloc w.drew _ _ hk⟩, .inr rfl⟩
    rw [zeroCells_one _ rfl]
    simp only [List.append_toArray]
    exact h
  · by_cases hroom : l.length + l'.length ≤ cap
    · have hf := run_firstCells_some (P := Tryz.prog) w i0.size l'.length ⟨g', off, none⟩ l'.length c (ub l') (by rw [hz1, hm]; omega) hnews
      have hst := store_marked Tryz.prog g 5 fz (ub l') (l.length * i0.size) 0 _ w hg (by simpa [rowB_len hlc] using hfz) (by simp [rowB_len hlc, hz1, hm]; omega) (ub_one _)
      have hlist : (rowB l cap).toArray.toList.take (l.length * i0.size + 0) ++ ub l' ++ (rowB l cap).toArray.toList.drop (l.length * i0.size + 0 + (ub l').length) = rowB (l ++ l') cap := by
        rw [hz1, hm]
        unfold rowB
        simp only [Nat.mul_one, Nat.add_zero]
        rw [List.take_left' (ub_len l), ub_app, List.length_append, List.append_assoc, List.append_assoc, List.drop_append, List.drop_eq_nil_of_le (by rw [ub_len]; omega), List.nil_append, List.drop_replicate, ub_len]
        congr 3
        omega
      rw [hlist] at hst
      refine ⟨.slice (some ⟨g, 0, none⟩) (l.length + l'.length) cap, w.setRow g (rowB (l ++ l') cap).toArray, ?_, .inr ⟨g, cap, fz, by rw [List.length_append], hbg, by rw [List.length_append]; exact hroom, hcm, hfz, setRow_heap w g _ _ 5 fz hg⟩, ⟨rfl, rfl, rfl, by simp, fun k _ hk => setRow_other w g k _ (fun e => hk (by simp [Value.ownBlock, e]))⟩, .inl rfl⟩
      simp [Builtin.append_, run_underlying Tryz.underlying28, sizeOf, typeInfo, hi, Builtin.lenOf, hroom, hf, Addr.add_lit, hst]
    · have holds : ∀ j u, (ub l)[j]? = some u → w.cell? ((⟨g, 0, none⟩ : Addr).add j) = some u := fun j u hu => by
        have hj : j < l.length := by have := (List.getElem?_eq_some_iff.mp hu).1; rwa [ub_len] at this
        rw [WideShapes.add_plain, Nat.zero_add, World.cell?, hg]
        simp [rowB, List.getElem?_append_left (show j < (ub l).length by rw [ub_len]; exact hj), hu]
      have hr := run_append_grow (P := Tryz.prog) w 28 28 5 i0 (.int .u8 0) Tryz.underlying28 hi hz0 ⟨g, 0, none⟩ l.length cap (ub l) (by rw [hz1, ub_len]; omega) holds ⟨g', off, none⟩ l'.length c (ub l') (by rw [hz1, hm]; omega) hnews (by omega) (by omega) (growslice_fits (by omega) (by rw [hz2]; omega))
      have hge := grownCap_ge w (l.length + l'.length) cap 5
      have h := fin 0 (grownCap w (l.length + l'.length) cap 5) hge (grownCap_le_maxLen w (l.length + l'.length) cap 5 (by unfold maxLen; omega)) (w.drew.alloc (.cells (ub l ++ ub l' ++ List.replicate (grownCap w (l.length + l'.length) cap 5 - (l.length + l'.length)) (Value.int .u8 0)).toArray 5)) (heap_alloc_new w.drew _)
      refine ⟨_, _, hr, ?_, ⟨rfl, rfl, rfl, by simp, fun k hk _ => Below.heap_alloc w.drew _ _ hk⟩, .inr rfl⟩
      rw [zeroCells_one _ rfl]
      simp only [List.append_toArray]
      exact h

/-- Block g is c bytes, none of them frozen. -/
def Bytes (w : World) (g c : Nat) : Prop := ∃ (l : List Int) (fz : Nat × Nat), l.length = c ∧ (fz.2 = 0 ∨ c ≤ fz.1) ∧ w.heap[g]? = some (.cells (l.map (Value.int .u8)).toArray 5 fz)

theorem Bytes.cell {w : World} {g c k : Nat} (h : Bytes w g c) (hk : k < c) : ∃ x : Int, w.cell? ⟨g, k, none⟩ = some (.int .u8 x) := by
  obtain ⟨l, fz, hl, _, hg⟩ := h
  refine ⟨l.getD k 0, ?_⟩
  rw [World.cell?, hg]
  simp [hl, hk]

theorem Bytes.frozen {w : World} {g c k : Nat} (h : Bytes w g c) (hk : k < c) : w.frozen? ⟨g, k, none⟩ = false := by
  obtain ⟨l, fz, hl, hz, hg⟩ := h
  have : ¬ (fz.1 ≤ k ∧ k < fz.2) := by omega
  simp only [World.frozen?, hg]
  simpa using this

theorem Bytes.set {w : World} {g c k : Nat} (h : Bytes w g c) (x : Int) : Bytes (w.setCell ⟨g, k, none⟩ (.int .u8 x)) g c := by
  obtain ⟨l, fz, hl, hz, hg⟩ := h
  refine ⟨l.set k x, fz, by simpa using hl, hz, ?_⟩
  simp [World.setCell, Array.getElem?_modify, hg, List.map_set]

set_option maxHeartbeats 400000 in
theorem over_free (w : World) (g n c : Nat) (hn : n ≤ c) (hc : c ≤ 9223372036854775807) (h : Bytes w g c) : Calls Tryz.prog 16 #[.slice (some ⟨g, 0, none⟩) n c] w fun e w' => e = .returned (.tuple #[]) ∧ Only g w w' := by
  have H := Lib.hid h
  clear h
  go_enter Tryz.func16, Tryz.ntmps16
  go_wp2
  go_loopw [3] (fun i wr => ∃ k : Nat, k ≤ c ∧ i = .int .i64 k ∧ Hid (Bytes wr g c) ∧ Hid (Only g w wr)) (fun i _ => c - (intOf i).toNat)
  case atStart => exact ⟨0, Nat.zero_le _, rfl, H, Lib.hid (Only.refl g w)⟩
  case round =>
    obtain ⟨k, hk, rfl, HB, HO⟩ := hrel
    by_cases hlt : k < c
    · obtain ⟨x, hx⟩ := HB.out.cell hlt
      have hf := HB.out.frozen hlt
      go_wp2
      go_roundw
      case rel => exact ⟨k + 1, by omega, by go_num, Lib.hid (HB.out.set _), Lib.hid (HO.out.set _)⟩
      case measure => simp [intOf]; omega
    · go_wp2
      go_end0
      exact ⟨rfl, HO.out⟩

/-- Its row alone turns. -/
theorem over_B {w : World} {B : Nat} {v : Value} {l : List UInt8} (h : OwnB w B v l) : Calls Tryz.prog 16 #[v] w fun e w' => e = .returned (.tuple #[]) ∧ Aside (fun b => B ≤ b ∧ v.ownBlock = some b) w w' := by
  rcases h with ⟨rfl, rfl⟩ | ⟨g, cap, fz, rfl, hB, hl, hm, hz, hg⟩
  · exact (over_nil w).mono fun e w' ⟨he, hw⟩ => ⟨he, by subst hw; exact Aside.refl _ w⟩
  · have hlist : rowB l cap = (iz l ++ List.replicate (cap - l.length) 0).map (Value.int .u8) := by
      unfold rowB
      rw [List.map_append, ub_iz, List.map_replicate]
    refine (over_free w g l.length cap hl (by unfold maxLen at hm; omega) ⟨iz l ++ List.replicate (cap - l.length) 0, fz, by simp; omega, hz, by rw [hg, hlist]⟩).mono fun e w' ⟨he, hw⟩ => ⟨he, hw.1, hw.2.1, hw.2.2.1, by rw [hw.2.2.2.1]; exact Nat.le_refl _, fun k hk hk2 => hw.2.2.2.2 k fun e => hk2 ⟨by omega, by subst e; rfl⟩⟩
end Go.Proofs.YtdikgjbpjdnodaaGreat

/-
  Tails of names, and what a packer knows of them; plainly.
-/
namespace Go.Proofs.YtdikgjbpjdnodaaGreat
open Go.RowKit Go.Shelf
set_option linter.unusedVariables false
set_option maxRecDepth 100000

/-- The name of labels. -/
def nm (ls : List (List UInt8)) : List UInt8 := wire ls ++ [0]

/-- Where label k begins. -/
def pos (ls : List (List UInt8)) (k : Nat) : Nat := (wire (ls.take k)).length

theorem nm_len (ls : List (List UInt8)) : (nm ls).length = (wire ls).length + 1 := by simp [nm]
theorem wire_split (ls : List (List UInt8)) (k : Nat) : wire ls = wire (ls.take k) ++ wire (ls.drop k) := by rw [← wire_app, List.take_append_drop]
theorem nm_drop (ls : List (List UInt8)) (k : Nat) : (nm ls).drop (pos ls k) = nm (ls.drop k) := by
  unfold nm pos
  rw [wire_split ls k, List.append_assoc, List.drop_left]
theorem nm_take (ls : List (List UInt8)) (k : Nat) : (nm ls).take (pos ls k) = wire (ls.take k) := by
  unfold nm pos
  rw [wire_split ls k, List.append_assoc, List.take_left]
theorem pos_le (ls : List (List UInt8)) (k : Nat) : pos ls k ≤ (wire ls).length := by
  rw [wire_split ls k, List.length_append]; unfold pos; omega
theorem pos_zero (ls : List (List UInt8)) : pos ls 0 = 0 := by simp [pos, wire]
theorem pos_succ {ls : List (List UInt8)} {k : Nat} (h : k < ls.length) : pos ls (k + 1) = pos ls k + (1 + ls[k].length) := by
  unfold pos
  rw [List.take_add_one, List.getElem?_eq_getElem h, Option.toList_some, wire_snoc]
theorem pos_rest (ls : List (List UInt8)) (k : Nat) : (wire (ls.drop k)).length + pos ls k = (wire ls).length := by
  rw [wire_split ls k, List.length_append]; unfold pos; omega
theorem nm_at {ls : List (List UInt8)} {k : Nat} (h : k < ls.length) (hs : ∀ x ∈ ls, 0 < x.length ∧ x.length ≤ 63) : ∃ hp : pos ls k < (nm ls).length, (nm ls)[pos ls k].toNat = ls[k].length := by
  have hp : pos ls k < (nm ls).length := by rw [nm_len]; have := pos_le ls k; omega
  refine ⟨hp, ?_⟩
  have e := nm_drop ls k
  rw [List.drop_eq_getElem_cons hp, List.drop_eq_getElem_cons h] at e
  have e1 : (nm ls)[pos ls k] = UInt8.ofNat ls[k].length := by
    unfold nm at e
    rw [wire] at e
    injection e
  have := hs ls[k] (List.getElem_mem h)
  rw [e1, UInt8.toNat_ofNat']
  omega
theorem nm_end (ls : List (List UInt8)) : ∃ hp : pos ls ls.length < (nm ls).length, (nm ls)[pos ls ls.length].toNat = 0 := by
  have hp : pos ls ls.length < (nm ls).length := by rw [nm_len]; have := pos_le ls ls.length; omega
  refine ⟨hp, ?_⟩
  have e := nm_drop ls ls.length
  rw [List.drop_eq_getElem_cons hp, List.drop_length] at e
  have e1 : (nm ls)[pos ls ls.length] = 0 := by
    unfold nm at e
    rw [wire] at e
    injection e
  rw [e1]; rfl
theorem shorts_drop {ls : List (List UInt8)} (h : Shorts ls) (k : Nat) : Shorts (ls.drop k) :=
  ⟨fun x hx => h.1 x (List.mem_of_mem_drop hx), by have := pos_rest ls k; have := h.2; omega⟩
theorem nm_inj {a b : List (List UInt8)} (ha : Shorts a) (hb : Shorts b) (h : nm a = nm b) : a = b := by
  have h1 := shorts_labs ha
  have h2 := shorts_labs hb
  unfold nm at h
  rw [h] at h1
  exact h1.symm.trans h2
theorem nm_nil {ls : List (List UInt8)} (h : nm ls = [0]) : ls = [] := by
  cases ls with
  | nil => rfl
  | cons x r =>
    have := congrArg List.length h
    simp [nm, wire] at this
theorem len_wire (ls : List (List UInt8)) : ls.length ≤ (wire ls).length := by
  induction ls with
  | nil => simp
  | cons x r ih => simp [wire]; omega

/-- The place of a tail. -/
def plc (K : List (List UInt8 × Nat)) (n : List UInt8) : Option Nat := (K.find? (fun p => p.1 == n)).map (·.2)

theorem plc_app (K K' : List (List UInt8 × Nat)) (n : List UInt8) : plc (K ++ K') n = (plc K n).or (plc K' n) := by
  unfold plc
  rw [List.find?_append]
  cases K.find? (fun p => p.1 == n) <;> simp
theorem plc_none {K : List (List UInt8 × Nat)} {n : List UInt8} (h : ∀ p ∈ K, p.1 ≠ n) : plc K n = none := by
  unfold plc
  rw [List.find?_eq_none.mpr (fun p hp => by simpa using h p hp)]
  rfl
theorem plc_mem {K : List (List UInt8 × Nat)} {n : List UInt8} {x : Nat} (h : plc K n = some x) : (n, x) ∈ K := by
  unfold plc at h
  obtain ⟨p, hp, rfl⟩ := Option.map_eq_some_iff.mp h
  have h1 := List.find?_some hp
  have h2 := List.mem_of_find?_eq_some hp
  have : p.1 = n := by simpa using h1
  subst this
  exact h2
theorem plc_one (n m : List UInt8) (x : Nat) : plc [(n, x)] m = if n = m then some x else none := by
  unfold plc
  by_cases h : n = m <;> simp [h]

/-- How many labels are ahead of the first tail that is known. -/
def hdn (K : List (List UInt8 × Nat)) : List (List UInt8) → Nat
  | [] => 0
  | l :: r => if (plc K (nm (l :: r))).isSome then 0 else hdn K r + 1

theorem hdn_le (K : List (List UInt8 × Nat)) (ls : List (List UInt8)) : hdn K ls ≤ ls.length := by
  induction ls with
  | nil => simp [hdn]
  | cons l r ih => unfold hdn; split <;> simp <;> omega
theorem hdn_step (K : List (List UInt8 × Nat)) (ls : List (List UInt8)) (k : Nat) (hk : k < ls.length) (h : hdn K ls = k + hdn K (ls.drop k)) :
    (∀ x, plc K (nm (ls.drop k)) = some x → hdn K ls = k) ∧ (plc K (nm (ls.drop k)) = none → hdn K ls = (k + 1) + hdn K (ls.drop (k + 1))) := by
  have e : ls.drop k = ls[k] :: ls.drop (k + 1) := List.drop_eq_getElem_cons hk
  rw [e] at h ⊢
  rw [hdn] at h
  constructor
  · intro x hx
    rw [hx] at h
    simpa using h
  · intro hx
    rw [hx] at h
    simp at h
    omega
theorem hdn_none {K : List (List UInt8 × Nat)} : ∀ {ls : List (List UInt8)} {k : Nat}, k < hdn K ls → plc K (nm (ls.drop k)) = none
  | [], k, h => by simp [hdn] at h
  | l :: r, k, h => by
    unfold hdn at h
    split at h
    · omega
    · rename_i hn
      cases k with
      | zero => simpa using hn
      | succ k => exact hdn_none (ls := r) (by omega)
theorem hdn_stop {K : List (List UInt8 × Nat)} : ∀ {ls : List (List UInt8)}, hdn K ls < ls.length → ∃ x, plc K (nm (ls.drop (hdn K ls))) = some x
  | [], h => by simp at h
  | l :: r, h => by
    by_cases hs : (plc K (nm (l :: r))).isSome
    · have e : hdn K (l :: r) = 0 := by unfold hdn; rw [if_pos hs]
      rw [e]
      exact Option.isSome_iff_exists.mp hs
    · have e : hdn K (l :: r) = hdn K r + 1 := by conv => lhs; unfold hdn; rw [if_neg hs]
      rw [e] at h ⊢
      exact hdn_stop (ls := r) (by simpa using h)

/-- What a packer learns of the first h labels of a name that stands at a place. -/
def fr (at_ : Nat) : List (List UInt8) → Nat → List (List UInt8 × Nat)
  | [], _ => []
  | _ :: _, 0 => []
  | l :: r, h + 1 => (if at_ < 16384 then [(nm (l :: r), at_)] else []) ++ fr (at_ + (1 + l.length)) r h

theorem fr_zero (at_ : Nat) (ls : List (List UInt8)) : fr at_ ls 0 = [] := by cases ls <;> rfl
theorem fr_succ : ∀ (ls : List (List UInt8)) (at_ k : Nat), k < ls.length → fr at_ ls (k + 1) = fr at_ ls k ++ (if at_ + pos ls k < 16384 then [(nm (ls.drop k), at_ + pos ls k)] else [])
  | [], _, _, h => by simp at h
  | l :: r, at_, 0, h => by rw [pos_zero, List.drop_zero, fr_zero, fr, fr_zero, List.append_nil, Nat.add_zero, List.nil_append]
  | l :: r, at_, k + 1, h => by
    have e : pos (l :: r) (k + 1) = 1 + l.length + pos r k := by unfold pos; simp [wire]; omega
    rw [fr, fr_succ r _ k (by simpa using h), fr, e, List.drop_succ_cons, List.append_assoc]
    rw [show at_ + (1 + l.length) + pos r k = at_ + (1 + l.length + pos r k) by omega]
theorem pos_mono (ls : List (List UInt8)) {j k : Nat} (h : j ≤ k) : pos ls j ≤ pos ls k := by
  unfold pos
  rw [show ls.take j = (ls.take k).take j by rw [List.take_take, Nat.min_eq_left h], wire_split (ls.take k) j, List.length_append]
  omega
theorem fr_stop {ls : List (List UInt8)} {at_ k : Nat} (hf : 16384 ≤ at_ + pos ls k) : ∀ h, k ≤ h → h ≤ ls.length → fr at_ ls h = fr at_ ls k := by
  intro h hk
  induction h with
  | zero => intro _; rw [Nat.le_zero.mp hk]
  | succ h ih =>
    intro hl
    by_cases e : k = h + 1
    · rw [e]
    · rw [fr_succ ls at_ h (by omega), ih (by omega) (by omega), if_neg (by have := pos_mono ls (show k ≤ h by omega); omega), List.append_nil]
theorem fr_mem {ls : List (List UInt8)} {at_ : Nat} : ∀ {h : Nat}, h ≤ ls.length → ∀ p ∈ fr at_ ls h, ∃ j, j < h ∧ p = (nm (ls.drop j), at_ + pos ls j) ∧ at_ + pos ls j < 16384 := by
  intro h
  induction h with
  | zero => intro _ p hp; rw [fr_zero] at hp; simp at hp
  | succ h ih =>
    intro hl p hp
    rw [fr_succ ls at_ h (by omega)] at hp
    rcases List.mem_append.mp hp with hp | hp
    · obtain ⟨j, h1, h2⟩ := ih (by omega) p hp
      exact ⟨j, by omega, h2⟩
    · split at hp
      · rename_i hlt
        exact ⟨h, by omega, List.mem_singleton.mp hp, hlt⟩
      · simp at hp
theorem fr_len (ls : List (List UInt8)) (at_ : Nat) : ∀ h, (fr at_ ls h).length ≤ h := by
  induction ls generalizing at_ with
  | nil => intro h; simp [fr]
  | cons l r ih =>
    intro h
    cases h with
    | zero => rw [fr_zero]; simp
    | succ h => rw [fr, List.length_append]; have := ih (at_ + (1 + l.length)) h; split <;> simp <;> omega

/-- A tail is another one than those ahead of it. -/
theorem fr_fresh {K : List (List UInt8 × Nat)} {ls : List (List UInt8)} {at_ k : Nat} (hk : k < ls.length) (h : plc K (nm (ls.drop k)) = none) : plc (K ++ fr at_ ls k) (nm (ls.drop k)) = none := by
  rw [plc_app, h, Option.none_or]
  refine plc_none fun p hp => ?_
  obtain ⟨j, h1, rfl, _⟩ := fr_mem (by omega) p hp
  intro e
  have := congrArg List.length e
  rw [nm_len, nm_len] at this
  have h2 := pos_rest ls j
  have h3 := pos_rest ls k
  have h4 := pos_mono ls (show j + 1 ≤ k by omega)
  rw [pos_succ (show j < ls.length by omega)] at h4
  omega

/-- What a packer knows: names, not the root, at places that pointers lead to. -/
def GoodK (K : List (List UInt8 × Nat)) : Prop := ∀ p ∈ K, p.2 < 16384 ∧ ∃ ls, ls ≠ [] ∧ Shorts ls ∧ p.1 = nm ls

theorem good_nil : GoodK [] := fun p hp => by simp at hp
theorem good_fr {K : List (List UInt8 × Nat)} (h : GoodK K) {ls : List (List UInt8)} (hs : Shorts ls) (at_ : Nat) {k : Nat} (hk : k ≤ ls.length) : GoodK (K ++ fr at_ ls k) := fun p hp => by
  rcases List.mem_append.mp hp with hp | hp
  · exact h p hp
  · obtain ⟨j, h1, rfl, h2⟩ := fr_mem hk p hp
    exact ⟨h2, ls.drop j, fun e => by have := congrArg List.length e; rw [List.length_drop, List.length_nil] at this; omega, shorts_drop hs j, rfl⟩
theorem good_root {K : List (List UInt8 × Nat)} (h : GoodK K) : plc K [0] = none := plc_none fun p hp e => by
  obtain ⟨_, ls, h1, _, h2⟩ := h p hp
  exact h1 (nm_nil (h2.symm.trans e))
theorem good_lt {K : List (List UInt8 × Nat)} (h : GoodK K) {n : List UInt8} {x : Nat} (hx : plc K n = some x) : x < 16384 := (h _ (plc_mem hx)).1

/-- A pointer's bytes; a tail that is known, or as it is. -/
def pb (x : Nat) : List UInt8 := [UInt8.ofNat (192 + x / 256), UInt8.ofNat (x % 256)]
def restb (K : List (List UInt8 × Nat)) (t : List UInt8) : List UInt8 := match plc K t with | some x => pb x | none => t

/-- What is told of a name. -/
def told (K : List (List UInt8 × Nat)) (ls : List (List UInt8)) : List UInt8 := wire (ls.take (hdn K ls)) ++ restb K (nm (ls.drop (hdn K ls)))

theorem restb_len (K : List (List UInt8 × Nat)) (t : List UInt8) : (restb K t).length ≤ t.length + 2 := by
  unfold restb
  cases plc K t <;> simp [pb]
theorem restb_pos {K : List (List UInt8 × Nat)} {t : List UInt8} (h : 0 < t.length) : 0 < (restb K t).length := by
  unfold restb
  cases plc K t <;> simp [pb]
  exact h
theorem told_pos (K : List (List UInt8 × Nat)) (ls : List (List UInt8)) : 0 < (told K ls).length := by
  unfold told
  rw [List.length_append]
  have := restb_pos (K := K) (t := nm (ls.drop (hdn K ls))) (by rw [nm_len]; omega)
  omega

/-- The code that a packer answers. -/
def pkE (e : Nat) (at_ : Int) (n : List UInt8) : Int := if chk n ≠ 0 then chk n else if at_ < 0 ∨ 65535 < at_ then 2 else if at_ < e then 9 else 0
end Go.Proofs.YtdikgjbpjdnodaaGreat

/-
  A packer that New did not make; New.
-/
namespace Go.Proofs.YtdikgjbpjdnodaaGreat
open Go.RowKit Go.Shelf
set_option linter.unusedVariables false
set_option maxRecDepth 100000

theorem info_pk : (Tryz.prog.info? 100).map (fun i => decide (i.size = 0)) = some false := by kernel_rfl
theorem eq_ptr (p : Nat) (w : World) : (binOp .eql 65 (.pointer (some ⟨p, 0, none⟩)) (.pointer (some ⟨p, 0, none⟩))).run Tryz.prog w = .ok (.bool true) w := by
  obtain ⟨i, hi, _⟩ := Option.map_eq_some_iff.1 info_pk
  exact run_eql_ptr_same w ⟨p, 0, none⟩ Tryz.underlying65 hi

theorem made_yes (p : Nat) (w : World) (h : w.cell? ⟨p, 0, none⟩ = some (.pointer (some ⟨p, 0, none⟩))) : Calls Tryz.prog 111 #[.pointer (some ⟨p, 0, none⟩)] w fun e w' => e = .returned (.bool true) ∧ w = w' := by
  have he := eq_ptr p w
  go_enter Tryz.func111, Tryz.ntmps111
  go_wp2
  go_ret
  exact ⟨rfl, rfl⟩

end Go.Proofs.YtdikgjbpjdnodaaGreat

/-
  A packer in memory: what its map reads as; New, Known.
-/
namespace Go.Proofs.YtdikgjbpjdnodaaGreat
open Go.RowKit Go.Shelf
set_option linter.unusedVariables false
set_option maxRecDepth 100000

theorem keyed_ : Maps.Keyed Tryz.prog 9 := Maps.string_keyed Tryz.underlying9
theorem zero_int (w : World) : (zeroValue 3).run Tryz.prog w = .ok (.int .i64 0) w := by kernel_rfl

/-- The map's datum tells the tails K. -/
def RepD (D : DataW Unit) (K : List (List UInt8 × Nat)) : Prop :=
  Maps.size D = K.length ∧ ∀ n : List UInt8, Maps.has D (.string n) = (plc K n).isSome ∧ ∀ x, plc K n = some x → D.atKey (.string n) (.lit (.int .i64 0)) = .lit (.int .i64 x)

/-- Block bm is a map of the tails K. -/
def Tm (w : World) (bm : Nat) (K : List (List UInt8 × Nat)) : Prop := ∃ D : DataW Unit, w.ownsMap Tryz.prog 9 (plainElem Tryz.prog 3) bm K.length D ∧ RepD D K

theorem rep_nil : RepD (.map []) [] := ⟨rfl, fun n => ⟨rfl, fun x h => by simp [plc] at h⟩⟩

theorem key_str (t : List UInt8) (ht : t.length ≤ 1000000) : keyOf Tryz.prog 9 (.string (bs t)) = some (.string t) := by
  have := WideMaps.keyOf_string_mk (P := Tryz.prog) (k := 9) Tryz.underlying9 (s := bs t) (by rw [bs_size]; unfold maxLen; omega)
  rw [this]
  simp [bs]

theorem rep_put {D : DataW Unit} {K : List (List UInt8 × Nat)} (hD : Maps.Tidy D) (h : RepD D K) {t : List UInt8} (ht : plc K t = none) (x : Nat) : RepD (D.put (.string t) (.lit (.int .i64 x))) (K ++ [(t, x)]) := by
  have hno : Maps.has D (.string t) = false := by rw [(h.2 t).1, ht]; rfl
  refine ⟨by rw [Maps.size_put hD, hno, h.1]; simp, fun n => ?_⟩
  rw [plc_app, plc_one]
  by_cases e : t = n
  · subst e
    rw [ht, if_pos rfl]
    refine ⟨by rw [Maps.has_put_same hD.isMap (by trivial)]; rfl, fun y hy => ?_⟩
    have : x = y := by simpa using hy
    subst this
    exact Maps.atKey_put_same hD.isMap (by trivial) _ _
  · rw [if_neg e, Option.or_none]
    have hne : (Lit.string n) ≠ Lit.string t := fun h => e (by injection h with h; exact h.symm)
    refine ⟨by rw [Maps.has_put_other hne]; exact (h.2 n).1, fun y hy => ?_⟩
    rw [Maps.atKey_put_other hne]
    exact (h.2 n).2 y hy

theorem Tm.lt {w : World} {bm : Nat} {K : List (List UInt8 × Nat)} (h : Tm w bm K) : bm < w.heap.size := let ⟨_, h, _⟩ := h; h.lt
theorem Tm.aside {G : Nat → Prop} {w w' : World} {bm : Nat} {K : List (List UInt8 × Nat)} (h : Tm w bm K) (ha : Aside G w w') (hG : ¬ G bm) : Tm w' bm K := by
  have hlt := h.lt
  obtain ⟨D, ⟨es, clock, hb, r⟩, hR⟩ := h
  exact ⟨D, ⟨es, clock, (ha.block bm hlt hG).trans hb, r⟩, hR⟩

/-- What is looked up. -/
theorem Tm.look {w : World} {bm : Nat} {K : List (List UInt8 × Nat)} (h : Tm w bm K) (t : List UInt8) (ht : t.length ≤ 1000000) :
    (Instr.lookup 98 (.map (some bm)) (.string (bs t)) true).run Tryz.prog w = .ok (.tuple #[.int .i64 ((plc K t).getD 0 : Nat), .bool (plc K t).isSome]) w := by
  obtain ⟨D, hM, hR⟩ := h
  obtain ⟨v, ps, hrun, hv⟩ := hM.look_ok keyed_ Tryz.underlying98 (zero_int w) (plainElem_int (H := Unit) Tryz.underlying3 (q := .i64) (a := 0) (by decide)) (key_str t ht)
  obtain ⟨c, rfl, hc, _⟩ := plainElem_int_inv Tryz.underlying3 hv
  have h2 := congrArg Prod.fst hc
  have h3 := (hR.2 t).1
  rw [h3] at hrun
  rw [hrun]
  have : c = ((plc K t).getD 0 : Nat) := by
    rcases hp : plc K t with _ | x
    · rw [hp] at h3
      rw [Maps.atKey_of_not_has h3] at h2
      injection h2 with h2
      injection h2 with _ h2
      rw [← h2]; rfl
    · rw [(hR.2 t).2 x hp] at h2
      injection h2 with h2
      injection h2 with _ h2
      rw [← h2]; rfl
  rw [this]

/-- What is put in. -/
theorem Tm.store {w : World} {bm : Nat} {K : List (List UInt8 × Nat)} (h : Tm w bm K) (t : List UInt8) (ht : t.length ≤ 1000000) (hn : plc K t = none) (x : Nat) (hx : x ≤ 1000000) (hK : K.length ≤ 1000000) :
    ∃ w', (Instr.mapUpdate 98 (.map (some bm)) (.string (bs t)) (.int .i64 x)).run Tryz.prog w = .ok () w' ∧ Tm w' bm (K ++ [(t, x)]) ∧ w.grownBy w' (some bm) := by
  obtain ⟨D, hM, hR⟩ := h
  obtain ⟨w', h1, h2, h3⟩ := hM.update keyed_ Tryz.underlying98 (by unfold maxLen; omega) (key_str t ht) (plainElem_int (H := Unit) Tryz.underlying3 (q := .i64) (a := (x : Int)) (WalkArith.wf_i64 (by omega)))
  exact ⟨w', h1, ⟨_, by rw [List.length_append]; exact h2, rep_put (hM.tidy keyed_) hR hn x⟩, h3⟩

theorem Tm.len {w : World} {bm : Nat} {K : List (List UInt8 × Nat)} (h : Tm w bm K) (ty : TypeId) : (Builtin.len_ #[98] ty #[.map (some bm)]).run Tryz.prog w = .ok (.int .i64 K.length) w := by
  obtain ⟨D, hM, hR⟩ := h
  rw [hM.len Tryz.underlying98 ty, hR.1]

/-- Block p is a packer: it knows the tails K, in the map bm; its last name ended at e. -/
structure Pk (w : World) (p bm : Nat) (K : List (List UInt8 × Nat)) (e : Nat) : Prop where
  self : w.cell? ⟨p, 0, none⟩ = some (.pointer (some ⟨p, 0, none⟩))
  tails : w.cell? ⟨p, 1, none⟩ = some (.map (some bm))
  fin : w.cell? ⟨p, 2, none⟩ = some (.int .i64 e)
  free : ∀ j, w.frozen? ⟨p, j, none⟩ = false
  ne : p ≠ bm
  map : Tm w bm K

theorem Pk.lt {w : World} {p bm e : Nat} {K : List (List UInt8 × Nat)} (h : Pk w p bm K e) : p < w.heap.size := World.block_lt_of_cell? w _ h.self
theorem Pk.aside {G : Nat → Prop} {w w' : World} {p bm e : Nat} {K : List (List UInt8 × Nat)} (h : Pk w p bm K e) (ha : Aside G w w') (hp : ¬ G p) (hb : ¬ G bm) : Pk w' p bm K e :=
  ⟨ha.cell_lt h.self hp, ha.cell_lt h.tails hp, ha.cell_lt h.fin hp, fun j => (ha.frozen (p := ⟨p, j, none⟩) h.lt hp).trans (h.free j), h.ne, h.map.aside ha hb⟩
theorem Pk.later {w w' : World} {p bm e : Nat} {K : List (List UInt8 × Nat)} (h : Pk w p bm K e) (hb : Below w.heap.size w w') : Pk w' p bm K e :=
  h.aside (G := fun _ => False) (Aside.of_all hb) (fun h => h) (fun h => h)

/-- What New leaves. -/
def NewPost (w : World) (e : Ending) (w' : World) : Prop := ∃ p bm, e = .returned (.pointer (some ⟨p, 0, none⟩)) ∧ w.heap.size ≤ p ∧ w.heap.size ≤ bm ∧ Pk w' p bm [] 0 ∧ Below w.heap.size w w'

set_option maxHeartbeats 400000 in
theorem new_any (w : World) : Calls Tryz.prog 40 #[] w (NewPost w) := by
  have hmm := @run_makeMap Tryz.prog
  go_enter Tryz.func40, Tryz.ntmps40
  go_wp2
  go_ret
  have hb : Below w.heap.size w ((w.alloc (.map #[] 0)).alloc (.cells #[.pointer (some ⟨w.heap.size + 1, 0, none⟩), .map (some w.heap.size), .int .i64 0] 100)) := ((Below.refl _ _).alloc (Nat.le_refl _) _).alloc (by simp) _
  refine ⟨w.heap.size + 1, w.heap.size, rfl, by omega, Nat.le_refl _, ⟨by simp [go_sem], by simp [go_sem], by simp [go_sem], fun j => by simp [go_sem], by omega, .map [], ?_, rep_nil⟩, hb⟩
  exact (World.ownsMap_made w Tryz.prog 9 (plainElem Tryz.prog 3)).alloc _
end Go.Proofs.YtdikgjbpjdnodaaGreat

/-
  How many bytes of a name are ahead of what is known; its rest; what is learnt.
-/
namespace Go.Proofs.YtdikgjbpjdnodaaGreat
open Go.RowKit Go.Shelf
set_option linter.unusedVariables false
set_option maxRecDepth 100000

set_option maxRecDepth 100000 in
set_option maxHeartbeats 1000000 in
theorem ahead_any {w : World} {p bm e : Nat} {K : List (List UInt8 × Nat)} (h : Pk w p bm K e) {ls : List (List UInt8)} (hs : Shorts ls) :
    Calls Tryz.prog 112 #[.pointer (some ⟨p, 0, none⟩), .string (bs (nm ls))] w (Tells w (.int .i64 (pos ls (hdn K ls)))) := by
  have HP := Lib.hid h
  have hnl : (nm ls).length ≤ 255 := by rw [nm_len]; have := hs.2; omega
  clear h
  go_enter Tryz.func112, Tryz.ntmps112
  go_wp2
  go_loopg [5] ls.length (fun g v5 wr => ∃ k : Nat, k + g = ls.length ∧ v5 = .int .i64 (pos ls k) ∧ Hid (hdn K ls = k + hdn K (ls.drop k)) ∧ Hid (Below w.heap.size w wr))
  case atStart => exact ⟨0, by omega, by rw [pos_zero]; rfl, by rw [List.drop_zero, Nat.zero_add]; exact Lib.hid rfl, Below.refl _ _⟩
  case round =>
    obtain ⟨k, hk, rfl, HH, HB⟩ := hrel
    have hPk := HP.out.later HB.out
    by_cases hlt : k < ls.length
    · obtain ⟨hp, hat⟩ := nm_at hlt hs.1
      have hix := ix_run (nm ls) (pos ls k) hp
      have hfr := from_run (nm ls) (pos ls k) (by omega)
      rw [hat] at hix
      rw [nm_drop] at hfr
      have hlk := fun n => (hPk.map.aside (Aside.drewN (G := fun _ => False) wr n) (fun h => h)).look (nm (ls.drop k)) (by rw [← nm_drop, List.length_drop]; omega)
      have hc63 := hs.1 ls[k] (List.getElem_mem hlt)
      have hps := pos_succ hlt
      have hple := pos_le ls (k + 1)
      rw [nm_len] at hnl hp
      obtain ⟨hst1, hst2⟩ := hdn_step K ls k hlt HH.out
      have c1 := hPk.tails
      obtain ⟨c, hc⟩ : ∃ c, ls[k].length = c := ⟨_, rfl⟩
      obtain ⟨q, hq⟩ : ∃ q, pos ls k = q := ⟨_, rfl⟩
      obtain ⟨T, hT⟩ : ∃ T, nm (ls.drop k) = T := ⟨_, rfl⟩
      rw [hc] at hix hc63 hps
      rw [hq] at hix hfr hps hp ⊢
      rw [hT] at hfr hlk hst1 hst2
      have tc : ((c : Int) != 0) = true := by simp; omega
      rcases hpl : plc K T with _ | x
      · have HH2 := Lib.hid (hst2 hpl)
        rw [hpl] at hlk
        simp only [Option.isSome_none, Option.getD_none] at hlk
        have HQ := Lib.hid (show (q : Int) + (1 + c) = (pos ls (k + 1) : Nat) by rw [hps]; push_cast; rfl)
        have hqb : q ≤ 255 := by omega
        clear hst1 hst2 hpl hc hT hps hple hPk hq
        go_wp2_with fail
        go_quiet (fail)
        go_wp2_with fail
        go_roundg (ls.length - (k + 1))
        case measure => omega
        case rel => exact ⟨k + 1, by omega, by rw [← HQ.out], HH2, below_drewN HB.out _⟩
      · have hst := hst1 x hpl
        rw [hpl] at hlk
        simp only [Option.isSome_some, Option.getD_some] at hlk
        have HE := Lib.hid (show pos ls (hdn K ls) = q by rw [hst, hq])
        clear hst1 hst2 hpl hc hT hst hps hple hPk hq
        go_wp2_with fail
        go_quiet (fail)
        go_wp2_with fail
        go_ret
        exact ⟨by rw [HE.out]; rfl, below_drewN HB.out _⟩
    · have hke : k = ls.length := by omega
      subst hke
      obtain ⟨hp, hat⟩ := nm_end ls
      have hix := ix_run (nm ls) (pos ls ls.length) hp
      rw [hat] at hix
      have HE := Lib.hid (show pos ls (hdn K ls) = pos ls ls.length by rw [HH.out, List.drop_length]; rfl)
      obtain ⟨q, hq⟩ : ∃ q, pos ls ls.length = q := ⟨_, rfl⟩
      rw [hq] at hix HE ⊢
      clear hPk hq
      go_wp2_with fail
      go_ret
      exact ⟨by rw [HE.out]; rfl, HB.out⟩
end Go.Proofs.YtdikgjbpjdnodaaGreat

/-
  What is told of a tail; what is learnt.
-/
namespace Go.Proofs.YtdikgjbpjdnodaaGreat
open Go.RowKit Go.Shelf
set_option linter.unusedVariables false
set_option maxRecDepth 100000

/-- A row of new memory is told. -/
def RestPost (w : World) (l : List UInt8) (e : Ending) (w' : World) : Prop := ∃ v, e = .returned v ∧ OwnB w' w.heap.size v l ∧ Below w.heap.size w w'

theorem pb_put {x : Nat} (hx : x < 16384) : putL2 (49152 + x) = iz (pb x) ∧ putE 65535 (49152 + x) = 0 := by
  refine ⟨?_, by unfold putE; rw [if_pos (by omega)]⟩
  unfold putL2 pb iz
  rw [if_pos (by omega)]
  simp only [List.map_cons, List.map_nil, UInt8.toNat_ofNat']
  congr 1
  · omega
  · congr 1
    omega

set_option maxHeartbeats 1000000 in
theorem rest_any {w : World} {p bm e : Nat} {K : List (List UInt8 × Nat)} (h : Pk w p bm K e) (hG : GoodK K) (t : List UInt8) (ht : t.length ≤ 1000) :
    Calls Tryz.prog 113 #[.pointer (some ⟨p, 0, none⟩), .string (bs t)] w (RestPost w (restb K t)) := by
  have hlk := h.map.look t (by omega)
  have c1 := h.tails
  rcases hpl : plc K t with _ | x
  · rw [hpl] at hlk
    simp only [Option.isSome_none, Option.getD_none] at hlk
    have he : restb K t = t := by unfold restb; rw [hpl]
    rw [he]
    obtain ⟨cap, W, hcv, ho, hb, _⟩ := conv_B w t (by omega)
    have HO := Lib.hid ho
    have HB := Lib.hid hb
    clear ho hb he hpl
    go_enter Tryz.func113, Tryz.ntmps113
    go_wp2_with fail
    go_ret
    exact ⟨_, rfl, HO.out, HB.out⟩
  · have hx := good_lt hG hpl
    rw [hpl] at hlk
    simp only [Option.isSome_some, Option.getD_some] at hlk
    have he : restb K t = pb x := by unfold restb; rw [hpl]
    rw [he]
    have HP := Lib.hid (put16_any (49152 + x) w)
    rw [(pb_put hx).1, (pb_put hx).2] at HP
    clear he hpl
    go_enter Tryz.func113, Tryz.ntmps113
    go_wp2_with fail
    refine HP.out.mono ?_; rintro e w1 ⟨v, g, rfl, ho, hg, _, hb⟩
    have HO := Lib.hid ((OwnB.of_own ho (by simp [pb])).mono hg)
    have HB := Lib.hid hb
    clear ho hg hb
    go_wp2_with fail
    go_ret
    exact ⟨_, rfl, HO.out, HB.out⟩

/-- What learn leaves. -/
def LearnPost (w : World) (p bm : Nat) (K : List (List UInt8 × Nat)) (e : Nat) (x : Ending) (w' : World) : Prop := x = .returned (.tuple #[]) ∧ Pk w' p bm K e ∧ Aside (fun b => b = bm) w w'

set_option maxRecDepth 100000 in
set_option maxHeartbeats 1000000 in
theorem learn_any {w : World} {p bm e : Nat} {K : List (List UInt8 × Nat)} (h : Pk w p bm K e) {ls : List (List UInt8)} (hs : Shorts ls) (a : Nat) (ha : a ≤ 65535) (d : Nat) (hd : d ≤ hdn K ls) (hK : K.length ≤ 900000) :
    Calls Tryz.prog 114 #[.pointer (some ⟨p, 0, none⟩), .int .i64 a, .string (bs (nm ls)), .int .i64 (pos ls d)] w (LearnPost w p bm (K ++ fr a ls d) e) := by
  have hnl : (nm ls).length ≤ 255 := by rw [nm_len]; have := hs.2; omega
  have HC := Lib.hid (clone_any (bs (nm ls)) (by rw [bs_size]; omega))
  have HP := Lib.hid h
  have hdl := Nat.le_trans hd (hdn_le K ls)
  have hlw := len_wire ls
  obtain ⟨D, hD⟩ : ∃ D, pos ls d = D := ⟨_, rfl⟩
  rw [hD]
  have HD := Lib.hid hD
  clear h hD
  go_enter Tryz.func114, Tryz.ntmps114
  go_wp2_with fail
  refine (HC.out _).mono ?_; rintro e0 w1 ⟨rfl, hb⟩
  have HP1 := Lib.hid (HP.out.later hb)
  have HA1 := Lib.hid (show Aside (fun b => b = bm) w w1 from (Aside.of_all (G := fun b => b = bm) hb))
  clear hb
  go_wp2
  go_loopg [9] d (fun g v9 wr => ∃ k : Nat, k + g = d ∧ v9 = .int .i64 (pos ls k) ∧ Hid (Pk wr p bm (K ++ fr a ls k) e) ∧ Hid (Aside (fun b => b = bm) w wr))
  case atStart => exact ⟨0, by omega, by rw [pos_zero]; rfl, by rw [fr_zero, List.append_nil]; exact HP1, HA1⟩
  case round =>
    obtain ⟨k, hk, rfl, HPk, HA⟩ := hrel
    clear HP HP1 HA1 HC
    by_cases hlt : k < d
    · obtain ⟨hp, hat⟩ := nm_at (show k < ls.length by omega) hs.1
      have hix := ix_run (nm ls) (pos ls k) hp
      have hfr := from_run (nm ls) (pos ls k) (by omega)
      rw [hat] at hix
      rw [nm_drop] at hfr
      have hps := pos_succ (show k < ls.length by omega)
      have hmo := pos_mono ls (show k + 1 ≤ d by omega)
      have hple := pos_le ls d
      rw [HD.out] at hmo hple
      rw [nm_len] at hnl hp
      have hc63 := hs.1 ls[k] (List.getElem_mem (by omega))
      by_cases hf : a + pos ls k < 16384
      · obtain ⟨w2, hst, hTm, hgw⟩ := (HPk.out.map.aside (w' := wr.drew) (G := fun _ => False) (Aside.drewN wr 1) (fun h => h)).store (nm (ls.drop k)) (by rw [← nm_drop, List.length_drop, nm_len]; omega) (fr_fresh (by omega) (hdn_none (by omega))) (a + pos ls k) (by omega) (by rw [List.length_append]; have := fr_len ls a k; omega)
        have hfs := fr_succ ls a k (by omega)
        rw [if_pos hf] at hfs
        rw [List.append_assoc, ← hfs] at hTm
        have ha2 : Aside (fun b => b = bm) wr w2 := (Aside.drewN wr 1).trans (Aside.grown hgw (fun k h => by cases h; rfl))
        have HA2 := Lib.hid (HA.out.trans ha2)
        have HPk2 := Lib.hid (show Pk w2 p bm (K ++ fr a ls (k + 1)) e from ⟨ha2.cell_lt HPk.out.self HPk.out.ne, ha2.cell_lt HPk.out.tails HPk.out.ne, ha2.cell_lt HPk.out.fin HPk.out.ne, fun j => (ha2.frozen (p := ⟨p, j, none⟩) HPk.out.lt HPk.out.ne).trans (HPk.out.free j), HPk.out.ne, hTm⟩)
        have c1 := HPk.out.tails
        obtain ⟨c, hc⟩ : ∃ c, ls[k].length = c := ⟨_, rfl⟩
        obtain ⟨q, hq⟩ : ∃ q, pos ls k = q := ⟨_, rfl⟩
        obtain ⟨T, hT⟩ : ∃ T, nm (ls.drop k) = T := ⟨_, rfl⟩
        rw [hc] at hix hc63 hps
        rw [hq] at hix hfr hps hp hf hst ⊢
        rw [hT] at hfr hst
        push_cast at hst
        have t1 : q < D := by omega
        have HQ := Lib.hid (show (q : Int) + (1 + c) = (pos ls (k + 1) : Nat) by rw [hps]; push_cast; rfl)
        have hqb : q ≤ 255 := by omega
        clear hTm hgw hfs ha2 hc hT hps hq
        go_wp2_with fail
        go_region
        go_wp2_with fail
        go_roundg (d - (k + 1))
        case measure => omega
        case rel => exact ⟨k + 1, by omega, by rw [← HQ.out], HPk2, HA2⟩
      · have HE := Lib.hid (show fr a ls d = fr a ls k from fr_stop (by omega) d (by omega) hdl)
        obtain ⟨q, hq⟩ : ∃ q, pos ls k = q := ⟨_, rfl⟩
        rw [hq] at hf hps ⊢
        have t1 : q < D := by omega
        have t2 : ¬ ((a : Int) + q < 16384) := by omega
        have hqb : q ≤ 255 := by omega
        clear hix hfr hat hp hps hmo hple hq
        go_wp2_with fail
        go_end0
        exact ⟨rfl, by rw [HE.out]; exact HPk.out, HA.out⟩
    · have hkd : k = d := by omega
      subst hkd
      rw [HD.out]
      go_wp2_with fail
      go_end0
      exact ⟨rfl, HPk.out, HA.out⟩
end Go.Proofs.YtdikgjbpjdnodaaGreat
