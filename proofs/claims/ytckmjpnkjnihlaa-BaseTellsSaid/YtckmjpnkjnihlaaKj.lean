/-
  Rows of bytes of the call's own, made by append or out of a text: nothing of them is frozen, what lies behind their length is zeros.
-/
import Derived.Test.YtckmjpnkjnihlaaKa
import Derived.Test.YtckmjpnkjnihlaaBSame
import Derived.Test.YtckmjpnkjnihlaaBKept
import Derived.Test.YtckmjpnkjnihlaaBWords
import Derived.Test.YtckmjpnkjnihlaaBOver
namespace Go.Proofs.Ytckmjpnkjnihlaa
open Go.RowKit Go.Shelf
set_option linter.unusedVariables false
set_option maxRecDepth 100000

/-- The bytes l, then zeros up to the capacity. -/
def rowB (l : List UInt8) (cap : Nat) : List Value := ub l ++ List.replicate (cap - l.length) (.int .u8 0)

theorem ub_len (l : List UInt8) : (ub l).length = l.length := by simp [ub]
theorem ub_iz (l : List UInt8) : ub l = (iz l).map (Value.int .u8) := by unfold ub iz; rw [List.map_map]; rfl
theorem ub_app (a b : List UInt8) : ub (a ++ b) = ub a ++ ub b := List.map_append
theorem rowB_len {l : List UInt8} {cap : Nat} (h : l.length ≤ cap) : (rowB l cap).length = cap := by unfold rowB; rw [List.length_append, ub_len, List.length_replicate]; omega
theorem rowB_get {l : List UInt8} {cap j : Nat} (h : j < l.length) : (rowB l cap)[j]? = some (.int .u8 ((l.getD j 0).toNat : Nat)) := by
  unfold rowB
  rw [List.getElem?_append_left (by rw [ub_len]; exact h), ub, List.getElem?_map, List.getElem?_eq_getElem h, List.getD, List.getElem?_eq_getElem h]
  rfl

/-- v is nil, or such a row, in a block from B on. -/
def OwnB (w : World) (B : Nat) (v : Value) (l : List UInt8) : Prop :=
  (v = .slice none 0 0 ∧ l = []) ∨ ∃ g cap, ∃ fz : Nat × Nat, v = .slice (some ⟨g, 0, none⟩) l.length cap ∧ B ≤ g ∧ l.length ≤ cap ∧ cap ≤ maxLen ∧ (fz.2 = 0 ∨ cap ≤ fz.1) ∧ w.heap[g]? = some (.cells (rowB l cap).toArray 5 fz)

section
variable {w w' : World} {B B' : Nat} {v : Value} {l : List UInt8} {G : Nat → Prop}
theorem OwnB.nil (w : World) (B : Nat) : OwnB w B (.slice .none 0 0) [] := .inl ⟨rfl, rfl⟩
theorem OwnB.lt (h : OwnB w B v l) : ∀ k, v.ownBlock = some k → B ≤ k ∧ k < w.heap.size := by
  intro k hk
  rcases h with ⟨rfl, _⟩ | ⟨g, cap, fz, rfl, hB, _, _, _, hg⟩
  · simp [Value.ownBlock] at hk
  · simp [Value.ownBlock] at hk
    subst hk
    exact ⟨hB, (Array.getElem?_eq_some_iff.1 hg).1⟩
theorem OwnB.aside (h : OwnB w B v l) (ha : Aside G w w') (hG : ∀ b, v.ownBlock = some b → ¬ G b) : OwnB w' B v l := by
  have hlt := h.lt
  rcases h with h2 | ⟨g, cap, fz, hv, hg, h1, h2, h3, hh⟩
  · exact .inl h2
  · exact .inr ⟨g, cap, fz, hv, hg, h1, h2, h3, (ha.block g (by subst hv; exact (hlt g rfl).2) (hG g (by rw [hv]; rfl))).trans hh⟩
theorem OwnB.mono (h : OwnB w B v l) (hB : B' ≤ B) : OwnB w B' v l := by
  rcases h with h2 | ⟨g, cap, fz, hv, hg, r⟩
  · exact .inl h2
  · exact .inr ⟨g, cap, fz, hv, Nat.le_trans hB hg, r⟩
theorem OwnB.below (h : OwnB w B v l) (hb : Below w.heap.size w w') : OwnB w' B v l := h.aside (G := fun _ => False) (Aside.of_all hb) fun _ _ h => h
theorem OwnB.shape (h : OwnB w B v l) : ∃ a c, v = .slice a l.length c := by
  rcases h with ⟨rfl, rfl⟩ | ⟨g, cap, fz, rfl, _⟩
  · exact ⟨none, 0, rfl⟩
  · exact ⟨_, cap, rfl⟩
theorem OwnB.cells (h : OwnB w B v l) {g : Nat} (hg : v.ownBlock = some g) : ∀ j, j < l.length → w.cell? ⟨g, j, none⟩ = some (.int .u8 ((l.getD j 0).toNat : Nat)) := by
  intro j hj
  rcases h with ⟨rfl, _⟩ | ⟨g', cap, fz, rfl, _, _, _, _, hh⟩
  · simp [Value.ownBlock] at hg
  · simp [Value.ownBlock] at hg
    subst hg
    rw [World.cell?, hh]
    simpa using rowB_get (cap := cap) hj
theorem OwnB.some_ (h : OwnB w B v l) (h0 : 0 < l.length) : ∃ g c, v = .slice (some ⟨g, 0, none⟩) l.length c ∧ v.ownBlock = some g := by
  rcases h with ⟨rfl, rfl⟩ | ⟨g, cap, fz, rfl, _⟩
  · simp at h0
  · exact ⟨g, cap, rfl, rfl⟩
theorem OwnB.sl (h : OwnB w B v l) : Sl w B w.heap.size v (iz l) := by
  have hlt := h.lt
  have hc := fun g hg => h.cells (g := g) hg
  rcases h with ⟨rfl, rfl⟩ | ⟨g, cap, fz, rfl, hB, hl, _, _, hh⟩
  · exact ⟨none, 0, rfl, by simp [iz], fun _ => rfl, fun h => by simp [iz] at h⟩
  · refine ⟨some ⟨g, 0, none⟩, cap, by rw [iz_len], by rw [iz_len]; exact hl, fun h => by simp at h, fun _ => ⟨g, 0, rfl, hB, (hlt g rfl).2, fun j hj => ?_⟩⟩
    rw [iz_len] at hj
    rw [Nat.zero_add, hc g rfl j hj, iz_get l j hj, List.getD, List.getElem?_eq_getElem hj]
    rfl
theorem OwnB.of_own {g : Nat} (h : Own w g v (iz l)) (hl : l.length ≤ 1000000) : OwnB w g v l := by
  rcases h with ⟨h1, h2⟩ | ⟨h1, h2⟩
  · exact .inl ⟨h1, by have := congrArg List.length h2; rw [iz_len] at this; exact List.eq_nil_of_length_eq_zero this⟩
  · rw [iz_len] at h1
    refine .inr ⟨g, l.length, (0, 0), h1, Nat.le_refl _, Nat.le_refl _, by unfold maxLen; omega, .inl rfl, ?_⟩
    rw [h2, rowB, Nat.sub_self, List.replicate_zero, List.append_nil, ub_iz]
end

/-- A text as bytes. -/
theorem conv_B (w : World) (s : List UInt8) (hs : s.length ≤ 1000000) : ∃ cap W, (convert 9 22 (.string (bs s))).run Try.prog w = .ok (.slice (some ⟨w.heap.size, 0, none⟩) s.length cap) W ∧ OwnB W w.heap.size (.slice (some ⟨w.heap.size, 0, none⟩) s.length cap) s ∧ Below w.heap.size w W ∧ w.heap.size < W.heap.size := by
  have h := run_bytes_of_string (P := Try.prog) w 9 22 5 (bs s) Try.underlying9 Try.underlying22 Try.underlying5
  rw [bs_size] at h
  have hge := grownCap_ge w s.length 0 5
  have hlist : (bytesRow (bs s) (grownCap w s.length 0 5)) = (rowB s (grownCap w s.length 0 5)).toArray := by
    unfold bytesRow rowB ub
    rw [bs_size]
    simp [bs]
  have hsz : (rowB s (grownCap w s.length 0 5)).toArray.size = grownCap w s.length 0 5 := by simp only [List.size_toArray, rowB_len hge]
  rw [hlist, hsz] at h
  exact ⟨_, _, h, .inr ⟨w.heap.size, grownCap w s.length 0 5, (grownCap w s.length 0 5, grownCap w s.length 0 5 + 1), rfl, Nat.le_refl _, hge, grownCap_le_maxLen w s.length 0 5 (by unfold maxLen; omega), .inr (Nat.le_refl _), heap_alloc_new w.drew _⟩, (Below.refl _ w).drew.alloc (Nat.le_refl _) _, by simp⟩

/-- Cells written into a row that is marked behind its end. -/
theorem store_marked (P : Program) (g t : Nat) (fz : Nat × Nat) : ∀ (vs : List Value) (o i : Nat) (cur : Array Value) (w : World), w.heap[g]? = some (.cells cur t fz) → (fz.2 = 0 ∨ cur.size ≤ fz.1) → o + i + vs.length ≤ cur.size → (∀ x ∈ vs, x.oneCell' = true) →
    (storeCells ⟨g, o, none⟩ vs i).run P w = .ok () (w.setRow g (cur.toList.take (o + i) ++ vs ++ cur.toList.drop (o + i + vs.length)).toArray) := by
  intro vs
  induction vs with
  | nil =>
    intro o i cur w hg _ _ _
    have : cur.toList.take (o + i) ++ [] ++ cur.toList.drop (o + i + ([] : List Value).length) = cur.toList := by simp
    rw [this, Array.toArray_toList, setRow_self w g cur t fz hg]
    rfl
  | cons x r ih =>
    intro o i cur w hg hz hl h1
    rw [List.length_cons] at hl
    have hlt : o + i < cur.size := by omega
    have hx : w.cell? ⟨g, o + i, none⟩ = some cur[o + i] := by simp [World.cell?, hg, hlt]
    have hf : w.frozen? ⟨g, o + i, none⟩ = false := by
      have : ¬ (fz.1 ≤ o + i ∧ o + i < fz.2) := by omega
      simp only [World.frozen?, hg]
      simpa using this
    have hstep : (store ((⟨g, o, none⟩ : Addr).add i) x).run P w = .ok () (w.setRow g (cur.setIfInBounds (o + i) x)) := by
      rw [WideShapes.add_plain, run_store P w _ x _ (h1 x List.mem_cons_self), hx]
      simp [hf, setCell_eq_setRow w g (o + i) cur t fz x hg]
    have hrest := ih o (i + 1) (cur.setIfInBounds (o + i) x) _ (setRow_heap w g cur _ t fz hg) (by simpa using hz) (by simp; omega) (fun y hy => h1 y (List.mem_cons_of_mem _ hy))
    have hlist : (cur.setIfInBounds (o + i) x).toList.take (o + (i + 1)) ++ r ++ (cur.setIfInBounds (o + i) x).toList.drop (o + (i + 1) + r.length) = cur.toList.take (o + i) ++ (x :: r) ++ cur.toList.drop (o + i + (r.length + 1)) := by
      rw [Array.toList_setIfInBounds]
      have hl2 : o + i < cur.toList.length := by simpa using hlt
      rw [show o + (i + 1) = o + i + 1 by omega, List.take_set, List.drop_set_of_lt (by omega), List.take_add_one, List.getElem?_eq_getElem hl2]
      rw [List.set_append_right _ _ (by rw [List.length_take]; omega)]
      have hl3 : cur.toList.length = cur.size := Array.length_toList
      have e1 : o + i - (cur.toList.take (o + i)).length = 0 := by rw [List.length_take]; omega
      rw [e1, Option.toList_some, List.set_cons_zero, List.append_assoc, List.append_assoc, List.append_assoc, List.singleton_append]
      congr 4
      omega
    simp only [storeCells, Sem.run_bind, hstep, Result.andThen_ok, hrest, setRow_setRow, hlist, List.length_cons]

/-- append of bytes, as it runs. -/
theorem run_appB {w : World} (B : Nat) (v xv : Value) (l l' : List UInt8) {lo hi : Nat} (hown : OwnB w B v l) (hx : Sl w lo hi xv (iz l')) (h0 : 0 < l'.length) (hb : l.length + l'.length ≤ 1000000) (hB : B ≤ w.heap.size) :
    ∃ v' w', (Builtin.append_ #[22, 22] 22 #[v, xv]).run Try.prog w = .ok v' w' ∧ OwnB w' B v' (l ++ l') ∧ w.grownBy w' v.ownBlock ∧ (v'.ownBlock = v.ownBlock ∨ v'.ownBlock = some w.heap.size) := by
  obtain ⟨i0, hi, hz0, hz1, hz2⟩ := info_parts Try.info5
  obtain ⟨ad, c, rfl, hc, hn, hp⟩ := hx
  rw [iz_len] at hc hp
  rw [iz_len]
  obtain ⟨g', off, rfl, _, _, hcell⟩ := hp h0
  have hnews : ∀ j u, (ub l')[j]? = some u → w.cell? ((⟨g', off, none⟩ : Addr).add j) = some u := by
    intro j u hu
    have hj : j < l'.length := by have := (List.getElem?_eq_some_iff.mp hu).1; rwa [ub_len] at this
    rw [WideShapes.add_plain, hcell j hj, iz_get l' j hj]
    rw [ub, List.getElem?_map, List.getElem?_eq_getElem hj] at hu
    exact hu
  have hm : (ub l').length = l'.length := ub_len _
  have fin : ∀ (need cap : Nat), l.length + l'.length ≤ cap → cap ≤ maxLen → ∀ W, W.heap[w.heap.size]? = some (.cells (ub l ++ ub l' ++ List.replicate (cap - (l.length + l'.length)) (Value.int .u8 0)).toArray 5 (0, 0)) →
      OwnB W B (.slice (some ⟨w.heap.size, 0, none⟩) (l.length + l'.length) cap) (l ++ l') := fun need cap h1 h2 W hW => by
    refine .inr ⟨w.heap.size, cap, (0, 0), by rw [List.length_append], hB, by rw [List.length_append]; exact h1, h2, .inl rfl, ?_⟩
    rw [hW, rowB, ub_app, List.length_append]
  rcases hown with ⟨rfl, rfl⟩ | ⟨g, cap, fz, rfl, hbg, hlc, hcm, hfz, hg⟩
  · have hr := run_append_nil (P := Try.prog) w 22 22 5 i0 (.int .u8 0) Try.underlying22 hi hz0 ⟨g', off, none⟩ l'.length c (ub l') (by rw [hz1, hm]; omega) hnews (by omega) (by simp at hb; omega) (by rw [hz2]; simp at hb; omega)
    have hge := grownCap_ge w l'.length 0 5
    have h := fin 0 (grownCap w l'.length 0 5) (by simpa using hge) (grownCap_le_maxLen w l'.length 0 5 (by simp at hb; unfold maxLen; omega)) (w.drew.alloc (.cells (ub l' ++ List.replicate (grownCap w l'.length 0 5 - l'.length) (Value.int .u8 0)).toArray 5)) (by
      refine (heap_alloc_new w.drew _).trans ?_
      simp [ub])
    simp only [List.length_nil, Nat.zero_add] at h
    refine ⟨_, _, hr, ?_, ⟨rfl, rfl, rfl, by simp, fun k hk _ => Below.heap_alloc w.drew _ _ hk⟩, .inr rfl⟩
    rw [zeroCells_one _ rfl]
    simp only [List.append_toArray]
    exact h
  · by_cases hroom : l.length + l'.length ≤ cap
    · have hf := run_firstCells_some (P := Try.prog) w i0.size l'.length ⟨g', off, none⟩ l'.length c (ub l') (by rw [hz1, hm]; omega) hnews
      have hst := store_marked Try.prog g 5 fz (ub l') (l.length * i0.size) 0 _ w hg (by simpa [rowB_len hlc] using hfz) (by simp [rowB_len hlc, hz1, hm]; omega) (ub_one _)
      have hlist : (rowB l cap).toArray.toList.take (l.length * i0.size + 0) ++ ub l' ++ (rowB l cap).toArray.toList.drop (l.length * i0.size + 0 + (ub l').length) = rowB (l ++ l') cap := by
        rw [hz1, hm]
        unfold rowB
        simp only [Nat.mul_one, Nat.add_zero]
        rw [List.take_left' (ub_len l), ub_app, List.length_append, List.append_assoc, List.append_assoc, List.drop_append, List.drop_eq_nil_of_le (by rw [ub_len]; omega), List.nil_append, List.drop_replicate, ub_len]
        congr 3
        omega
      rw [hlist] at hst
      refine ⟨.slice (some ⟨g, 0, none⟩) (l.length + l'.length) cap, w.setRow g (rowB (l ++ l') cap).toArray, ?_, .inr ⟨g, cap, fz, by rw [List.length_append], hbg, by rw [List.length_append]; exact hroom, hcm, hfz, setRow_heap w g _ _ 5 fz hg⟩, ⟨rfl, rfl, rfl, by simp, fun k _ hk => setRow_other w g k _ (fun e => hk (by simp [Value.ownBlock, e]))⟩, .inl rfl⟩
      simp [Builtin.append_, run_underlying Try.underlying22, sizeOf, typeInfo, hi, Builtin.lenOf, hroom, hf, Addr.add_lit, hst]
    · have holds : ∀ j u, (ub l)[j]? = some u → w.cell? ((⟨g, 0, none⟩ : Addr).add j) = some u := fun j u hu => by
        have hj : j < l.length := by have := (List.getElem?_eq_some_iff.mp hu).1; rwa [ub_len] at this
        rw [WideShapes.add_plain, Nat.zero_add, World.cell?, hg]
        simp [rowB, List.getElem?_append_left (show j < (ub l).length by rw [ub_len]; exact hj), hu]
      have hr := run_append_grow (P := Try.prog) w 22 22 5 i0 (.int .u8 0) Try.underlying22 hi hz0 ⟨g, 0, none⟩ l.length cap (ub l) (by rw [hz1, ub_len]; omega) holds ⟨g', off, none⟩ l'.length c (ub l') (by rw [hz1, hm]; omega) hnews (by omega) (by omega) (growslice_fits (by omega) (by rw [hz2]; omega))
      have hge := grownCap_ge w (l.length + l'.length) cap 5
      have h := fin 0 (grownCap w (l.length + l'.length) cap 5) hge (grownCap_le_maxLen w (l.length + l'.length) cap 5 (by unfold maxLen; omega)) (w.drew.alloc (.cells (ub l ++ ub l' ++ List.replicate (grownCap w (l.length + l'.length) cap 5 - (l.length + l'.length)) (Value.int .u8 0)).toArray 5)) (heap_alloc_new w.drew _)
      refine ⟨_, _, hr, ?_, ⟨rfl, rfl, rfl, by simp, fun k hk _ => Below.heap_alloc w.drew _ _ hk⟩, .inr rfl⟩
      rw [zeroCells_one _ rfl]
      simp only [List.append_toArray]
      exact h

/-- Block g is c bytes, none of them frozen. -/
def Bytes (w : World) (g c : Nat) : Prop := ∃ (l : List Int) (fz : Nat × Nat), l.length = c ∧ (fz.2 = 0 ∨ c ≤ fz.1) ∧ w.heap[g]? = some (.cells (l.map (Value.int .u8)).toArray 5 fz)

theorem Bytes.cell {w : World} {g c k : Nat} (h : Bytes w g c) (hk : k < c) : ∃ x : Int, w.cell? ⟨g, k, none⟩ = some (.int .u8 x) := by
  obtain ⟨l, fz, hl, _, hg⟩ := h
  refine ⟨l.getD k 0, ?_⟩
  rw [World.cell?, hg]
  simp [hl, hk]

theorem Bytes.frozen {w : World} {g c k : Nat} (h : Bytes w g c) (hk : k < c) : w.frozen? ⟨g, k, none⟩ = false := by
  obtain ⟨l, fz, hl, hz, hg⟩ := h
  have : ¬ (fz.1 ≤ k ∧ k < fz.2) := by omega
  simp only [World.frozen?, hg]
  simpa using this

theorem Bytes.set {w : World} {g c k : Nat} (h : Bytes w g c) (x : Int) : Bytes (w.setCell ⟨g, k, none⟩ (.int .u8 x)) g c := by
  obtain ⟨l, fz, hl, hz, hg⟩ := h
  refine ⟨l.set k x, fz, by simpa using hl, hz, ?_⟩
  simp [World.setCell, Array.getElem?_modify, hg, List.map_set]

set_option maxHeartbeats 400000 in
theorem over_free (w : World) (g n c : Nat) (hn : n ≤ c) (hc : c ≤ 9223372036854775807) (h : Bytes w g c) : Calls Try.prog 15 #[.slice (some ⟨g, 0, none⟩) n c] w fun e w' => e = .returned (.tuple #[]) ∧ Only g w w' := by
  have H := Lib.hid h
  clear h
  go_enter Try.func15, Try.ntmps15
  go_wp2
  go_loopw [3] (fun i wr => ∃ k : Nat, k ≤ c ∧ i = .int .i64 k ∧ Hid (Bytes wr g c) ∧ Hid (Only g w wr)) (fun i _ => c - (intOf i).toNat)
  case atStart => exact ⟨0, Nat.zero_le _, rfl, H, Lib.hid (Only.refl g w)⟩
  case round =>
    obtain ⟨k, hk, rfl, HB, HO⟩ := hrel
    by_cases hlt : k < c
    · obtain ⟨x, hx⟩ := HB.out.cell hlt
      have hf := HB.out.frozen hlt
      go_wp2
      go_roundw
      case rel => exact ⟨k + 1, by omega, by go_num, Lib.hid (HB.out.set _), Lib.hid (HO.out.set _)⟩
      case measure => simp [intOf]; omega
    · go_wp2
      go_end0
      exact ⟨rfl, HO.out⟩

/-- Its row alone turns. -/
theorem over_B {w : World} {B : Nat} {v : Value} {l : List UInt8} (h : OwnB w B v l) : Calls Try.prog 15 #[v] w fun e w' => e = .returned (.tuple #[]) ∧ Aside (fun b => B ≤ b ∧ v.ownBlock = some b) w w' := by
  rcases h with ⟨rfl, rfl⟩ | ⟨g, cap, fz, rfl, hB, hl, hm, hz, hg⟩
  · exact (over_nil w).mono fun e w' ⟨he, hw⟩ => ⟨he, by subst hw; exact Aside.refl _ w⟩
  · have hlist : rowB l cap = (iz l ++ List.replicate (cap - l.length) 0).map (Value.int .u8) := by
      unfold rowB
      rw [List.map_append, ub_iz, List.map_replicate]
    refine (over_free w g l.length cap hl (by unfold maxLen at hm; omega) ⟨iz l ++ List.replicate (cap - l.length) 0, fz, by simp; omega, hz, by rw [hg, hlist]⟩).mono fun e w' ⟨he, hw⟩ => ⟨he, hw.1, hw.2.1, hw.2.2.1, by rw [hw.2.2.2.1]; exact Nat.le_refl _, fun k hk hk2 => hw.2.2.2.2 k fun e => hk2 ⟨by omega, by subst e; rfl⟩⟩
end Go.Proofs.Ytckmjpnkjnihlaa
