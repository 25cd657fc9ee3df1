/-
  octet.Put16, Put32.
-/
import Derived.Test.YteegekpanadmkaaGreatV00
import Derived.Test.YteegekpanadmkaaGreatV01
import Derived.Laws.CopyOwn
import Derived.Deep.RegionHeld3
import Derived.Maps.OwnSet
import Derived.LaidEqlPtr
import Derived.Outline
import Derived.Deep.LoopGhost
import Derived.BigQuiet
import Derived.Deep.RegionLaw
import Derived.Laws.OwnMore
namespace Go.Proofs.YteegekpanadmkaaGreat
open Go.RowKit
set_option linter.unusedVariables false
set_option maxRecDepth 100000

def putE (m n : Int) : Int := if 0 ≤ n ∧ n ≤ m then 0 else 5

def putL2 (n : Int) : List Int := if 0 ≤ n ∧ n ≤ 65535 then [n / 256, n % 256] else []

def putL4 (n : Int) : List Int := if 0 ≤ n ∧ n ≤ 4294967295 then [n / 256 / 256 / 256, n / 256 / 256 % 256, n / 256 % 256, n % 256] else []

def PutPost (w : World) (E : Int) (L : List Int) (e : Ending) (w' : World) : Prop :=
  ∃ v g, e = .returned (.tuple #[v, .int .i64 E]) ∧ Own w' g v L ∧ w.heap.size ≤ g ∧ g < w'.heap.size ∧ Below w.heap.size w w'

set_option maxHeartbeats 400000 in
theorem put2_any (n : Int) (w : World) : Calls Tryz.prog 87 #[.int .i64 n] w (PutPost w (putE 65535 n) (putL2 n)) := by
  have hm := make2
  by_cases h : 0 ≤ n ∧ n ≤ 65535
  · have e1 : putE 65535 n = 0 := by unfold putE; rw [if_pos h]
    have e2 : putL2 n = [n / 256, n % 256] := by unfold putL2; rw [if_pos h]
    rw [e1, e2]
    clear e1 e2
    obtain ⟨h0, h1⟩ := h
    go_enter Tryz.func87, Tryz.ntmps87
    go_wp2
    refine wp_loop_rounds 3 ?_
    iterate 3 (rw [rounds_succ]; go_wp2)
    go_ret2
    exact ⟨_, w.heap.size + 1, rfl, .inr ⟨rfl, two_alloc _ _ _⟩, by omega, by simp, ((Below.refl _ _).alloc (Nat.le_refl _) _).alloc (by simp) _⟩
  · have e1 : putE 65535 n = 5 := by unfold putE; rw [if_neg h]
    have e2 : putL2 n = [] := by unfold putL2; rw [if_neg h]
    rw [e1, e2]
    clear e1 e2
    have h : n < 0 ∨ 65535 < n := by omega
    go_enter Tryz.func87, Tryz.ntmps87
    go_wp2
    refine wp_loop_rounds 3 ?_
    iterate 3 (rw [rounds_succ]; go_wp2)
    go_ret2
    exact ⟨_, w.heap.size, rfl, .inl ⟨rfl, rfl⟩, by omega, by simp; omega, ((Below.refl _ _).alloc (Nat.le_refl _) _).alloc (by simp) _⟩

set_option maxHeartbeats 400000 in
theorem put4_any (n : Int) (w : World) : Calls Tryz.prog 174 #[.int .i64 n] w (PutPost w (putE 4294967295 n) (putL4 n)) := by
  have hm := make4
  by_cases h : 0 ≤ n ∧ n ≤ 4294967295
  · have e1 : putE 4294967295 n = 0 := by unfold putE; rw [if_pos h]
    have e2 : putL4 n = [n / 256 / 256 / 256, n / 256 / 256 % 256, n / 256 % 256, n % 256] := by unfold putL4; rw [if_pos h]
    rw [e1, e2]
    clear e1 e2
    obtain ⟨h0, h1⟩ := h
    go_enter Tryz.func174, Tryz.ntmps174
    go_wp2
    refine wp_loop_rounds 5 ?_
    iterate 5 (rw [rounds_succ]; go_wp2)
    go_ret2
    exact ⟨_, w.heap.size + 1, rfl, .inr ⟨rfl, two_alloc _ _ _⟩, by omega, by simp, ((Below.refl _ _).alloc (Nat.le_refl _) _).alloc (by simp) _⟩
  · have e1 : putE 4294967295 n = 5 := by unfold putE; rw [if_neg h]
    have e2 : putL4 n = [] := by unfold putL4; rw [if_neg h]
    rw [e1, e2]
    clear e1 e2
    have h : n < 0 ∨ 4294967295 < n := by omega
    go_enter Tryz.func174, Tryz.ntmps174
    go_wp2
    refine wp_loop_rounds 5 ?_
    iterate 5 (rw [rounds_succ]; go_wp2)
    go_ret2
    exact ⟨_, w.heap.size, rfl, .inl ⟨rfl, rfl⟩, by omega, by simp; omega, ((Below.refl _ _).alloc (Nat.le_refl _) _).alloc (by simp) _⟩

set_option maxHeartbeats 400000 in
theorem put16_any (n : Int) (w : World) : Calls Tryz.prog 73 #[.int .i64 n] w (PutPost w (putE 65535 n) (putL2 n)) := by
  go_enter Tryz.func73, Tryz.ntmps73
  go_wp2_with (go_at_call 87; refine (put2_any n _).mono ?_; rintro e w1 ⟨v, g, rfl, h1, h2, h3, h4⟩; have H1 := Lib.hid h1; have H2 := Lib.hid h2; have H3 := Lib.hid h3; have H4 := Lib.hid h4; clear h1 h2 h3 h4)
  go_ret2
  exact ⟨v, g, rfl, H1.out, H2.out, H3.out, H4.out⟩

set_option maxHeartbeats 400000 in
theorem put32_any (n : Int) (w : World) : Calls Tryz.prog 168 #[.int .i64 n] w (PutPost w (putE 4294967295 n) (putL4 n)) := by
  go_enter Tryz.func168, Tryz.ntmps168
  go_wp2_with (go_at_call 174; refine (put4_any n _).mono ?_; rintro e w1 ⟨v, g, rfl, h1, h2, h3, h4⟩; have H1 := Lib.hid h1; have H2 := Lib.hid h2; have H3 := Lib.hid h3; have H4 := Lib.hid h4; clear h1 h2 h3 h4)
  go_ret2
  exact ⟨v, g, rfl, H1.out, H2.out, H3.out, H4.out⟩

end Go.Proofs.YteegekpanadmkaaGreat

/-
  OverBytes: that row alone turns.
-/
namespace Go.Proofs.YteegekpanadmkaaGreat
open Go.RowKit
set_option linter.unusedVariables false
set_option maxRecDepth 100000

set_option maxHeartbeats 400000 in
theorem over_nil (w : World) : Calls Tryz.prog 15 #[.slice none 0 0] w fun e w' => e = .returned (.tuple #[]) ∧ w = w' := by
  go_enter Tryz.func15, Tryz.ntmps15
  go_wp2
  go_loop [3] (fun i => i = .int .i64 0) (fun _ => 0)
  case atStart => rfl
  case round =>
    subst hrel
    go_wp2
    go_end0
    exact ⟨rfl, rfl⟩

end Go.Proofs.YteegekpanadmkaaGreat

/-
  Rows of bytes of the call's own, made by append or out of a text: nothing of them is frozen, what lies behind their length is zeros.
-/
namespace Go.Proofs.YteegekpanadmkaaGreat
open Go.RowKit Go.Shelf
set_option linter.unusedVariables false
set_option maxRecDepth 100000

def rowB (l : List UInt8) (cap : Nat) : List Value := ub l ++ List.replicate (cap - l.length) (.int .u8 0)

theorem ub_len (l : List UInt8) : (ub l).length = l.length := by simp [ub]
theorem ub_iz (l : List UInt8) : ub l = (iz l).map (Value.int .u8) := by unfold ub iz; rw [List.map_map]; rfl
theorem ub_app (a b : List UInt8) : ub (a ++ b) = ub a ++ ub b := List.map_append
theorem rowB_len {l : List UInt8} {cap : Nat} (h : l.length ≤ cap) : (rowB l cap).length = cap := by unfold rowB; rw [List.length_append, ub_len, List.length_replicate]; omega
theorem rowB_get {l : List UInt8} {cap j : Nat} (h : j < l.length) : (rowB l cap)[j]? = some (.int .u8 ((l.getD j 0).toNat : Nat)) := by
  unfold rowB
  rw [List.getElem?_append_left (by rw [ub_len]; exact h), ub, List.getElem?_map, List.getElem?_eq_getElem h, List.getD, List.getElem?_eq_getElem h]
  rfl

def OwnB (w : World) (B : Nat) (v : Value) (l : List UInt8) : Prop :=
  (v = .slice none 0 0 ∧ l = []) ∨ ∃ g cap, ∃ fz : Nat × Nat, v = .slice (some ⟨g, 0, none⟩) l.length cap ∧ B ≤ g ∧ l.length ≤ cap ∧ cap ≤ maxLen ∧ (fz.2 = 0 ∨ cap ≤ fz.1) ∧ w.heap[g]? = some (.cells (rowB l cap).toArray 5 fz)

section
variable {w w' : World} {B B' : Nat} {v : Value} {l : List UInt8} {G : Nat → Prop}
theorem OwnB.nil (w : World) (B : Nat) : OwnB w B (.slice .none 0 0) [] := .inl ⟨rfl, rfl⟩
theorem OwnB.lt (h : OwnB w B v l) : ∀ k, v.ownBlock = some k → B ≤ k ∧ k < w.heap.size := by
  intro k hk
  rcases h with ⟨rfl, _⟩ | ⟨g, cap, fz, rfl, hB, _, _, _, hg⟩
  · simp [Value.ownBlock] at hk
  · simp [Value.ownBlock] at hk
    subst hk
    exact ⟨hB, (Array.getElem?_eq_some_iff.1 hg).1⟩
theorem OwnB.aside (h : OwnB w B v l) (ha : Aside G w w') (hG : ∀ b, v.ownBlock = some b → ¬ G b) : OwnB w' B v l := by
  have hlt := h.lt
  rcases h with h2 | ⟨g, cap, fz, hv, hg, h1, h2, h3, hh⟩
  · exact .inl h2
  · exact .inr ⟨g, cap, fz, hv, hg, h1, h2, h3, (ha.block g (by subst hv; exact (hlt g rfl).2) (hG g (by rw [hv]; rfl))).trans hh⟩
theorem OwnB.mono (h : OwnB w B v l) (hB : B' ≤ B) : OwnB w B' v l := by
  rcases h with h2 | ⟨g, cap, fz, hv, hg, r⟩
  · exact .inl h2
  · exact .inr ⟨g, cap, fz, hv, Nat.le_trans hB hg, r⟩
theorem OwnB.below (h : OwnB w B v l) (hb : Below w.heap.size w w') : OwnB w' B v l := h.aside (G := fun _ => False) (Aside.of_all hb) fun _ _ h => h
theorem OwnB.shape (h : OwnB w B v l) : ∃ a c, v = .slice a l.length c := by
  rcases h with ⟨rfl, rfl⟩ | ⟨g, cap, fz, rfl, _⟩
  · exact ⟨none, 0, rfl⟩
  · exact ⟨_, cap, rfl⟩
theorem OwnB.cells (h : OwnB w B v l) {g : Nat} (hg : v.ownBlock = some g) : ∀ j, j < l.length → w.cell? ⟨g, j, none⟩ = some (.int .u8 ((l.getD j 0).toNat : Nat)) := by
  intro j hj
  rcases h with ⟨rfl, _⟩ | ⟨g', cap, fz, rfl, _, _, _, _, hh⟩
  · simp [Value.ownBlock] at hg
  · simp [Value.ownBlock] at hg
    subst hg
    rw [World.cell?, hh]
    simpa using rowB_get (cap := cap) hj
theorem OwnB.sl (h : OwnB w B v l) : Sl w B w.heap.size v (iz l) := by
  have hlt := h.lt
  have hc := fun g hg => h.cells (g := g) hg
  rcases h with ⟨rfl, rfl⟩ | ⟨g, cap, fz, rfl, hB, hl, _, _, hh⟩
  · exact ⟨none, 0, rfl, by simp [iz], fun _ => rfl, fun h => by simp [iz] at h⟩
  · refine ⟨some ⟨g, 0, none⟩, cap, by rw [iz_len], by rw [iz_len]; exact hl, fun h => by simp at h, fun _ => ⟨g, 0, rfl, hB, (hlt g rfl).2, fun j hj => ?_⟩⟩
    rw [iz_len] at hj
    rw [Nat.zero_add, hc g rfl j hj, iz_get l j hj, List.getD, List.getElem?_eq_getElem hj]
    rfl
theorem OwnB.of_own {g : Nat} (h : Own w g v (iz l)) (hl : l.length ≤ 1000000) : OwnB w g v l := by
  rcases h with ⟨h1, h2⟩ | ⟨h1, h2⟩
  · exact .inl ⟨h1, by have := congrArg List.length h2; rw [iz_len] at this; exact List.eq_nil_of_length_eq_zero this⟩
  · rw [iz_len] at h1
    refine .inr ⟨g, l.length, (0, 0), h1, Nat.le_refl _, Nat.le_refl _, by unfold maxLen; omega, .inl rfl, ?_⟩
    rw [h2, rowB, Nat.sub_self, List.replicate_zero, List.append_nil, ub_iz]
end

theorem conv_B (w : World) (s : List UInt8) (hs : s.length ≤ 1000000) : ∃ cap W, (convert 9 28 (.string (bs s))).run Tryz.prog w = .ok (.slice (some ⟨w.heap.size, 0, none⟩) s.length cap) W ∧ OwnB W w.heap.size (.slice (some ⟨w.heap.size, 0, none⟩) s.length cap) s ∧ Below w.heap.size w W ∧ w.heap.size < W.heap.size := by
  have h := run_bytes_of_string (P := Tryz.prog) w 9 28 5 (bs s) Tryz.underlying9 Tryz.underlying28 Tryz.underlying5
  rw [bs_size] at h
  have hge := grownCap_ge w s.length 0 5
  have hlist : (bytesRow (bs s) (grownCap w s.length 0 5)) = (rowB s (grownCap w s.length 0 5)).toArray := by
    unfold bytesRow rowB ub
    rw [bs_size]
    simp [bs]
  have hsz : (rowB s (grownCap w s.length 0 5)).toArray.size = grownCap w s.length 0 5 := by simp only [List.size_toArray, rowB_len hge]
  rw [hlist, hsz] at h
  exact ⟨_, _, h, .inr ⟨w.heap.size, grownCap w s.length 0 5, (grownCap w s.length 0 5, grownCap w s.length 0 5 + 1), rfl, Nat.le_refl _, hge, grownCap_le_maxLen w s.length 0 5 (by unfold maxLen; omega), .inr (Nat.le_refl _), heap_alloc_new w.drew _⟩, (Below.refl _ w).drew.alloc (Nat.le_refl _) _, by simp⟩

theorem store_marked (P : Program) (g t : Nat) (fz : Nat × Nat) : ∀ (vs : List Value) (o i : Nat) (cur : Array Value) (w : World), w.heap[g]? = some (.cells cur t fz) → (fz.2 = 0 ∨ cur.size ≤ fz.1) → o + i + vs.length ≤ cur.size → (∀ x ∈ vs, x.oneCell' = true) →
    (storeCells ⟨g, o, none⟩ vs i).run P w = .ok () (w.setRow g (cur.toList.take (o + i) ++ vs ++ cur.toList.drop (o + i + vs.length)).toArray) := by
  intro vs
  induction vs with
  | nil =>
    intro o i cur w hg _ _ _
    have : cur.toList.take (o + i) ++ [] ++ cur.toList.drop (o + i + ([] : List Value).length) = cur.toList := by simp
    rw [this, Array.toArray_toList, setRow_self w g cur t fz hg]
    rfl
  | cons x r ih =>
    intro o i cur w hg hz hl h1
    rw [List.length_cons] at hl
    have hlt : o + i < cur.size := by omega
    have hx : w.cell? ⟨g, o + i, none⟩ = some cur[o + i] := by simp [World.cell?, hg, hlt]
    have hf : w.frozen? ⟨g, o + i, none⟩ = false := by
      have : ¬ (fz.1 ≤ o + i ∧ o + i < fz.2) := by omega
      simp only [World.frozen?, hg]
      simpa using this
    have hstep : (store ((⟨g, o, none⟩ : Addr).add i) x).run P w = .ok () (w.setRow g (cur.setIfInBounds (o + i) x)) := by
      rw [WideShapes.add_plain, run_store P w _ x _ (h1 x List.mem_cons_self), hx]
      simp [hf, setCell_eq_setRow w g (o + i) cur t fz x hg]
    have hrest := ih o (i + 1) (cur.setIfInBounds (o + i) x) _ (setRow_heap w g cur _ t fz hg) (by simpa using hz) (by simp; omega) (fun y hy => h1 y (List.mem_cons_of_mem _ hy))
    have hlist : (cur.setIfInBounds (o + i) x).toList.take (o + (i + 1)) ++ r ++ (cur.setIfInBounds (o + i) x).toList.drop (o + (i + 1) + r.length) = cur.toList.take (o + i) ++ (x :: r) ++ cur.toList.drop (o + i + (r.length + 1)) := by
      rw [Array.toList_setIfInBounds]
      have hl2 : o + i < cur.toList.length := by simpa using hlt
      rw [show o + (i + 1) = o + i + 1 by omega, List.take_set, List.drop_set_of_lt (by omega), List.take_add_one, List.getElem?_eq_getElem hl2]
      rw [List.set_append_right _ _ (by rw [List.length_take]; omega)]
      have hl3 : cur.toList.length = cur.size := Array.length_toList
      have e1 : o + i - (cur.toList.take (o + i)).length = 0 := by rw [List.length_take]; omega
      rw [e1, Option.toList_some, List.set_cons_zero, List.append_assoc, List.append_assoc, List.append_assoc, List.singleton_append]
      congr 4
      omega
    simp only [storeCells, Sem.run_bind, hstep, Result.andThen_ok, hrest, setRow_setRow, hlist, List.length_cons]

theorem run_appB {w : World} (B : Nat) (v xv : Value) (l l' : List UInt8) {lo hi : Nat} (hown : OwnB w B v l) (hx : Sl w lo hi xv (iz l')) (h0 : 0 < l'.length) (hb : l.length + l'.length ≤ 1000000) (hB : B ≤ w.heap.size) :
    ∃ v' w', (Builtin.append_ #[28, 28] 28 #[v, xv]).run Tryz.prog w = .ok v' w' ∧ OwnB w' B v' (l ++ l') ∧ w.grownBy w' v.ownBlock ∧ (v'.ownBlock = v.ownBlock ∨ v'.ownBlock = some w.heap.size) := by
  obtain ⟨i0, hi, hz0, hz1, hz2⟩ := info_parts Tryz.info5
  obtain ⟨ad, c, rfl, hc, hn, hp⟩ := hx
  rw [iz_len] at hc hp
  rw [iz_len]
  obtain ⟨g', off, rfl, _, _, hcell⟩ := hp h0
  have hnews : ∀ j u, (ub l')[j]? = some u → w.cell? ((⟨g', off, none⟩ : Addr).add j) = some u := by
    intro j u hu
    have hj : j < l'.length := by have := (List.getElem?_eq_some_iff.mp hu).1; rwa [ub_len] at this
    rw [WideShapes.add_plain, hcell j hj, iz_get l' j hj]
    rw [ub, List.getElem?_map, List.getElem?_eq_getElem hj] at hu
    exact hu
  have hm : (ub l').length = l'.length := ub_len _
  have fin : ∀ (need cap : Nat), l.length + l'.length ≤ cap → cap ≤ maxLen → ∀ W, W.heap[w.heap.size]? = some (.cells (ub l ++ ub l' ++ List.replicate (cap - (l.length + l'.length)) (Value.int .u8 0)).toArray 5 (0, 0)) →
      OwnB W B (.slice (some ⟨w.heap.size, 0, none⟩) (l.length + l'.length) cap) (l ++ l') := fun need cap h1 h2 W hW => by
    refine .inr ⟨w.heap.size, cap, (0, 0), by rw [List.length_append], hB, by rw [List.length_append]; exact h1, h2, .inl rfl, ?_⟩
    rw [hW, rowB, ub_app, List.length_append]
  rcases hown with ⟨rfl, rfl⟩ | ⟨g, cap, fz, rfl, hbg, hlc, hcm, hfz, hg⟩
  · have hr := run_append_nil (P := Tryz.prog) w 28 28 5 i0 (.int .u8 0) Tryz.underlying28 hi hz0 ⟨g', off, none⟩ l'.length c (ub l') (by rw [hz1, hm]; omega) hnews (by omega) (by simp at hb; omega) (by rw [hz2]; simp at hb; omega)
    have hge := grownCap_ge w l'.length 0 5
    have h := fin 0 (grownCap w l'.length 0 5) (by simpa using hge) (grownCap_le_maxLen w l'.length 0 5 (by simp at hb; unfold maxLen; omega)) (w.drew.alloc (.cells (ub l' ++ List.replicate (grownCap w l'.length 0 5 - l'.length) (Value.int .u8 0)).toArray 5)) (by
      refine (heap_alloc_new w.drew _).trans ?_
      simp [ub])
    simp only [List.length_nil, Nat.zero_add] at h
    refine ⟨_, _, hr, ?_, ⟨rfl, rfl, rfl, by simp, fun k hk _ => Below.heap_alloc w.drew _ _ hk⟩, .inr rfl⟩
    rw [zeroCells_one _ rfl]
    simp only [List.append_toArray]
    exact h
  · by_cases hroom : l.length + l'.length ≤ cap
    · have hf := run_firstCells_some (P := Tryz.prog) w i0.size l'.length ⟨g', off, none⟩ l'.length c (ub l') (by rw [hz1, hm]; omega) hnews
      have hst := store_marked Tryz.prog g 5 fz (ub l') (l.length * i0.size) 0 _ w hg (by simpa [rowB_len hlc] using hfz) (by simp [rowB_len hlc, hz1, hm]; omega) (ub_one _)
      have hlist : (rowB l cap).toArray.toList.take (l.length * i0.size + 0) ++ ub l' ++ (rowB l cap).toArray.toList.drop (l.length * i0.size + 0 + (ub l').length) = rowB (l ++ l') cap := by
        rw [hz1, hm]
        unfold rowB
        simp only [Nat.mul_one, Nat.add_zero]
        rw [List.take_left' (ub_len l), ub_app, List.length_append, List.append_assoc, List.append_assoc, List.drop_append, List.drop_eq_nil_of_le (by rw [ub_len]; omega), List.nil_append, List.drop_replicate, ub_len]
        congr 3
        omega
      rw [hlist] at hst
      refine ⟨.slice (some ⟨g, 0, none⟩) (l.length + l'.length) cap, w.setRow g (rowB (l ++ l') cap).toArray, ?_, .inr ⟨g, cap, fz, by rw [List.length_append], hbg, by rw [List.length_append]; exact hroom, hcm, hfz, setRow_heap w g _ _ 5 fz hg⟩, ⟨rfl, rfl, rfl, by simp, fun k _ hk => setRow_other w g k _ (fun e => hk (by simp [Value.ownBlock, e]))⟩, .inl rfl⟩
      simp [Builtin.append_, run_underlying Tryz.underlying28, sizeOf, typeInfo, hi, Builtin.lenOf, hroom, hf, Addr.add_lit, hst]
    · have holds : ∀ j u, (ub l)[j]? = some u → w.cell? ((⟨g, 0, none⟩ : Addr).add j) = some u := fun j u hu => by
        have hj : j < l.length := by have := (List.getElem?_eq_some_iff.mp hu).1; rwa [ub_len] at this
        rw [WideShapes.add_plain, Nat.zero_add, World.cell?, hg]
        simp [rowB, List.getElem?_append_left (show j < (ub l).length by rw [ub_len]; exact hj), hu]
      have hr := run_append_grow (P := Tryz.prog) w 28 28 5 i0 (.int .u8 0) Tryz.underlying28 hi hz0 ⟨g, 0, none⟩ l.length cap (ub l) (by rw [hz1, ub_len]; omega) holds ⟨g', off, none⟩ l'.length c (ub l') (by rw [hz1, hm]; omega) hnews (by omega) (by omega) (growslice_fits (by omega) (by rw [hz2]; omega))
      have hge := grownCap_ge w (l.length + l'.length) cap 5
      have h := fin 0 (grownCap w (l.length + l'.length) cap 5) hge (grownCap_le_maxLen w (l.length + l'.length) cap 5 (by unfold maxLen; omega)) (w.drew.alloc (.cells (ub l ++ ub l' ++ List.replicate (grownCap w (l.length + l'.length) cap 5 - (l.length + l'.length)) (Value.int .u8 0)).toArray 5)) (heap_alloc_new w.drew _)
      refine ⟨_, _, hr, ?_, ⟨rfl, rfl, rfl, by simp, fun k hk _ => Below.heap_alloc w.drew _ _ hk⟩, .inr rfl⟩
      rw [zeroCells_one _ rfl]
      simp only [List.append_toArray]
      exact h

def Bytes (w : World) (g c : Nat) : Prop := ∃ (l : List Int) (fz : Nat × Nat), l.length = c ∧ (fz.2 = 0 ∨ c ≤ fz.1) ∧ w.heap[g]? = some (.cells (l.map (Value.int .u8)).toArray 5 fz)

theorem Bytes.cell {w : World} {g c k : Nat} (h : Bytes w g c) (hk : k < c) : ∃ x : Int, w.cell? ⟨g, k, none⟩ = some (.int .u8 x) := by
  obtain ⟨l, fz, hl, _, hg⟩ := h
  refine ⟨l.getD k 0, ?_⟩
  rw [World.cell?, hg]
  simp [hl, hk]

theorem Bytes.frozen {w : World} {g c k : Nat} (h : Bytes w g c) (hk : k < c) : w.frozen? ⟨g, k, none⟩ = false := by
  obtain ⟨l, fz, hl, hz, hg⟩ := h
  have : ¬ (fz.1 ≤ k ∧ k < fz.2) := by omega
  simp only [World.frozen?, hg]
  simpa using this

theorem Bytes.set {w : World} {g c k : Nat} (h : Bytes w g c) (x : Int) : Bytes (w.setCell ⟨g, k, none⟩ (.int .u8 x)) g c := by
  obtain ⟨l, fz, hl, hz, hg⟩ := h
  refine ⟨l.set k x, fz, by simpa using hl, hz, ?_⟩
  simp [World.setCell, Array.getElem?_modify, hg, List.map_set]

set_option maxHeartbeats 400000 in
theorem over_free (w : World) (g n c : Nat) (hn : n ≤ c) (hc : c ≤ 9223372036854775807) (h : Bytes w g c) : Calls Tryz.prog 15 #[.slice (some ⟨g, 0, none⟩) n c] w fun e w' => e = .returned (.tuple #[]) ∧ Only g w w' := by
  have H := Lib.hid h
  clear h
  go_enter Tryz.func15, Tryz.ntmps15
  go_wp2
  go_loopw [3] (fun i wr => ∃ k : Nat, k ≤ c ∧ i = .int .i64 k ∧ Hid (Bytes wr g c) ∧ Hid (Only g w wr)) (fun i _ => c - (intOf i).toNat)
  case atStart => exact ⟨0, Nat.zero_le _, rfl, H, Lib.hid (Only.refl g w)⟩
  case round =>
    obtain ⟨k, hk, rfl, HB, HO⟩ := hrel
    by_cases hlt : k < c
    · obtain ⟨x, hx⟩ := HB.out.cell hlt
      have hf := HB.out.frozen hlt
      go_wp2
      go_roundw
      case rel => exact ⟨k + 1, by omega, by go_num, Lib.hid (HB.out.set _), Lib.hid (HO.out.set _)⟩
      case measure => simp [intOf]; omega
    · go_wp2
      go_end0
      exact ⟨rfl, HO.out⟩

theorem over_B {w : World} {B : Nat} {v : Value} {l : List UInt8} (h : OwnB w B v l) : Calls Tryz.prog 15 #[v] w fun e w' => e = .returned (.tuple #[]) ∧ Aside (fun b => B ≤ b ∧ v.ownBlock = some b) w w' := by
  rcases h with ⟨rfl, rfl⟩ | ⟨g, cap, fz, rfl, hB, hl, hm, hz, hg⟩
  · exact (over_nil w).mono fun e w' ⟨he, hw⟩ => ⟨he, by subst hw; exact Aside.refl _ w⟩
  · have hlist : rowB l cap = (iz l ++ List.replicate (cap - l.length) 0).map (Value.int .u8) := by
      unfold rowB
      rw [List.map_append, ub_iz, List.map_replicate]
    refine (over_free w g l.length cap hl (by unfold maxLen at hm; omega) ⟨iz l ++ List.replicate (cap - l.length) 0, fz, by simp; omega, hz, by rw [hg, hlist]⟩).mono fun e w' ⟨he, hw⟩ => ⟨he, hw.1, hw.2.1, hw.2.2.1, by rw [hw.2.2.2.1]; exact Nat.le_refl _, fun k hk hk2 => hw.2.2.2.2 k fun e => hk2 ⟨by omega, by subst e; rfl⟩⟩
end Go.Proofs.YteegekpanadmkaaGreat

/-
  Tails of names, and what a packer knows of them; plainly.
-/
namespace Go.Proofs.YteegekpanadmkaaGreat
open Go.RowKit Go.Shelf
set_option linter.unusedVariables false
set_option maxRecDepth 100000

def nm (ls : List (List UInt8)) : List UInt8 := wire ls ++ [0]

def pos (ls : List (List UInt8)) (k : Nat) : Nat := (wire (ls.take k)).length

theorem nm_len (ls : List (List UInt8)) : (nm ls).length = (wire ls).length + 1 := by simp [nm]
theorem wire_split (ls : List (List UInt8)) (k : Nat) : wire ls = wire (ls.take k) ++ wire (ls.drop k) := by rw [← wire_app, List.take_append_drop]
theorem nm_drop (ls : List (List UInt8)) (k : Nat) : (nm ls).drop (pos ls k) = nm (ls.drop k) := by
  unfold nm pos
  rw [wire_split ls k, List.append_assoc, List.drop_left]
theorem nm_take (ls : List (List UInt8)) (k : Nat) : (nm ls).take (pos ls k) = wire (ls.take k) := by
  unfold nm pos
  rw [wire_split ls k, List.append_assoc, List.take_left]
theorem pos_le (ls : List (List UInt8)) (k : Nat) : pos ls k ≤ (wire ls).length := by
  rw [wire_split ls k, List.length_append]; unfold pos; omega
theorem pos_zero (ls : List (List UInt8)) : pos ls 0 = 0 := by simp [pos, wire]
theorem pos_succ {ls : List (List UInt8)} {k : Nat} (h : k < ls.length) : pos ls (k + 1) = pos ls k + (1 + ls[k].length) := by
  unfold pos
  rw [List.take_add_one, List.getElem?_eq_getElem h, Option.toList_some, wire_snoc]
theorem pos_rest (ls : List (List UInt8)) (k : Nat) : (wire (ls.drop k)).length + pos ls k = (wire ls).length := by
  rw [wire_split ls k, List.length_append]; unfold pos; omega
theorem nm_at {ls : List (List UInt8)} {k : Nat} (h : k < ls.length) (hs : ∀ x ∈ ls, 0 < x.length ∧ x.length ≤ 63) : ∃ hp : pos ls k < (nm ls).length, (nm ls)[pos ls k].toNat = ls[k].length := by
  have hp : pos ls k < (nm ls).length := by rw [nm_len]; have := pos_le ls k; omega
  refine ⟨hp, ?_⟩
  have e := nm_drop ls k
  rw [List.drop_eq_getElem_cons hp, List.drop_eq_getElem_cons h] at e
  have e1 : (nm ls)[pos ls k] = UInt8.ofNat ls[k].length := by
    unfold nm at e
    rw [wire] at e
    injection e
  have := hs ls[k] (List.getElem_mem h)
  rw [e1, UInt8.toNat_ofNat']
  omega
theorem nm_end (ls : List (List UInt8)) : ∃ hp : pos ls ls.length < (nm ls).length, (nm ls)[pos ls ls.length].toNat = 0 := by
  have hp : pos ls ls.length < (nm ls).length := by rw [nm_len]; have := pos_le ls ls.length; omega
  refine ⟨hp, ?_⟩
  have e := nm_drop ls ls.length
  rw [List.drop_eq_getElem_cons hp, List.drop_length] at e
  have e1 : (nm ls)[pos ls ls.length] = 0 := by
    unfold nm at e
    rw [wire] at e
    injection e
  rw [e1]; rfl
theorem shorts_drop {ls : List (List UInt8)} (h : Shorts ls) (k : Nat) : Shorts (ls.drop k) :=
  ⟨fun x hx => h.1 x (List.mem_of_mem_drop hx), by have := pos_rest ls k; have := h.2; omega⟩
theorem nm_inj {a b : List (List UInt8)} (ha : Shorts a) (hb : Shorts b) (h : nm a = nm b) : a = b := by
  have h1 := shorts_labs ha
  have h2 := shorts_labs hb
  unfold nm at h
  rw [h] at h1
  exact h1.symm.trans h2
theorem nm_nil {ls : List (List UInt8)} (h : nm ls = [0]) : ls = [] := by
  cases ls with
  | nil => rfl
  | cons x r =>
    have := congrArg List.length h
    simp [nm, wire] at this
theorem len_wire (ls : List (List UInt8)) : ls.length ≤ (wire ls).length := by
  induction ls with
  | nil => simp
  | cons x r ih => simp [wire]; omega

def plc (K : List (List UInt8 × Nat)) (n : List UInt8) : Option Nat := (K.find? (fun p => p.1 == n)).map (·.2)

theorem plc_app (K K' : List (List UInt8 × Nat)) (n : List UInt8) : plc (K ++ K') n = (plc K n).or (plc K' n) := by
  unfold plc
  rw [List.find?_append]
  cases K.find? (fun p => p.1 == n) <;> simp
theorem plc_none {K : List (List UInt8 × Nat)} {n : List UInt8} (h : ∀ p ∈ K, p.1 ≠ n) : plc K n = none := by
  unfold plc
  rw [List.find?_eq_none.mpr (fun p hp => by simpa using h p hp)]
  rfl
theorem plc_mem {K : List (List UInt8 × Nat)} {n : List UInt8} {x : Nat} (h : plc K n = some x) : (n, x) ∈ K := by
  unfold plc at h
  obtain ⟨p, hp, rfl⟩ := Option.map_eq_some_iff.mp h
  have h1 := List.find?_some hp
  have h2 := List.mem_of_find?_eq_some hp
  have : p.1 = n := by simpa using h1
  subst this
  exact h2
theorem plc_one (n m : List UInt8) (x : Nat) : plc [(n, x)] m = if n = m then some x else none := by
  unfold plc
  by_cases h : n = m <;> simp [h]

def hdn (K : List (List UInt8 × Nat)) : List (List UInt8) → Nat
  | [] => 0
  | l :: r => if (plc K (nm (l :: r))).isSome then 0 else hdn K r + 1

theorem hdn_le (K : List (List UInt8 × Nat)) (ls : List (List UInt8)) : hdn K ls ≤ ls.length := by
  induction ls with
  | nil => simp [hdn]
  | cons l r ih => unfold hdn; split <;> simp <;> omega
theorem hdn_step (K : List (List UInt8 × Nat)) (ls : List (List UInt8)) (k : Nat) (hk : k < ls.length) (h : hdn K ls = k + hdn K (ls.drop k)) :
    (∀ x, plc K (nm (ls.drop k)) = some x → hdn K ls = k) ∧ (plc K (nm (ls.drop k)) = none → hdn K ls = (k + 1) + hdn K (ls.drop (k + 1))) := by
  have e : ls.drop k = ls[k] :: ls.drop (k + 1) := List.drop_eq_getElem_cons hk
  rw [e] at h ⊢
  rw [hdn] at h
  constructor
  · intro x hx
    rw [hx] at h
    simpa using h
  · intro hx
    rw [hx] at h
    simp at h
    omega
theorem hdn_none {K : List (List UInt8 × Nat)} : ∀ {ls : List (List UInt8)} {k : Nat}, k < hdn K ls → plc K (nm (ls.drop k)) = none
  | [], k, h => by simp [hdn] at h
  | l :: r, k, h => by
    unfold hdn at h
    split at h
    · omega
    · rename_i hn
      cases k with
      | zero => simpa using hn
      | succ k => exact hdn_none (ls := r) (by omega)
theorem hdn_stop {K : List (List UInt8 × Nat)} : ∀ {ls : List (List UInt8)}, hdn K ls < ls.length → ∃ x, plc K (nm (ls.drop (hdn K ls))) = some x
  | [], h => by simp at h
  | l :: r, h => by
    by_cases hs : (plc K (nm (l :: r))).isSome
    · have e : hdn K (l :: r) = 0 := by unfold hdn; rw [if_pos hs]
      rw [e]
      exact Option.isSome_iff_exists.mp hs
    · have e : hdn K (l :: r) = hdn K r + 1 := by conv => lhs; unfold hdn; rw [if_neg hs]
      rw [e] at h ⊢
      exact hdn_stop (ls := r) (by simpa using h)

def fr (at_ : Nat) : List (List UInt8) → Nat → List (List UInt8 × Nat)
  | [], _ => []
  | _ :: _, 0 => []
  | l :: r, h + 1 => (if at_ < 16384 then [(nm (l :: r), at_)] else []) ++ fr (at_ + (1 + l.length)) r h

theorem fr_zero (at_ : Nat) (ls : List (List UInt8)) : fr at_ ls 0 = [] := by cases ls <;> rfl
theorem fr_succ : ∀ (ls : List (List UInt8)) (at_ k : Nat), k < ls.length → fr at_ ls (k + 1) = fr at_ ls k ++ (if at_ + pos ls k < 16384 then [(nm (ls.drop k), at_ + pos ls k)] else [])
  | [], _, _, h => by simp at h
  | l :: r, at_, 0, h => by rw [pos_zero, List.drop_zero, fr_zero, fr, fr_zero, List.append_nil, Nat.add_zero, List.nil_append]
  | l :: r, at_, k + 1, h => by
    have e : pos (l :: r) (k + 1) = 1 + l.length + pos r k := by unfold pos; simp [wire]; omega
    rw [fr, fr_succ r _ k (by simpa using h), fr, e, List.drop_succ_cons, List.append_assoc]
    rw [show at_ + (1 + l.length) + pos r k = at_ + (1 + l.length + pos r k) by omega]
theorem pos_mono (ls : List (List UInt8)) {j k : Nat} (h : j ≤ k) : pos ls j ≤ pos ls k := by
  unfold pos
  rw [show ls.take j = (ls.take k).take j by rw [List.take_take, Nat.min_eq_left h], wire_split (ls.take k) j, List.length_append]
  omega
theorem fr_stop {ls : List (List UInt8)} {at_ k : Nat} (hf : 16384 ≤ at_ + pos ls k) : ∀ h, k ≤ h → h ≤ ls.length → fr at_ ls h = fr at_ ls k := by
  intro h hk
  induction h with
  | zero => intro _; rw [Nat.le_zero.mp hk]
  | succ h ih =>
    intro hl
    by_cases e : k = h + 1
    · rw [e]
    · rw [fr_succ ls at_ h (by omega), ih (by omega) (by omega), if_neg (by have := pos_mono ls (show k ≤ h by omega); omega), List.append_nil]
theorem fr_mem {ls : List (List UInt8)} {at_ : Nat} : ∀ {h : Nat}, h ≤ ls.length → ∀ p ∈ fr at_ ls h, ∃ j, j < h ∧ p = (nm (ls.drop j), at_ + pos ls j) ∧ at_ + pos ls j < 16384 := by
  intro h
  induction h with
  | zero => intro _ p hp; rw [fr_zero] at hp; simp at hp
  | succ h ih =>
    intro hl p hp
    rw [fr_succ ls at_ h (by omega)] at hp
    rcases List.mem_append.mp hp with hp | hp
    · obtain ⟨j, h1, h2⟩ := ih (by omega) p hp
      exact ⟨j, by omega, h2⟩
    · split at hp
      · rename_i hlt
        exact ⟨h, by omega, List.mem_singleton.mp hp, hlt⟩
      · simp at hp
theorem fr_len (ls : List (List UInt8)) (at_ : Nat) : ∀ h, (fr at_ ls h).length ≤ h := by
  induction ls generalizing at_ with
  | nil => intro h; simp [fr]
  | cons l r ih =>
    intro h
    cases h with
    | zero => rw [fr_zero]; simp
    | succ h => rw [fr, List.length_append]; have := ih (at_ + (1 + l.length)) h; split <;> simp <;> omega

theorem fr_fresh {K : List (List UInt8 × Nat)} {ls : List (List UInt8)} {at_ k : Nat} (hk : k < ls.length) (h : plc K (nm (ls.drop k)) = none) : plc (K ++ fr at_ ls k) (nm (ls.drop k)) = none := by
  rw [plc_app, h, Option.none_or]
  refine plc_none fun p hp => ?_
  obtain ⟨j, h1, rfl, _⟩ := fr_mem (by omega) p hp
  intro e
  have := congrArg List.length e
  rw [nm_len, nm_len] at this
  have h2 := pos_rest ls j
  have h3 := pos_rest ls k
  have h4 := pos_mono ls (show j + 1 ≤ k by omega)
  rw [pos_succ (show j < ls.length by omega)] at h4
  omega

def GoodK (K : List (List UInt8 × Nat)) : Prop := ∀ p ∈ K, p.2 < 16384 ∧ ∃ ls, ls ≠ [] ∧ Shorts ls ∧ p.1 = nm ls

theorem good_nil : GoodK [] := fun p hp => by simp at hp
theorem good_fr {K : List (List UInt8 × Nat)} (h : GoodK K) {ls : List (List UInt8)} (hs : Shorts ls) (at_ : Nat) {k : Nat} (hk : k ≤ ls.length) : GoodK (K ++ fr at_ ls k) := fun p hp => by
  rcases List.mem_append.mp hp with hp | hp
  · exact h p hp
  · obtain ⟨j, h1, rfl, h2⟩ := fr_mem hk p hp
    exact ⟨h2, ls.drop j, fun e => by have := congrArg List.length e; rw [List.length_drop, List.length_nil] at this; omega, shorts_drop hs j, rfl⟩
theorem good_root {K : List (List UInt8 × Nat)} (h : GoodK K) : plc K [0] = none := plc_none fun p hp e => by
  obtain ⟨_, ls, h1, _, h2⟩ := h p hp
  exact h1 (nm_nil (h2.symm.trans e))
theorem good_lt {K : List (List UInt8 × Nat)} (h : GoodK K) {n : List UInt8} {x : Nat} (hx : plc K n = some x) : x < 16384 := (h _ (plc_mem hx)).1

def pb (x : Nat) : List UInt8 := [UInt8.ofNat (192 + x / 256), UInt8.ofNat (x % 256)]
def restb (K : List (List UInt8 × Nat)) (t : List UInt8) : List UInt8 := match plc K t with | some x => pb x | none => t

def told (K : List (List UInt8 × Nat)) (ls : List (List UInt8)) : List UInt8 := wire (ls.take (hdn K ls)) ++ restb K (nm (ls.drop (hdn K ls)))

theorem restb_len (K : List (List UInt8 × Nat)) (t : List UInt8) : (restb K t).length ≤ t.length + 2 := by
  unfold restb
  cases plc K t <;> simp [pb]
theorem restb_pos {K : List (List UInt8 × Nat)} {t : List UInt8} (h : 0 < t.length) : 0 < (restb K t).length := by
  unfold restb
  cases plc K t <;> simp [pb]
  exact h
theorem told_pos (K : List (List UInt8 × Nat)) (ls : List (List UInt8)) : 0 < (told K ls).length := by
  unfold told
  rw [List.length_append]
  have := restb_pos (K := K) (t := nm (ls.drop (hdn K ls))) (by rw [nm_len]; omega)
  omega

def pkE (e : Nat) (at_ : Int) (n : List UInt8) : Int := if chk n ≠ 0 then chk n else if at_ < 0 ∨ 65535 < at_ then 2 else if at_ < e then 9 else 0
end Go.Proofs.YteegekpanadmkaaGreat

/-
  A packer that New did not make; New.
-/
namespace Go.Proofs.YteegekpanadmkaaGreat
open Go.RowKit Go.Shelf
set_option linter.unusedVariables false
set_option maxRecDepth 100000

theorem info_pk : (Tryz.prog.info? 125).map (fun i => decide (i.size = 0)) = some false := by kernel_rfl
theorem eq_ptr (p : Nat) (w : World) : (binOp .eql 90 (.pointer (some ⟨p, 0, none⟩)) (.pointer (some ⟨p, 0, none⟩))).run Tryz.prog w = .ok (.bool true) w := by
  obtain ⟨i, hi, _⟩ := Option.map_eq_some_iff.1 info_pk
  exact run_eql_ptr_same w ⟨p, 0, none⟩ Tryz.underlying90 hi

theorem made_yes (p : Nat) (w : World) (h : w.cell? ⟨p, 0, none⟩ = some (.pointer (some ⟨p, 0, none⟩))) : Calls Tryz.prog 138 #[.pointer (some ⟨p, 0, none⟩)] w fun e w' => e = .returned (.bool true) ∧ w = w' := by
  have he := eq_ptr p w
  go_enter Tryz.func138, Tryz.ntmps138
  go_wp2
  go_ret
  exact ⟨rfl, rfl⟩

end Go.Proofs.YteegekpanadmkaaGreat

/-
  A packer in memory: what its map reads as; New, Known.
-/
namespace Go.Proofs.YteegekpanadmkaaGreat
open Go.RowKit Go.Shelf
set_option linter.unusedVariables false
set_option maxRecDepth 100000

theorem keyed_ : Maps.Keyed Tryz.prog 9 := Maps.string_keyed Tryz.underlying9
theorem zero_int (w : World) : (zeroValue 3).run Tryz.prog w = .ok (.int .i64 0) w := by kernel_rfl

def RepD (D : DataW Unit) (K : List (List UInt8 × Nat)) : Prop :=
  Maps.size D = K.length ∧ ∀ n : List UInt8, Maps.has D (.string n) = (plc K n).isSome ∧ ∀ x, plc K n = some x → D.atKey (.string n) (.lit (.int .i64 0)) = .lit (.int .i64 x)

def Tm (w : World) (bm : Nat) (K : List (List UInt8 × Nat)) : Prop := ∃ D : DataW Unit, w.ownsMap Tryz.prog 9 (plainElem Tryz.prog 3) bm K.length D ∧ RepD D K

theorem rep_nil : RepD (.map []) [] := ⟨rfl, fun n => ⟨rfl, fun x h => by simp [plc] at h⟩⟩

theorem key_str (t : List UInt8) (ht : t.length ≤ 1000000) : keyOf Tryz.prog 9 (.string (bs t)) = some (.string t) := by
  have := WideMaps.keyOf_string_mk (P := Tryz.prog) (k := 9) Tryz.underlying9 (s := bs t) (by rw [bs_size]; unfold maxLen; omega)
  rw [this]
  simp [bs]

theorem rep_put {D : DataW Unit} {K : List (List UInt8 × Nat)} (hD : Maps.Tidy D) (h : RepD D K) {t : List UInt8} (ht : plc K t = none) (x : Nat) : RepD (D.put (.string t) (.lit (.int .i64 x))) (K ++ [(t, x)]) := by
  have hno : Maps.has D (.string t) = false := by rw [(h.2 t).1, ht]; rfl
  refine ⟨by rw [Maps.size_put hD, hno, h.1]; simp, fun n => ?_⟩
  rw [plc_app, plc_one]
  by_cases e : t = n
  · subst e
    rw [ht, if_pos rfl]
    refine ⟨by rw [Maps.has_put_same hD.isMap (by trivial)]; rfl, fun y hy => ?_⟩
    have : x = y := by simpa using hy
    subst this
    exact Maps.atKey_put_same hD.isMap (by trivial) _ _
  · rw [if_neg e, Option.or_none]
    have hne : (Lit.string n) ≠ Lit.string t := fun h => e (by injection h with h; exact h.symm)
    refine ⟨by rw [Maps.has_put_other hne]; exact (h.2 n).1, fun y hy => ?_⟩
    rw [Maps.atKey_put_other hne]
    exact (h.2 n).2 y hy

theorem Tm.lt {w : World} {bm : Nat} {K : List (List UInt8 × Nat)} (h : Tm w bm K) : bm < w.heap.size := let ⟨_, h, _⟩ := h; h.lt
theorem Tm.aside {G : Nat → Prop} {w w' : World} {bm : Nat} {K : List (List UInt8 × Nat)} (h : Tm w bm K) (ha : Aside G w w') (hG : ¬ G bm) : Tm w' bm K := by
  have hlt := h.lt
  obtain ⟨D, ⟨es, clock, hb, r⟩, hR⟩ := h
  exact ⟨D, ⟨es, clock, (ha.block bm hlt hG).trans hb, r⟩, hR⟩

theorem Tm.look {w : World} {bm : Nat} {K : List (List UInt8 × Nat)} (h : Tm w bm K) (t : List UInt8) (ht : t.length ≤ 1000000) :
    (Instr.lookup 123 (.map (some bm)) (.string (bs t)) true).run Tryz.prog w = .ok (.tuple #[.int .i64 ((plc K t).getD 0 : Nat), .bool (plc K t).isSome]) w := by
  obtain ⟨D, hM, hR⟩ := h
  obtain ⟨v, ps, hrun, hv⟩ := hM.look_ok keyed_ Tryz.underlying123 (zero_int w) (plainElem_int (H := Unit) Tryz.underlying3 (q := .i64) (a := 0) (by decide)) (key_str t ht)
  obtain ⟨c, rfl, hc, _⟩ := plainElem_int_inv Tryz.underlying3 hv
  have h2 := congrArg Prod.fst hc
  have h3 := (hR.2 t).1
  rw [h3] at hrun
  rw [hrun]
  have : c = ((plc K t).getD 0 : Nat) := by
    rcases hp : plc K t with _ | x
    · rw [hp] at h3
      rw [Maps.atKey_of_not_has h3] at h2
      injection h2 with h2
      injection h2 with _ h2
      rw [← h2]; rfl
    · rw [(hR.2 t).2 x hp] at h2
      injection h2 with h2
      injection h2 with _ h2
      rw [← h2]; rfl
  rw [this]

theorem Tm.store {w : World} {bm : Nat} {K : List (List UInt8 × Nat)} (h : Tm w bm K) (t : List UInt8) (ht : t.length ≤ 1000000) (hn : plc K t = none) (x : Nat) (hx : x ≤ 1000000) (hK : K.length ≤ 1000000) :
    ∃ w', (Instr.mapUpdate 123 (.map (some bm)) (.string (bs t)) (.int .i64 x)).run Tryz.prog w = .ok () w' ∧ Tm w' bm (K ++ [(t, x)]) ∧ w.grownBy w' (some bm) := by
  obtain ⟨D, hM, hR⟩ := h
  obtain ⟨w', h1, h2, h3⟩ := hM.update keyed_ Tryz.underlying123 (by unfold maxLen; omega) (key_str t ht) (plainElem_int (H := Unit) Tryz.underlying3 (q := .i64) (a := (x : Int)) (WalkArith.wf_i64 (by omega)))
  exact ⟨w', h1, ⟨_, by rw [List.length_append]; exact h2, rep_put (hM.tidy keyed_) hR hn x⟩, h3⟩

structure Pk (w : World) (p bm : Nat) (K : List (List UInt8 × Nat)) (e : Nat) : Prop where
  self : w.cell? ⟨p, 0, none⟩ = some (.pointer (some ⟨p, 0, none⟩))
  tails : w.cell? ⟨p, 1, none⟩ = some (.map (some bm))
  fin : w.cell? ⟨p, 2, none⟩ = some (.int .i64 e)
  free : ∀ j, w.frozen? ⟨p, j, none⟩ = false
  ne : p ≠ bm
  map : Tm w bm K

theorem Pk.lt {w : World} {p bm e : Nat} {K : List (List UInt8 × Nat)} (h : Pk w p bm K e) : p < w.heap.size := World.block_lt_of_cell? w _ h.self
theorem Pk.aside {G : Nat → Prop} {w w' : World} {p bm e : Nat} {K : List (List UInt8 × Nat)} (h : Pk w p bm K e) (ha : Aside G w w') (hp : ¬ G p) (hb : ¬ G bm) : Pk w' p bm K e :=
  ⟨ha.cell_lt h.self hp, ha.cell_lt h.tails hp, ha.cell_lt h.fin hp, fun j => (ha.frozen (p := ⟨p, j, none⟩) h.lt hp).trans (h.free j), h.ne, h.map.aside ha hb⟩
theorem Pk.later {w w' : World} {p bm e : Nat} {K : List (List UInt8 × Nat)} (h : Pk w p bm K e) (hb : Below w.heap.size w w') : Pk w' p bm K e :=
  h.aside (G := fun _ => False) (Aside.of_all hb) (fun h => h) (fun h => h)

def NewPost (w : World) (e : Ending) (w' : World) : Prop := ∃ p bm, e = .returned (.pointer (some ⟨p, 0, none⟩)) ∧ w.heap.size ≤ p ∧ w.heap.size ≤ bm ∧ Pk w' p bm [] 0 ∧ Below w.heap.size w w'

set_option maxHeartbeats 400000 in
theorem new_any (w : World) : Calls Tryz.prog 52 #[] w (NewPost w) := by
  have hmm := @run_makeMap Tryz.prog
  go_enter Tryz.func52, Tryz.ntmps52
  go_wp2
  go_ret
  have hb : Below w.heap.size w ((w.alloc (.map #[] 0)).alloc (.cells #[.pointer (some ⟨w.heap.size + 1, 0, none⟩), .map (some w.heap.size), .int .i64 0] 125)) := ((Below.refl _ _).alloc (Nat.le_refl _) _).alloc (by simp) _
  refine ⟨w.heap.size + 1, w.heap.size, rfl, by omega, Nat.le_refl _, ⟨by simp [go_sem], by simp [go_sem], by simp [go_sem], fun j => by simp [go_sem], by omega, .map [], ?_, rep_nil⟩, hb⟩
  exact (World.ownsMap_made w Tryz.prog 9 (plainElem Tryz.prog 3)).alloc _
end Go.Proofs.YteegekpanadmkaaGreat

/-
  How many bytes of a name are ahead of what is known; its rest; what is learnt.
-/
namespace Go.Proofs.YteegekpanadmkaaGreat
open Go.RowKit Go.Shelf
set_option linter.unusedVariables false
set_option maxRecDepth 100000

set_option maxRecDepth 100000 in
set_option maxHeartbeats 1000000 in
theorem ahead_any {w : World} {p bm e : Nat} {K : List (List UInt8 × Nat)} (h : Pk w p bm K e) {ls : List (List UInt8)} (hs : Shorts ls) :
    Calls Tryz.prog 139 #[.pointer (some ⟨p, 0, none⟩), .string (bs (nm ls))] w (Tells w (.int .i64 (pos ls (hdn K ls)))) := by
  have HP := Lib.hid h
  have hnl : (nm ls).length ≤ 255 := by rw [nm_len]; have := hs.2; omega
  clear h
  go_enter Tryz.func139, Tryz.ntmps139
  go_wp2
  go_loopg [5] ls.length (fun g v5 wr => ∃ k : Nat, k + g = ls.length ∧ v5 = .int .i64 (pos ls k) ∧ Hid (hdn K ls = k + hdn K (ls.drop k)) ∧ Hid (Below w.heap.size w wr))
  case atStart => exact ⟨0, by omega, by rw [pos_zero]; rfl, by rw [List.drop_zero, Nat.zero_add]; exact Lib.hid rfl, Below.refl _ _⟩
  case round =>
    obtain ⟨k, hk, rfl, HH, HB⟩ := hrel
    have hPk := HP.out.later HB.out
    by_cases hlt : k < ls.length
    · obtain ⟨hp, hat⟩ := nm_at hlt hs.1
      have hix := ix_run (nm ls) (pos ls k) hp
      have hfr := from_run (nm ls) (pos ls k) (by omega)
      rw [hat] at hix
      rw [nm_drop] at hfr
      have hlk := fun n => (hPk.map.aside (Aside.drewN (G := fun _ => False) wr n) (fun h => h)).look (nm (ls.drop k)) (by rw [← nm_drop, List.length_drop]; omega)
      have hc63 := hs.1 ls[k] (List.getElem_mem hlt)
      have hps := pos_succ hlt
      have hple := pos_le ls (k + 1)
      rw [nm_len] at hnl hp
      obtain ⟨hst1, hst2⟩ := hdn_step K ls k hlt HH.out
      have c1 := hPk.tails
      obtain ⟨c, hc⟩ : ∃ c, ls[k].length = c := ⟨_, rfl⟩
      obtain ⟨q, hq⟩ : ∃ q, pos ls k = q := ⟨_, rfl⟩
      obtain ⟨T, hT⟩ : ∃ T, nm (ls.drop k) = T := ⟨_, rfl⟩
      rw [hc] at hix hc63 hps
      rw [hq] at hix hfr hps hp ⊢
      rw [hT] at hfr hlk hst1 hst2
      have tc : ((c : Int) != 0) = true := by simp; omega
      rcases hpl : plc K T with _ | x
      · have HH2 := Lib.hid (hst2 hpl)
        rw [hpl] at hlk
        simp only [Option.isSome_none, Option.getD_none] at hlk
        have HQ := Lib.hid (show (q : Int) + (1 + c) = (pos ls (k + 1) : Nat) by rw [hps]; push_cast; rfl)
        have hqb : q ≤ 255 := by omega
        clear hst1 hst2 hpl hc hT hps hple hPk hq
        go_wp2_with fail
        go_quiet (fail)
        go_wp2_with fail
        go_roundg (ls.length - (k + 1))
        case measure => omega
        case rel => exact ⟨k + 1, by omega, by rw [← HQ.out], HH2, below_drewN HB.out _⟩
      · have hst := hst1 x hpl
        rw [hpl] at hlk
        simp only [Option.isSome_some, Option.getD_some] at hlk
        have HE := Lib.hid (show pos ls (hdn K ls) = q by rw [hst, hq])
        clear hst1 hst2 hpl hc hT hst hps hple hPk hq
        go_wp2_with fail
        go_quiet (fail)
        go_wp2_with fail
        go_ret
        exact ⟨by rw [HE.out]; rfl, below_drewN HB.out _⟩
    · have hke : k = ls.length := by omega
      subst hke
      obtain ⟨hp, hat⟩ := nm_end ls
      have hix := ix_run (nm ls) (pos ls ls.length) hp
      rw [hat] at hix
      have HE := Lib.hid (show pos ls (hdn K ls) = pos ls ls.length by rw [HH.out, List.drop_length]; rfl)
      obtain ⟨q, hq⟩ : ∃ q, pos ls ls.length = q := ⟨_, rfl⟩
      rw [hq] at hix HE ⊢
      clear hPk hq
      go_wp2_with fail
      go_ret
      exact ⟨by rw [HE.out]; rfl, HB.out⟩
end Go.Proofs.YteegekpanadmkaaGreat

/-
  What is told of a tail; what is learnt.
-/
namespace Go.Proofs.YteegekpanadmkaaGreat
open Go.RowKit Go.Shelf
set_option linter.unusedVariables false
set_option maxRecDepth 100000

def RestPost (w : World) (l : List UInt8) (e : Ending) (w' : World) : Prop := ∃ v, e = .returned v ∧ OwnB w' w.heap.size v l ∧ Below w.heap.size w w'

theorem pb_put {x : Nat} (hx : x < 16384) : putL2 (49152 + x) = iz (pb x) ∧ putE 65535 (49152 + x) = 0 := by
  refine ⟨?_, by unfold putE; rw [if_pos (by omega)]⟩
  unfold putL2 pb iz
  rw [if_pos (by omega)]
  simp only [List.map_cons, List.map_nil, UInt8.toNat_ofNat']
  congr 1
  · omega
  · congr 1
    omega

set_option maxHeartbeats 1000000 in
theorem rest_any {w : World} {p bm e : Nat} {K : List (List UInt8 × Nat)} (h : Pk w p bm K e) (hG : GoodK K) (t : List UInt8) (ht : t.length ≤ 1000) :
    Calls Tryz.prog 140 #[.pointer (some ⟨p, 0, none⟩), .string (bs t)] w (RestPost w (restb K t)) := by
  have hlk := h.map.look t (by omega)
  have c1 := h.tails
  rcases hpl : plc K t with _ | x
  · rw [hpl] at hlk
    simp only [Option.isSome_none, Option.getD_none] at hlk
    have he : restb K t = t := by unfold restb; rw [hpl]
    rw [he]
    obtain ⟨cap, W, hcv, ho, hb, _⟩ := conv_B w t (by omega)
    have HO := Lib.hid ho
    have HB := Lib.hid hb
    clear ho hb he hpl
    go_enter Tryz.func140, Tryz.ntmps140
    go_wp2_with fail
    go_ret
    exact ⟨_, rfl, HO.out, HB.out⟩
  · have hx := good_lt hG hpl
    rw [hpl] at hlk
    simp only [Option.isSome_some, Option.getD_some] at hlk
    have he : restb K t = pb x := by unfold restb; rw [hpl]
    rw [he]
    have HP := Lib.hid (put16_any (49152 + x) w)
    rw [(pb_put hx).1, (pb_put hx).2] at HP
    clear he hpl
    go_enter Tryz.func140, Tryz.ntmps140
    go_wp2_with fail
    refine HP.out.mono ?_; rintro e w1 ⟨v, g, rfl, ho, hg, _, hb⟩
    have HO := Lib.hid ((OwnB.of_own ho (by simp [pb])).mono hg)
    have HB := Lib.hid hb
    clear ho hg hb
    go_wp2_with fail
    go_ret
    exact ⟨_, rfl, HO.out, HB.out⟩

def LearnPost (w : World) (p bm : Nat) (K : List (List UInt8 × Nat)) (e : Nat) (x : Ending) (w' : World) : Prop := x = .returned (.tuple #[]) ∧ Pk w' p bm K e ∧ Aside (fun b => b = bm) w w'

set_option maxRecDepth 100000 in
set_option maxHeartbeats 1000000 in
theorem learn_any {w : World} {p bm e : Nat} {K : List (List UInt8 × Nat)} (h : Pk w p bm K e) {ls : List (List UInt8)} (hs : Shorts ls) (a : Nat) (ha : a ≤ 65535) (d : Nat) (hd : d ≤ hdn K ls) (hK : K.length ≤ 900000) :
    Calls Tryz.prog 141 #[.pointer (some ⟨p, 0, none⟩), .int .i64 a, .string (bs (nm ls)), .int .i64 (pos ls d)] w (LearnPost w p bm (K ++ fr a ls d) e) := by
  have hnl : (nm ls).length ≤ 255 := by rw [nm_len]; have := hs.2; omega
  have HC := Lib.hid (clone_any (bs (nm ls)) (by rw [bs_size]; omega))
  have HP := Lib.hid h
  have hdl := Nat.le_trans hd (hdn_le K ls)
  have hlw := len_wire ls
  obtain ⟨D, hD⟩ : ∃ D, pos ls d = D := ⟨_, rfl⟩
  rw [hD]
  have HD := Lib.hid hD
  clear h hD
  go_enter Tryz.func141, Tryz.ntmps141
  go_wp2_with fail
  refine (HC.out _).mono ?_; rintro e0 w1 ⟨rfl, hb⟩
  have HP1 := Lib.hid (HP.out.later hb)
  have HA1 := Lib.hid (show Aside (fun b => b = bm) w w1 from (Aside.of_all (G := fun b => b = bm) hb))
  clear hb
  go_wp2
  go_loopg [9] d (fun g v9 wr => ∃ k : Nat, k + g = d ∧ v9 = .int .i64 (pos ls k) ∧ Hid (Pk wr p bm (K ++ fr a ls k) e) ∧ Hid (Aside (fun b => b = bm) w wr))
  case atStart => exact ⟨0, by omega, by rw [pos_zero]; rfl, by rw [fr_zero, List.append_nil]; exact HP1, HA1⟩
  case round =>
    obtain ⟨k, hk, rfl, HPk, HA⟩ := hrel
    clear HP HP1 HA1 HC
    by_cases hlt : k < d
    · obtain ⟨hp, hat⟩ := nm_at (show k < ls.length by omega) hs.1
      have hix := ix_run (nm ls) (pos ls k) hp
      have hfr := from_run (nm ls) (pos ls k) (by omega)
      rw [hat] at hix
      rw [nm_drop] at hfr
      have hps := pos_succ (show k < ls.length by omega)
      have hmo := pos_mono ls (show k + 1 ≤ d by omega)
      have hple := pos_le ls d
      rw [HD.out] at hmo hple
      rw [nm_len] at hnl hp
      have hc63 := hs.1 ls[k] (List.getElem_mem (by omega))
      by_cases hf : a + pos ls k < 16384
      · obtain ⟨w2, hst, hTm, hgw⟩ := (HPk.out.map.aside (w' := wr.drew) (G := fun _ => False) (Aside.drewN wr 1) (fun h => h)).store (nm (ls.drop k)) (by rw [← nm_drop, List.length_drop, nm_len]; omega) (fr_fresh (by omega) (hdn_none (by omega))) (a + pos ls k) (by omega) (by rw [List.length_append]; have := fr_len ls a k; omega)
        have hfs := fr_succ ls a k (by omega)
        rw [if_pos hf] at hfs
        rw [List.append_assoc, ← hfs] at hTm
        have ha2 : Aside (fun b => b = bm) wr w2 := (Aside.drewN wr 1).trans (Aside.grown hgw (fun k h => by cases h; rfl))
        have HA2 := Lib.hid (HA.out.trans ha2)
        have HPk2 := Lib.hid (show Pk w2 p bm (K ++ fr a ls (k + 1)) e from ⟨ha2.cell_lt HPk.out.self HPk.out.ne, ha2.cell_lt HPk.out.tails HPk.out.ne, ha2.cell_lt HPk.out.fin HPk.out.ne, fun j => (ha2.frozen (p := ⟨p, j, none⟩) HPk.out.lt HPk.out.ne).trans (HPk.out.free j), HPk.out.ne, hTm⟩)
        have c1 := HPk.out.tails
        obtain ⟨c, hc⟩ : ∃ c, ls[k].length = c := ⟨_, rfl⟩
        obtain ⟨q, hq⟩ : ∃ q, pos ls k = q := ⟨_, rfl⟩
        obtain ⟨T, hT⟩ : ∃ T, nm (ls.drop k) = T := ⟨_, rfl⟩
        rw [hc] at hix hc63 hps
        rw [hq] at hix hfr hps hp hf hst ⊢
        rw [hT] at hfr hst
        push_cast at hst
        have t1 : q < D := by omega
        have HQ := Lib.hid (show (q : Int) + (1 + c) = (pos ls (k + 1) : Nat) by rw [hps]; push_cast; rfl)
        have hqb : q ≤ 255 := by omega
        clear hTm hgw hfs ha2 hc hT hps hq
        go_wp2_with fail
        go_region
        go_wp2_with fail
        go_roundg (d - (k + 1))
        case measure => omega
        case rel => exact ⟨k + 1, by omega, by rw [← HQ.out], HPk2, HA2⟩
      · have HE := Lib.hid (show fr a ls d = fr a ls k from fr_stop (by omega) d (by omega) hdl)
        obtain ⟨q, hq⟩ : ∃ q, pos ls k = q := ⟨_, rfl⟩
        rw [hq] at hf hps ⊢
        have t1 : q < D := by omega
        have t2 : ¬ ((a : Int) + q < 16384) := by omega
        have hqb : q ≤ 255 := by omega
        clear hix hfr hat hp hps hmo hple hq
        go_wp2_with fail
        go_end0
        exact ⟨rfl, by rw [HE.out]; exact HPk.out, HA.out⟩
    · have hkd : k = d := by omega
      subst hkd
      rw [HD.out]
      go_wp2_with fail
      go_end0
      exact ⟨rfl, HPk.out, HA.out⟩
end Go.Proofs.YteegekpanadmkaaGreat

/-
  Name: the bytes of a name that is to stand at a place.
-/
namespace Go.Proofs.YteegekpanadmkaaGreat
open Go.RowKit Go.Shelf
set_option linter.unusedVariables false
set_option maxRecDepth 100000

theorem step_appB {ops : Array Oper} {o : Oper} {a : Act} {w : World} {K : Act → World → Prop} {Q : Exit → Act → World → Prop} {E : Prop} (hgd : o.guard = none) (s x : Operand)
    (ho : o.op = .call { callee := .builtin .append, args := #[s, x], argTypes := #[28, 28] }) (hty : o.type = 28)
    (B : Nat) (v xv : Value) (l l' : List UInt8) {lo hi : Nat} (hs : a.eval s = v) (hx : a.eval x = xv) (hown : OwnB w B v l) (hsl : Sl w lo hi xv (iz l')) (h0 : 0 < l'.length) (hb : l.length + l'.length ≤ 1000000) (hB : B ≤ w.heap.size)
    (h : ∀ a' c' w', OwnB w' B (.slice a' (l.length + l'.length) c') (l ++ l') → Below B w w' → K (a.put o.dst (.slice a' (l.length + l'.length) c')) w') :
    if Region.wanted o (yielded ops a.tmps) = true then Oper.wp Tryz.prog o a w K Q else E := by
  rw [if_pos (by simp [Region.wanted, hgd])]
  obtain ⟨v', w', h1, h2, h3, _⟩ := run_appB B v xv l l' hown hsl h0 hb hB
  obtain ⟨a', c', hv⟩ := h2.shape
  rw [List.length_append] at hv
  subst hv
  unfold Oper.wp
  simp [execOp, ho, hty, resolve, invoke, builtin, hs, hx, h1, Result.andThen]
  exact h _ _ _ h2 ((Below.refl _ _).grown h3 hB fun k hk => (hown.lt k hk).1)

theorem to_run (n : List UInt8) (i : Nat) (h : i ≤ n.length) (w : World) : (Instr.slice 9 (.string (bs n)) none (some (.int .i64 i)) none).run Tryz.prog w = .ok (.string (bs (n.take i))) w := by
  rw [run_slice_string_to_if w 9 _ _ _ Tryz.underlying9, if_pos (by simp; omega), bs_extract]
  simp

def nameB (K : List (List UInt8 × Nat)) (e : Nat) (a : Int) (n : List UInt8) : List UInt8 := if pkE e a n = 0 then told K (labs n) else []
def nameK (K : List (List UInt8 × Nat)) (e : Nat) (a : Int) (n : List UInt8) : List (List UInt8 × Nat) := if pkE e a n = 0 then K ++ fr a.toNat (labs n) (hdn K (labs n)) else K
def nameE (K : List (List UInt8 × Nat)) (e : Nat) (a : Int) (n : List UInt8) : Nat := if pkE e a n = 0 then a.toNat + (told K (labs n)).length else e

def NamePost (w : World) (p bm : Nat) (K : List (List UInt8 × Nat)) (e : Nat) (a : Int) (n : List UInt8) (x : Ending) (w' : World) : Prop :=
  ∃ v, x = .returned (.tuple #[v, .int .i64 (pkE e a n)]) ∧ OwnB w' w.heap.size v (nameB K e a n) ∧ Pk w' p bm (nameK K e a n) (nameE K e a n) ∧ Aside (fun b => b = p ∨ b = bm) w w'

theorem name_bad {w wx : World} {p bm e : Nat} {K : List (List UInt8 × Nat)} (h : Pk w p bm K e) (hb : Below w.heap.size w wx) {a : Int} {n : List UInt8} {c : Int} (hc : pkE e a n = c) (h0 : c ≠ 0) :
    NamePost w p bm K e a n (.returned (.tuple #[.slice none 0 0, .int .i64 c])) wx := by
  subst hc
  unfold NamePost nameB nameK nameE
  rw [if_neg h0, if_neg h0, if_neg h0]
  exact ⟨_, rfl, OwnB.nil _ _, h.later hb, Aside.of_all hb⟩

theorem name_fine {w w5 w6 : World} {p bm e q : Nat} {K K' : List (List UInt8 × Nat)} {n P0 R0 : List UInt8} {v : Value} (hP : Pk w p bm K e) (hE : pkE e q n = 0)
    (hF : nameB K e q n = P0 ++ R0 ∧ nameK K e q n = K' ∧ nameE K e q n = q + (P0 ++ R0).length) (ho : OwnB w5 w.heap.size v (P0 ++ R0)) (hb : Below w.heap.size w w5) (hpk : Pk w6 p bm K' e) (has : Aside (fun b => b = bm) w5 w6) :
    NamePost w p bm K e q n (.returned (.tuple #[v, .int .i64 0])) (w6.setCell ⟨p, 2, none⟩ (.int .i64 ((q : Int) + ((P0.length : Int) + R0.length)))) := by
  have hlt := ho.lt
  have hset : Aside (fun b => b = p) w6 (w6.setCell ⟨p, 2, none⟩ (.int .i64 ((q : Int) + ((P0.length : Int) + R0.length)))) := Aside.setCell _ _ rfl
  refine ⟨v, by rw [hE], ?_, ?_, ?_⟩
  · rw [hF.1]
    refine (ho.aside has fun b hv e => ?_).aside hset fun b hv e => ?_
    · have := hlt b hv; have := hP.map.lt; omega
    · have := hlt b hv; have := hP.lt; omega
  · rw [hF.2.1, hF.2.2, List.length_append]
    have h1 : (w6.setCell ⟨p, 2, none⟩ (.int .i64 ((q : Int) + ((P0.length : Int) + R0.length)))).cell? ⟨p, 2, none⟩ = some (.int .i64 ((q : Int) + ((P0.length : Int) + R0.length))) := World.cell?_setCell_same _ _ _ hpk.fin
    refine ⟨?_, ?_, by rw [h1]; push_cast; rfl, fun j => by rw [World.frozen?_setCell]; exact hpk.free j, hpk.ne, hpk.map.aside hset (fun e => hpk.ne e.symm)⟩
    · rw [World.cell?_setCell_other _ _ _ _ (by simp)]; exact hpk.self
    · rw [World.cell?_setCell_other _ _ _ _ (by simp)]; exact hpk.tails
  · exact ((Aside.of_all hb).trans (has.mono fun _ _ h => .inr h)).trans (hset.mono fun _ _ h => .inl h)

set_option maxRecDepth 100000 in
set_option maxHeartbeats 4000000 in
theorem name_any {w : World} {p bm e : Nat} {K : List (List UInt8 × Nat)} (h : Pk w p bm K e) (hG : GoodK K) (hK : K.length ≤ 900000) (he : e ≤ 1000000) (a : Int) (n : List UInt8) (hn : n.length ≤ 1000) :
    Calls Tryz.prog 130 #[.pointer (some ⟨p, 0, none⟩), .int .i64 a, .string (bs n)] w (NamePost w p bm K e a n) := by
  have HM := Lib.hid (made_yes p w h.self)
  have HC := Lib.hid (check_any n (by omega) w)
  have HP := Lib.hid h
  have BAD := Lib.hid (fun wx hb c hc h0 => name_bad (wx := wx) h hb (a := a) (n := n) (c := c) hc h0)
  by_cases hc : chk n = 0
  · rw [hc] at HC
    obtain ⟨hs, hnm⟩ := shorts_of hc
    replace hnm : n = nm (labs n) := hnm
    by_cases hr : a < 0 ∨ 65535 < a
    · have HE := Lib.hid (show pkE e a n = 2 by unfold pkE; rw [if_neg (fun h => h hc), if_pos hr])
      have hor : decide (a < 0) = true ∨ (decide (a < 0) = false ∧ decide ((65535 : Int) < a) = true) := by
        by_cases h : a < 0
        · exact .inl (by simpa using h)
        · exact .inr ⟨by simpa using h, by simpa using hr.resolve_left h⟩
      clear hr hnm hc h hs
      rcases hor with t1 | ⟨t1, t2⟩
      all_goals
        go_enter Tryz.func130, Tryz.ntmps130
        go_wp2_with fail
        refine HM.out.mono ?_; rintro e0 w1 ⟨rfl, rfl⟩
        go_wp2_with fail
        refine HC.out.mono ?_; rintro e0 w1 ⟨rfl, hb⟩
        have HB := Lib.hid hb
        clear hb
        go_wp2_with fail
        go_ret2
        exact BAD.out _ HB.out 2 HE.out (by decide)
    · by_cases hst : a < e
      · have HE := Lib.hid (show pkE e a n = 9 by unfold pkE; rw [if_neg (fun h => h hc), if_neg hr, if_pos hst])
        have t1 : decide (a < 0) = false := by simp; omega
        have t2 : decide ((65535 : Int) < a) = false := by simp; omega
        have t3 : decide (a < (e : Int)) = true := by simpa using hst
        clear hr hnm hc h hs hst
        go_enter Tryz.func130, Tryz.ntmps130
        go_wp2_with fail
        refine HM.out.mono ?_; rintro e0 w1 ⟨rfl, rfl⟩
        go_wp2_with fail
        refine HC.out.mono ?_; rintro e0 w1 ⟨rfl, hb⟩
        have HB := Lib.hid hb
        have c2 := (HP.out.later hb).fin
        clear hb
        go_wp2_with fail
        go_ret2
        exact BAD.out _ HB.out 9 HE.out (by decide)
      · have hE : pkE e a n = 0 := by unfold pkE; rw [if_neg (fun h => h hc), if_neg hr, if_neg hst]
        obtain ⟨q, rfl⟩ : ∃ q : Nat, a = q := ⟨a.toNat, by omega⟩
        obtain ⟨ls, hls⟩ : ∃ ls, labs n = ls := ⟨_, rfl⟩
        have HF := Lib.hid (show nameB K e q n = told K ls ∧ nameK K e q n = K ++ fr q ls (hdn K ls) ∧ nameE K e q n = q + (told K ls).length by
          unfold nameB nameK nameE
          rw [if_pos hE, if_pos hE, if_pos hE, hls]
          exact ⟨rfl, rfl, rfl⟩)
        have HE := Lib.hid hE
        rw [hls] at hs hnm
        subst hnm
        have hhl := hdn_le K ls
        have hnl : (nm ls).length ≤ 255 := by rw [nm_len]; have := hs.2; omega
        have hpl := pos_le ls (hdn K ls)
        have hple : pos ls (hdn K ls) ≤ (nm ls).length := by rw [nm_len]; omega
        have hlo := to_run (nm ls) (pos ls (hdn K ls)) hple
        have hfr := from_run (nm ls) (pos ls (hdn K ls)) hple
        rw [nm_take] at hlo
        rw [nm_drop] at hfr
        have HAh := Lib.hid (fun wx (hp : Pk wx p bm K e) => ahead_any hp hs)
        have HRe := Lib.hid (fun wx (hp : Pk wx p bm K e) => rest_any hp hG (nm (ls.drop (hdn K ls))) (by rw [← nm_drop, List.length_drop]; omega))
        have HLe := Lib.hid (fun wx (hp : Pk wx p bm K e) => learn_any hp hs q (by omega) (hdn K ls) (Nat.le_refl _) hK)
        have hP0 : (wire (ls.take (hdn K ls))).length ≤ 1000 := by show pos ls (hdn K ls) ≤ 1000; omega
        have hR0 : 0 < (restb K (nm (ls.drop (hdn K ls)))).length := restb_pos (by rw [nm_len]; omega)
        have hR1 : (restb K (nm (ls.drop (hdn K ls)))).length ≤ 1000 := by
          have := restb_len K (nm (ls.drop (hdn K ls)))
          rw [← nm_drop, List.length_drop] at this
          rw [← nm_drop]
          omega
        have htl : (told K ls).length = (wire (ls.take (hdn K ls))).length + (restb K (nm (ls.drop (hdn K ls)))).length := by unfold told; rw [List.length_append]
        have htd : told K ls = wire (ls.take (hdn K ls)) ++ restb K (nm (ls.drop (hdn K ls))) := rfl
        obtain ⟨z, hz⟩ : ∃ z, pos ls (hdn K ls) = z := ⟨_, rfl⟩
        rw [hz] at hlo hfr HAh HLe
        obtain ⟨P0, hP⟩ : ∃ P0, wire (ls.take (hdn K ls)) = P0 := ⟨_, rfl⟩
        rw [hP] at hlo hP0 htl htd
        obtain ⟨T, hT⟩ : ∃ T, nm (ls.drop (hdn K ls)) = T := ⟨_, rfl⟩
        rw [hT] at hfr HRe hR0 hR1 htl htd
        obtain ⟨R0, hR⟩ : ∃ R0, restb K T = R0 := ⟨_, rfl⟩
        rw [hR] at HRe hR0 hR1 htl htd
        obtain ⟨M, hM⟩ : ∃ M, nm ls = M := ⟨_, rfl⟩
        have HFM := Lib.hid hM
        have t1 : decide ((q : Int) < 0) = false := by simp
        have t2 : ¬ 65535 < q := by omega
        have t3 : ¬ q < e := by omega
        have HTL := Lib.hid htl
        have HTD := Lib.hid htd
        have HG1 := Lib.hid hR0
        clear BAD hE hls hs hhl hnl hpl hple hc hr hst h hz hP hT hR hM htl htd hR0
        go_enter Tryz.func130, Tryz.ntmps130
        go_wp2_with fail
        refine HM.out.mono ?_; rintro e0 w1 ⟨rfl, rfl⟩
        go_wp2_with fail
        refine HC.out.mono ?_; rintro e0 w1 ⟨rfl, hb⟩
        have HP1 := Lib.hid (HP.out.later hb)
        have HB1 := Lib.hid hb
        have c2 := HP1.out.fin
        clear hb
        go_wp2_with fail
        refine (HAh.out _ HP1.out).mono ?_; rintro e0 w2 ⟨rfl, hb⟩
        have HP2 := Lib.hid (HP1.out.later hb)
        have HB2 := Lib.hid (bel_call HB1.out hb)
        clear hb c2
        go_wp2_with fail
        have HD := Lib.hid (show Below w.heap.size w w2.drew from HB2.out.drew)
        have HPD := Lib.hid (show Pk w2.drew p bm K e from HP2.out.later (Below.refl _ w2).drew)
        obtain ⟨cap, W, hcv, ho1, hb1, hl1⟩ := conv_B w2.drew P0 (by omega)
        have HO1 := Lib.hid ho1
        have HW := Lib.hid (bel_call HD.out hb1)
        have HPW := Lib.hid (HPD.out.later hb1)
        clear ho1 hb1 hl1
        go_region_law (first | (refine step_appB rfl (.tmp 37) (.tmp 42) rfl rfl w.heap.size _ _ P0 R0 rfl rfl HAA.out HAX.out HG1.out (by omega) HAB.out.size ?_; intro a5 c5 w5 ho5 hb5; have HO5 := Lib.hid ho5; have HB5 := Lib.hid (HAB.out.trans hb5); clear ho5 hb5) | (go_simp; go_at_call 140; refine (HRe.out _ (by first | exact HPW.out | exact HPD.out)).mono ?_; rintro e0 w3 ⟨xv, rfl, ho, hb⟩; first | (have HAB := Lib.hid (bel_call HW.out hb); have HAA := Lib.hid ((HO1.out.below hb).mono HB2.out.size); have HAX := Lib.hid ho.sl; clear ho hb) | (have HAB0 := bel_call HD.out hb; obtain ⟨cap2, W2, hcv2, ho2, hb2, _⟩ := conv_B w3 P0 (by omega); have HAB := Lib.hid (bel_call HAB0 hb2); have HAA := Lib.hid (ho2.mono HAB0.size); have HAX := Lib.hid (ho.below hb2).sl; clear ho hb ho2 hb2 HAB0)))
        all_goals
          go_wp2_with fail
          refine (HLe.out _ (HP.out.later HB5.out)).mono ?_; rintro e0 w6 ⟨rfl, hpk, has⟩
          have FIN := Lib.hid (name_fine HP.out HE.out (HTD.out ▸ HF.out) HO5.out HB5.out hpk has)
          have c2 := hpk.fin
          have f2 := hpk.free
          clear hpk has
          go_wp2_with fail
          go_ret2
          have := FIN.out
          simpa using this
  · have hE : pkE e a n = chk n := by unfold pkE; rw [if_pos hc]
    obtain ⟨c, hcn⟩ : ∃ c, chk n = c := ⟨_, rfl⟩
    rw [hcn] at HC hE hc
    have HE := Lib.hid hE
    have tc : (c != 0) = true := by simpa using hc
    clear hE hcn h
    go_enter Tryz.func130, Tryz.ntmps130
    go_wp2_with fail
    refine HM.out.mono ?_; rintro e0 w1 ⟨rfl, rfl⟩
    go_wp2_with fail
    refine HC.out.mono ?_; rintro e0 w1 ⟨rfl, hb⟩
    have HB := Lib.hid hb
    clear hb
    go_wp2_with fail
    go_ret2
    exact BAD.out _ HB.out c HE.out hc
end Go.Proofs.YteegekpanadmkaaGreat

/-
  Known; names told again; the statement about names that are told twice.
-/
namespace Go.Proofs.YteegekpanadmkaaGreat
open Go.RowKit Go.Shelf
set_option linter.unusedVariables false
set_option maxRecDepth 100000

theorem len_wire2 {ls : List (List UInt8)} (h : ∀ x ∈ ls, 0 < x.length ∧ x.length ≤ 63) : 2 * ls.length ≤ (wire ls).length := by
  induction ls with
  | nil => simp
  | cons x r ih =>
    have h1 := h x List.mem_cons_self
    have h2 := ih fun y hy => h y (List.mem_cons_of_mem _ hy)
    simp [wire]
    omega
end Go.Proofs.YteegekpanadmkaaGreat

/-
  Names that a packer tells are read at their places; plainly.
-/
namespace Go.Proofs.YteegekpanadmkaaGreat
open Go.RowKit Go.Shelf
set_option linter.unusedVariables false
set_option maxRecDepth 100000

inductive Stand (b : List UInt8) : Nat → Nat → List (List UInt8) → Prop
  | zero {part i : Nat} (h : i < b.length) (h0 : b[i].toNat = 0) : Stand b part i []
  | label {part i : Nat} {l : List UInt8} {r : List (List UInt8)} (h0 : 0 < l.length) (h1 : l.length ≤ 63) (h2 : i + (1 + l.length) ≤ b.length) (h3 : (b.drop i).take (1 + l.length) = wire [l]) (h : Stand b part (i + (1 + l.length)) r) : Stand b part i (l :: r)
  | lead {part i to : Nat} {r : List (List UInt8)} (h : i + 1 < b.length) (h0 : 192 ≤ (b[i]'(Nat.lt_of_succ_lt h)).toNat) (h1 : ptr (b[i]'(Nat.lt_of_succ_lt h)) (b[i + 1]'h) = to) (h2 : to < part) (h3 : Stand b to to r) : Stand b part i r

theorem Stand.more {b : List UInt8} {part i : Nat} {ls : List (List UInt8)} (h : Stand b part i ls) (c : List UInt8) : Stand (b ++ c) part i ls := by
  induction h with
  | zero h h0 => exact .zero (by rw [List.length_append]; omega) (by rw [List.getElem_append_left h]; exact h0)
  | label h0 h1 h2 h3 _ ih =>
    refine .label h0 h1 (by rw [List.length_append]; omega) ?_ ih
    rw [List.drop_append_of_le_length (by omega), List.take_append_of_le_length (by rw [List.length_drop]; omega)]
    exact h3
  | lead h h0 h1 h2 _ ih =>
    refine .lead (by rw [List.length_append]; omega) ?_ ?_ h2 ih
    · rw [List.getElem_append_left]; exact h0
    · rw [List.getElem_append_left, List.getElem_append_left h]; exact h1

theorem rd_of {b : List UInt8} {part i : Nat} {ls : List (List UInt8)} (h : Stand b part i ls) (a : Nat) : ∀ (next : Nat) (pre : List (List UInt8)), (wire (pre ++ ls)).length ≤ 254 → ∃ nx, rd b a part i next (wire pre) = (nm (pre ++ ls), nx, 0, 0) := by
  induction h with
  | zero h h0 =>
    intro next pre _
    rw [rd_zero h h0, List.append_nil]
    exact ⟨_, rfl⟩
  | @label part i l r h0 h1 h2 h3 _ ih =>
    intro next pre hl
    have hlt : i < b.length := by omega
    have hb : b[i].toNat = l.length := by
      have h4 := congrArg (fun x : List UInt8 => x[0]?) h3
      simp only [wire, List.append_nil, List.getElem?_take, List.getElem?_drop] at h4
      rw [if_pos (by omega), Nat.add_zero, List.getElem?_eq_getElem hlt] at h4
      have h5 : b[i] = UInt8.ofNat l.length := by simpa using h4
      rw [h5, UInt8.toNat_ofNat']
      omega
    have hw : (wire (pre ++ [l])).length = (wire pre).length + (1 + l.length) := wire_snoc pre l
    have hsplit : pre ++ l :: r = (pre ++ [l]) ++ r := by simp
    have hle : (wire (pre ++ [l])).length ≤ (wire (pre ++ l :: r)).length := by rw [hsplit, wire_app (pre ++ [l]) r, List.length_append]; omega
    rw [rd_label hlt (by omega) (by omega) (by omega) (by omega), hb, h3, ← wire_app, hsplit]
    exact ih next (pre ++ [l]) (by rw [← hsplit]; exact hl)
  | lead h h0 h1 h2 _ ih =>
    intro next pre hl
    rw [rd_go (Nat.lt_of_succ_lt h) h0 h (by omega), h1]
    exact ih _ pre hl

structure Inv (b : List UInt8) (K : List (List UInt8 × Nat)) (e : Nat) (P : List (List UInt8 × Nat)) : Prop where
  good : GoodK K
  last : e ≤ b.length
  ahead : ∀ p ∈ K, p.2 < e
  tails : ∀ ls x, Shorts ls → (nm ls, x) ∈ K → Stand b x x ls
  names : ∀ p ∈ P, ∃ ls, p.1 = nm ls ∧ Shorts ls ∧ Stand b p.2 p.2 ls ∧ p.2 < b.length

theorem Inv.nil : Inv [] [] 0 [] := ⟨good_nil, Nat.le_refl _, fun p h => by simp at h, fun ls x _ h => by simp at h, fun p h => by simp at h⟩

theorem Inv.more {b : List UInt8} {K : List (List UInt8 × Nat)} {e : Nat} {P : List (List UInt8 × Nat)} (h : Inv b K e P) (c : List UInt8) : Inv (b ++ c) K e P :=
  ⟨h.good, by rw [List.length_append]; have := h.last; omega, h.ahead, fun ls x hs hx => (h.tails ls x hs hx).more c, fun p hp => by
    obtain ⟨ls, h1, h2, h3, h4⟩ := h.names p hp
    exact ⟨ls, h1, h2, h3.more c, by rw [List.length_append]; omega⟩⟩

theorem ptr_pb {x : Nat} (hx : x < 16384) : ptr (UInt8.ofNat (192 + x / 256)) (UInt8.ofNat (x % 256)) = x ∧ 192 ≤ (UInt8.ofNat (192 + x / 256)).toNat := by
  unfold ptr
  simp only [UInt8.toNat_ofNat']
  omega

theorem told_le {K : List (List UInt8 × Nat)} {ls : List (List UInt8)} (hG : GoodK K) (hs : Shorts ls) : (told K ls).length ≤ (nm ls).length := by
  have h1 := pos_rest ls (hdn K ls)
  unfold pos at h1
  unfold told
  rw [List.length_append, nm_len]
  unfold restb
  rcases hp : plc K (nm (ls.drop (hdn K ls))) with _ | x
  · show (wire (ls.take (hdn K ls))).length + (nm (ls.drop (hdn K ls))).length ≤ _
    rw [nm_len]; omega
  · show (wire (ls.take (hdn K ls))).length + 2 ≤ _
    rcases Nat.lt_or_ge (hdn K ls) ls.length with h | h
    · have h2 := len_wire2 (shorts_drop hs (hdn K ls)).1
      rw [List.length_drop] at h2
      have h3 : 0 < (ls.drop (hdn K ls)).length := by rw [List.length_drop]; omega
      omega
    · exfalso
      rw [List.drop_eq_nil_of_le h] at hp
      have := good_root hG
      rw [show nm [] = [0] from rfl] at hp
      rw [hp] at this
      cases this

theorem told_rd {b : List UInt8} {K : List (List UInt8 × Nat)} {e : Nat} {P : List (List UInt8 × Nat)} (h : Inv b K e P) {ls : List (List UInt8)} (hs : Shorts ls) :
    ∀ d k, k + d = hdn K ls → ∀ part, b.length ≤ part → Stand (b ++ told K ls) part (b.length + pos ls k) (ls.drop k) := by
  have hll := hdn_le K ls
  intro d
  induction d with
  | zero =>
    intro k hk part hp
    have hkh : k = hdn K ls := by omega
    subst hkh
    rcases Nat.lt_or_ge (hdn K ls) ls.length with hlt | hge
    · obtain ⟨x, hx⟩ := hdn_stop hlt
      have hx2 := good_lt h.good hx
      have hxe := h.ahead _ (plc_mem hx)
      obtain ⟨p1, p2⟩ := ptr_pb hx2
      have htd : told K ls = wire (ls.take (hdn K ls)) ++ [UInt8.ofNat (192 + x / 256), UInt8.ofNat (x % 256)] := by unfold told restb; rw [hx]; rfl
      have hpl : pos ls (hdn K ls) = (wire (ls.take (hdn K ls))).length := rfl
      have g0 : (b ++ told K ls)[b.length + pos ls (hdn K ls)]? = some (UInt8.ofNat (192 + x / 256)) := by
        rw [htd, List.getElem?_append_right (by omega), Nat.add_sub_cancel_left, hpl, List.getElem?_append_right (Nat.le_refl _), Nat.sub_self]; rfl
      have g1 : (b ++ told K ls)[b.length + pos ls (hdn K ls) + 1]? = some (UInt8.ofNat (x % 256)) := by
        rw [htd, List.getElem?_append_right (by omega), show b.length + pos ls (hdn K ls) + 1 - b.length = pos ls (hdn K ls) + 1 by omega, hpl, List.getElem?_append_right (by omega), show (wire (ls.take (hdn K ls))).length + 1 - (wire (ls.take (hdn K ls))).length = 1 by omega]; rfl
      obtain ⟨i0, g0⟩ := List.getElem?_eq_some_iff.mp g0
      obtain ⟨i1, g1⟩ := List.getElem?_eq_some_iff.mp g1
      refine .lead (to := x) i1 (by rw [g0]; exact p2) (by rw [g0, g1]; exact p1) (by have := h.last; have : x < e := hxe; omega) ((h.tails _ x (shorts_drop hs _) (plc_mem hx)).more _)
    · have hke : hdn K ls = ls.length := by omega
      have htd : told K ls = wire ls ++ [0] := by
        unfold told restb
        rw [hke, List.take_length, List.drop_length]
        show wire ls ++ (match plc K [0] with | some x => pb x | none => [0]) = _
        rw [good_root h.good]
      rw [hke, List.drop_length]
      have hpl : pos ls ls.length = (wire ls).length := by unfold pos; rw [List.take_length]
      have g0 : (b ++ told K ls)[b.length + pos ls ls.length]? = some 0 := by
        rw [htd, List.getElem?_append_right (by omega), Nat.add_sub_cancel_left, hpl, List.getElem?_append_right (Nat.le_refl _), Nat.sub_self]; rfl
      obtain ⟨i0, g0⟩ := List.getElem?_eq_some_iff.mp g0
      exact .zero i0 (by rw [g0]; rfl)
  | succ d ih =>
    intro k hk part hp
    have hkl : k < ls.length := by omega
    have e : ls.drop k = ls[k] :: ls.drop (k + 1) := List.drop_eq_getElem_cons hkl
    have h63 := hs.1 ls[k] (List.getElem_mem hkl)
    rw [e]
    have hcut : ((b ++ told K ls).drop (b.length + pos ls k)).take (1 + ls[k].length) = wire [ls[k]] := by
      have h1 : ls.take (hdn K ls) = ls.take k ++ (ls[k] :: (ls.drop (k + 1)).take d) := by
        rw [← hk, List.take_add, e, List.take_succ_cons]
      unfold told
      rw [h1, wire_app, List.append_assoc]
      rw [show b.length + pos ls k = b.length + (wire (ls.take k)).length from rfl, List.drop_append, List.drop_eq_nil_of_le (by omega), List.nil_append, Nat.add_sub_cancel_left, List.drop_left]
      rw [show ls[k] :: (ls.drop (k + 1)).take d = [ls[k]] ++ (ls.drop (k + 1)).take d from rfl, wire_app, List.append_assoc]
      rw [List.take_left' (by simp [wire]; omega)]
    have hpe : b.length + pos ls k + (1 + ls[k].length) = b.length + pos ls (k + 1) := by rw [pos_succ hkl]; omega
    refine .label h63.1 h63.2 ?_ hcut (by rw [hpe]; exact ih (k + 1) (by omega) part hp)
    have := congrArg List.length hcut
    rw [List.length_take, List.length_drop, List.length_append] at this
    rw [List.length_append]
    simp only [wire, List.length_append, List.length_cons, List.length_nil] at this
    omega

theorem Inv.tell {b : List UInt8} {K : List (List UInt8 × Nat)} {e : Nat} {P : List (List UInt8 × Nat)} (h : Inv b K e P) {ls : List (List UInt8)} (hs : Shorts ls) :
    Inv (b ++ told K ls) (K ++ fr b.length ls (hdn K ls)) (b.length + (told K ls).length) (P ++ [(nm ls, b.length)]) := by
  have hll := hdn_le K ls
  have hm := h.more (told K ls)
  refine ⟨good_fr h.good hs _ hll, by rw [List.length_append]; omega, ?_, ?_, ?_⟩
  · intro p hp
    rcases List.mem_append.mp hp with hp | hp
    · have := h.ahead p hp; have := h.last; omega
    · obtain ⟨j, h1, rfl, _⟩ := fr_mem hll p hp
      show b.length + pos ls j < _
      have h2 := pos_mono ls (show j + 1 ≤ hdn K ls by omega)
      rw [pos_succ (show j < ls.length by omega)] at h2
      have h3 : (told K ls).length = pos ls (hdn K ls) + (restb K (nm (ls.drop (hdn K ls)))).length := by unfold told; rw [List.length_append]; rfl
      omega
  · intro ms x hms hx
    rcases List.mem_append.mp hx with hx | hx
    · exact hm.tails ms x hms hx
    · obtain ⟨j, h1, h2, _⟩ := fr_mem hll _ hx
      injection h2 with h2 h3
      rw [nm_inj hms (shorts_drop hs j) h2, h3]
      exact told_rd h hs (hdn K ls - j) j (by omega) _ (by omega)
  · intro p hp
    rcases List.mem_append.mp hp with hp | hp
    · exact hm.names p hp
    · obtain rfl := List.mem_singleton.mp hp
      have := told_rd h hs (hdn K ls) 0 (by omega) b.length (Nat.le_refl _)
      rw [pos_zero, Nat.add_zero, List.drop_zero] at this
      exact ⟨ls, rfl, hs, this, by rw [List.length_append]; have := told_pos K ls; show b.length < _; omega⟩

end Go.Proofs.YteegekpanadmkaaGreat

/-
  The data of a type, part by part, plainly: as a reader goes along them, and as the document cuts them.
-/
namespace Go.Proofs.YteegekpanadmkaaGreat
open Go.RowKit Go.Shelf
set_option linter.unusedVariables false
set_option maxRecDepth 100000

inductive PK where
  | fix (n : Nat)
  | nam
  | txt
  | rst
deriving DecidableEq

def kinds (t : Int) : List PK :=
  if t = 1 then [.fix 4] else if t = 28 then [.fix 16] else if t = 2 ∨ t = 5 ∨ t = 12 then [.nam] else if t = 15 then [.fix 2, .nam] else if t = 6 then [.nam, .nam, .fix 20] else if t = 16 then [.txt] else [.rst]

abbrev Pc := List UInt8 × Bool

inductive PR where
  | ok (x : Pc) (q : Nat)
  | bad (e : Int) (a : Nat)

inductive RR where
  | ok (l : List Pc)
  | bad (e : Int) (a : Nat)

def cutP (b : List UInt8) (s e p q : Nat) : PR := if e < q then .bad 4 s else .ok ((b.drop p).take (q - p), false) q

def txE (b : List UInt8) (e : Nat) : Nat → Nat → Option Nat
  | 0, _ => none
  | n + 1, p => if e < p + 1 then none else (let q := p + (1 + (b.getD p 0).toNat); if q < e then txE b e n q else some q)

def stepP (F : Nat → Got) (b : List UInt8) (s e p : Nat) : PK → PR
  | .fix n => cutP b s e p (p + n)
  | .nam => if e < p + 1 then .bad 4 s else if (F p).2.2.1 ≠ 0 then .bad (F p).2.2.1 (F p).2.2.2 else if e < (F p).2.1 then .bad 4 s else .ok ((F p).1, true) (F p).2.1
  | .txt => match txE b e (e + 1) p with | none => .bad 4 s | some q => cutP b s e p q
  | .rst => cutP b s e p e

def goP (F : Nat → Got) (b : List UInt8) (s e : Nat) : List PK → Nat → List Pc → RR
  | [], p, acc => if p < e then .bad 4 s else .ok acc
  | k :: ks, p, acc => match stepP F b s e p k with | .ok x q => goP F b s e ks q (acc ++ [x]) | .bad c a => .bad c a

def pln (b : List UInt8) (p : Nat) : Got := if (rda b p).2.2.1 ≠ 0 ∨ (rda b p).1 ≠ (b.drop p).take ((rda b p).2.1 - p) then ([], 0, 4, 0) else ((rda b p).1, (rda b p).2.1, 0, 0)

def spl (t : Int) (d : List UInt8) : RR := if t < 0 ∨ 65535 < t then .bad 5 0 else if 65535 < d.length then .bad 3 0 else goP (pln d) d 0 d.length (kinds t) 0 []

def RR.code : RR → Int
  | .ok _ => 0
  | .bad e _ => e
def RR.pcs : RR → List Pc
  | .ok l => l
  | .bad _ _ => []
def RR.place : RR → Nat
  | .ok _ => 0
  | .bad _ a => a

def joined (l : List Pc) : List UInt8 := (l.map (·.1)).flatten

def rdR (b : List UInt8) (a size t : Int) : RR :=
  if t < 0 ∨ 65535 < t ∨ size < 0 ∨ 65535 < size then .bad 2 0 else if a < 0 ∨ (b.length : Int) < a then .bad 5 0 else if (b.length : Int) < a + size then .bad 4 b.length
  else goP (fun p => rda b p) b a.toNat (a.toNat + size.toNat) (kinds t) a.toNat []

/-! ### as the document cuts them -/

def frt (s : List UInt8) : Nat → Nat → Option Nat
  | 0, _ => none
  | n + 1, p => if h : p < s.length then (if s[p].toNat = 0 then some p else frt s n (p + (1 + s[p].toNat))) else none
def front (s : List UInt8) : Option Nat := match frt s (s.length + 1) 0 with | none => none | some p => if chk (s.take (p + 1)) = 0 then some (p + 1) else none

def txs (s : List UInt8) : Nat → Nat → Bool
  | 0, _ => false
  | n + 1, p => if h : p < s.length then txs s n (p + (1 + s[p].toNat)) else decide (p = s.length)
def texts (s : List UInt8) : Bool := decide (s ≠ []) && txs s (s.length + 1) 0

def lenP (s : List UInt8) : PK → Option Nat
  | .fix n => if n ≤ s.length then some n else none
  | .nam => front s
  | .txt => if texts s then some s.length else none
  | .rst => some s.length

def PK.isNam : PK → Bool
  | .nam => true
  | _ => false

def cuts : List PK → List UInt8 → Option (List Pc × List UInt8)
  | [], s => some ([], s)
  | k :: ks, s => match lenP s k with | none => none | some n => (cuts ks (s.drop n)).map fun r => ((s.take n, k.isNam) :: r.1, r.2)

end Go.Proofs.YteegekpanadmkaaGreat

/-
  The document's packer in memory: its tails, where one stands.
-/
namespace Go.Proofs.YteegekpanadmkaaGreat
open Go.RowKit Go.Shelf
set_option linter.unusedVariables false
set_option maxRecDepth 100000

def kc : List (List UInt8 × Nat) → List Value
  | [] => []
  | p :: r => .string (bs p.1) :: .int .i64 (p.2 : Int) :: kc r

theorem kc_len (K : List (List UInt8 × Nat)) : (kc K).length = K.length * 2 := by
  induction K with
  | nil => rfl
  | cons p r ih => simp [kc, ih]; omega
theorem kc_app (K K' : List (List UInt8 × Nat)) : kc (K ++ K') = kc K ++ kc K' := by
  induction K with
  | nil => rfl
  | cons p r ih => simp [kc, ih]
theorem kc_at : ∀ (K : List (List UInt8 × Nat)) (j : Nat) (h : j < K.length), (kc K)[j * 2]? = some (.string (bs K[j].1)) ∧ (kc K)[j * 2 + 1]? = some (.int .i64 (K[j].2 : Nat))
  | [], j, h => by simp at h
  | p :: r, 0, h => ⟨rfl, rfl⟩
  | p :: r, j + 1, h => by
    obtain ⟨h1, h2⟩ := kc_at r j (by simpa using h)
    rw [show (j + 1) * 2 = j * 2 + 1 + 1 by omega, kc]
    exact ⟨h1, h2⟩
theorem kc_one (K : List (List UInt8 × Nat)) : ∀ u ∈ kc K, u.oneCell' = true := by
  induction K with
  | nil => intro u hu; simp [kc] at hu
  | cons p r ih =>
    intro u hu
    rcases List.mem_cons.mp hu with rfl | hu
    · rfl
    · rcases List.mem_cons.mp hu with rfl | hu
      · rfl
      · exact ih u hu

def OwnK (w : World) (B : Nat) (v : Value) (K : List (List UInt8 × Nat)) : Prop := w.ownsRow B 145 2 v K.length (kc K)

section
variable {w w' : World} {B : Nat} {v : Value} {K : List (List UInt8 × Nat)} {G : Nat → Prop}
theorem OwnK.nil (w : World) (B : Nat) : OwnK w B (.slice none 0 0) [] := World.ownsRow_nil _ _ _ _
theorem OwnK.lt (h : OwnK w B v K) : ∀ k, v.ownBlock = some k → B ≤ k ∧ k < w.heap.size := World.ownsRow.lt h
theorem OwnK.aside (h : OwnK w B v K) (ha : Aside G w w') (hG : ∀ b, v.ownBlock = some b → ¬ G b) : OwnK w' B v K := by
  have hlt := h.lt
  refine ⟨h.1, ?_⟩
  rcases h.2 with h2 | ⟨g, cap, cur, hv, hg, hh, r⟩
  · exact .inl h2
  · exact .inr ⟨g, cap, cur, hv, hg, (ha.block g (by subst hv; exact (hlt g rfl).2) (hG g (by rw [hv]; rfl))).trans hh, r⟩
theorem OwnK.below (h : OwnK w B v K) (hb : Below w.heap.size w w') : OwnK w' B v K := h.aside (G := fun _ => False) (Aside.of_all hb) fun _ _ h => h
theorem OwnK.shape (h : OwnK w B v K) : ∃ a c, v = .slice a K.length c := by
  rcases h.2 with ⟨rfl, h0⟩ | ⟨g, cap, cur, rfl, _⟩
  · exact ⟨none, 0, by rw [h0]⟩
  · exact ⟨_, cap, rfl⟩
theorem OwnK.at_ (h : OwnK w B v K) (j : Nat) (hj : j < K.length) : ∃ g c, v = .slice (some ⟨g, 0, none⟩) K.length c ∧ w.cell? ⟨g, j * 2, none⟩ = some (.string (bs K[j].1)) ∧ w.cell? ⟨g, j * 2 + 1, none⟩ = some (.int .i64 (K[j].2 : Nat)) := by
  have hc := fun g hg => World.ownsRow.cells h (g := g) hg
  rcases h.2 with ⟨rfl, h0⟩ | ⟨g, cap, cur, rfl, _⟩
  · omega
  · obtain ⟨h1, h2⟩ := kc_at K j hj
    have e1 := hc g rfl _ _ h1
    have e2 := hc g rfl _ _ h2
    rw [WideShapes.add_plain, Nat.zero_add] at e1 e2
    exact ⟨g, cap, rfl, e1, e2⟩
end

theorem info_tail : (Tryz.prog.info? 145).map (fun i => (i.zero, i.size, i.bytes)) = some (some (.agg #[.string ⟨#[]⟩, .int .i64 0]), 2, 24) := by kernel_rfl

theorem run_appK {w : World} (B : Nat) (v : Value) (K K' : List (List UInt8 × Nat)) (g c : Nat) (hown : OwnK w B v K) (hx : ∀ j u, (kc K')[j]? = some u → w.cell? ⟨g, j, none⟩ = some u) (hb : K.length + K'.length ≤ 1000000) (hB : B ≤ w.heap.size) :
    ∃ a' c' w', (Builtin.append_ #[108, 108] 108 #[v, .slice (some ⟨g, 0, none⟩) K'.length c]).run Tryz.prog w = .ok (.slice a' (K.length + K'.length) c') w' ∧ OwnK w' B (.slice a' (K.length + K'.length) c') (K ++ K') ∧ Aside (fun b => v.ownBlock = some b) w w' := by
  obtain ⟨i0, hi, hz0, hz1, hz2⟩ := info_parts info_tail
  obtain ⟨v', w', h1, h2, h3, _⟩ := run_append_own (P := Tryz.prog) w B 108 108 145 i0 _ 2 24 Tryz.underlying108 hi hz0 hz1 hz2 rfl (by decide) v K.length (kc K) hown ⟨g, 0, none⟩ K'.length c (kc K') (kc_len K')
    (fun j u hu => by rw [WideShapes.add_plain, Nat.zero_add]; exact hx j u hu) (kc_one K') (by unfold maxLen; omega) (by omega) hB
  have h4 : OwnK w' B v' (K ++ K') := by
    unfold OwnK
    rw [List.length_append, kc_app]
    exact h2
  obtain ⟨a', c', hv⟩ := h4.shape
  rw [List.length_append] at hv
  subst hv
  exact ⟨a', c', w', h1, h4, Aside.grown h3 fun _ h => h⟩

theorem run_appK0 {w : World} (B : Nat) (v : Value) (K : List (List UInt8 × Nat)) (hown : OwnK w B v K) :
    (Builtin.append_ #[108, 108] 108 #[v, .slice none 0 0]).run Tryz.prog w = .ok v w := by
  obtain ⟨i0, hi, hz0, hz1, hz2⟩ := info_parts info_tail
  exact run_append_owned_none (P := Tryz.prog) (w := w) B _ _ _ i0 2 Tryz.underlying108 hi v K.length (kc K) hown

theorem run_appKs {w : World} (B B' : Nat) (v v2 : Value) (K K' : List (List UInt8 × Nat)) (hown : OwnK w B v K) (h2 : OwnK w B' v2 K') (hb : K.length + K'.length ≤ 1000000) (hB : B ≤ w.heap.size) :
    ∃ a' c' w', (Builtin.append_ #[108, 108] 108 #[v, v2]).run Tryz.prog w = .ok (.slice a' (K.length + K'.length) c') w' ∧ OwnK w' B (.slice a' (K.length + K'.length) c') (K ++ K') ∧ Aside (fun b => v.ownBlock = some b) w w' := by
  have hc := fun g hg => World.ownsRow.cells h2 (g := g) hg
  rcases h2.2 with ⟨rfl, h0⟩ | ⟨g, cap, cur, rfl, _⟩
  · have e : K' = [] := List.eq_nil_of_length_eq_zero h0
    subst e
    have h1 := run_appK0 B v K hown
    obtain ⟨a', c', rfl⟩ := hown.shape
    exact ⟨a', c', w, h1, by rw [List.append_nil]; exact hown, Aside.refl _ _⟩
  · exact run_appK B v K K' g cap hown (fun j u hu => by have := hc g rfl j u hu; rwa [WideShapes.add_plain, Nat.zero_add] at this) hb hB

theorem apart_BK {w : World} {B B' : Nat} {v v' : Value} {l : List UInt8} {K : List (List UInt8 × Nat)} (h : OwnB w B v l) (h' : OwnK w B' v' K) (b : Nat) (h1 : v.ownBlock = some b) (h2 : v'.ownBlock = some b) : False := by
  rcases h with ⟨rfl, _⟩ | ⟨g, cap, fz, rfl, _, _, _, _, hg⟩
  · simp [Value.ownBlock] at h1
  · rcases h'.2 with ⟨rfl, _⟩ | ⟨g', cap', cur, rfl, _, hg', _⟩
    · simp [Value.ownBlock] at h2
    · simp [Value.ownBlock] at h1 h2
      subst h1; subst h2
      rw [hg] at hg'
      injection hg' with hg'
      injection hg' with _ h3 _
      exact absurd h3 (by decide)

structure Rk (w : World) (B q : Nat) (v : Value) (K : List (List UInt8 × Nat)) (e : Nat) : Prop where
  row : w.cell? ⟨q, 0, none⟩ = some v
  fin : w.cell? ⟨q, 1, none⟩ = some (.int .i64 e)
  free : ∀ j, w.frozen? ⟨q, j, none⟩ = false
  own : OwnK w B v K
  lt : q < B
  size : B ≤ w.heap.size

theorem Rk.aside {w w' : World} {B q e : Nat} {v : Value} {K : List (List UInt8 × Nat)} {G : Nat → Prop} (h : Rk w B q v K e) (ha : Aside G w w') (hq : ¬ G q) (hG : ∀ b, v.ownBlock = some b → ¬ G b) : Rk w' B q v K e := by
  have hlt : q < w.heap.size := World.block_lt_of_cell? w _ h.row
  exact ⟨ha.cell_lt h.row hq, ha.cell_lt h.fin hq, fun j => (ha.frozen (p := ⟨q, j, none⟩) hlt hq).trans (h.free j), h.own.aside ha hG, h.lt, Nat.le_trans h.size ha.size⟩
theorem Rk.later {w w' : World} {B q e : Nat} {v : Value} {K : List (List UInt8 × Nat)} (h : Rk w B q v K e) (hb : Below w.heap.size w w') : Rk w' B q v K e := h.aside (G := fun _ => False) (Aside.of_all hb) (fun h => h) fun _ _ h => h

theorem plc_hit {K : List (List UInt8 × Nat)} {t : List UInt8} {k : Nat} (hk : k < K.length) (h : plc (K.take k) t = none) (e : K[k].1 = t) : plc K t = some K[k].2 := by
  obtain ⟨y, hy⟩ : ∃ y, K[k] = y := ⟨_, rfl⟩
  rw [hy] at e ⊢
  have : K = K.take k ++ ([y] ++ K.drop (k + 1)) := by
    conv => lhs; rw [← List.take_append_drop k K, List.drop_eq_getElem_cons hk, hy]
    rfl
  rw [this, plc_app, h, Option.none_or, plc_app]
  have h1 : plc [y] t = some y.2 := by
    have := plc_one y.1 t y.2
    rw [if_pos e] at this
    exact this
  rw [h1, Option.some_or]
theorem plc_miss {K : List (List UInt8 × Nat)} {t : List UInt8} {k : Nat} (hk : k < K.length) (h : plc (K.take k) t = none) (e : ¬ K[k].1 = t) : plc (K.take (k + 1)) t = none := by
  rw [List.take_add_one, List.getElem?_eq_getElem hk, Option.toList_some, plc_app, h, Option.none_or]
  have := plc_one K[k].1 t K[k].2
  rw [if_neg e] at this
  exact this

set_option maxHeartbeats 1000000 in
theorem place_any {w : World} {B q e : Nat} {v : Value} {K : List (List UInt8 × Nat)} (h : Rk w B q v K e) (hK : K.length ≤ 1000000) (t : List UInt8) :
    Calls Tryz.prog 93 #[.pointer (some ⟨q, 0, none⟩), .string (bs t)] w fun x w' => x = .returned (.int .i64 (match plc K t with | some x => (x : Int) | none => -1)) ∧ w = w' := by
  have HO := Lib.hid h.own
  have c1 := h.row
  obtain ⟨av, cv, rfl⟩ := h.own.shape
  obtain ⟨r, hr⟩ : ∃ r : Int, (match plc K t with | some x => (x : Int) | none => -1) = r := ⟨_, rfl⟩
  rw [hr]
  have HR := Lib.hid hr
  clear hr h
  go_enter Tryz.func93, Tryz.ntmps93
  go_wp2
  go_loopg [5] K.length (fun g v3 wr => ∃ k : Nat, k + g = K.length ∧ v3 = .int .i64 k ∧ Hid (plc (K.take k) t = none) ∧ w = wr)
  case atStart => exact ⟨0, by omega, rfl, rfl, rfl⟩
  case round =>
    obtain ⟨k, hk, rfl, HP, rfl⟩ := hrel
    by_cases hkl : k < K.length
    · obtain ⟨g, c, he, k0, k1⟩ := HO.out.at_ k hkl
      injection he with he1 he2 he3
      subst he1
      clear he2 he3
      by_cases heq : K[k].1 = t
      · have HE := Lib.hid (show r = (K[k].2 : Nat) by rw [← HR.out, plc_hit hkl HP.out heq])
        obtain ⟨z, hz⟩ : ∃ z, K[k].2 = z := ⟨_, rfl⟩
        rw [hz] at k1 HE
        rw [heq] at k0
        have ht : ((bs t).toList == (bs t).toList) = true := by simp
        clear hz HP heq
        go_wp2_with fail
        go_ret
        exact ⟨by rw [HE.out]; rfl, rfl⟩
      · have HM := Lib.hid (plc_miss hkl HP.out heq)
        obtain ⟨y, hy⟩ : ∃ y, K[k].1 = y := ⟨_, rfl⟩
        rw [hy] at k0 heq
        have ht : ((bs y).toList == (bs t).toList) = false := by rw [bs_toList, bs_toList]; simpa using heq
        clear hy HP heq
        go_wp2_with fail
        go_roundg (K.length - (k + 1))
        case measure => omega
        case rel => exact ⟨k + 1, by omega, by go_num, HM, rfl⟩
    · have HE := Lib.hid (show r = -1 by rw [← HR.out]; have := HP.out; rw [List.take_of_length_le (by omega)] at this; rw [this])
      clear HP
      have t1 : ¬ ((k : Int) < K.length) := by omega
      go_wp2_with fail
      go_ret
      exact ⟨by rw [HE.out]; rfl, rfl⟩
end Go.Proofs.YteegekpanadmkaaGreat
