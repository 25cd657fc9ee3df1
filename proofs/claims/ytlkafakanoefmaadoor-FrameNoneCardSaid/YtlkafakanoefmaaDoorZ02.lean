/-
  bytes.growSlice, of any slice of bytes.
-/
import Derived.Test.YtlkafakanoefmaaDoorZ01
import Derived.Lib.AppendZeros
import Derived.Lib.ByteType
import Derived.Laws.CopyRow
import Derived.Laws.IdiomCopy
import Derived.Defers
import Derived.Recover
import Derived.Tactics2
import Derived.Deep.RegionHeld
import Derived.BigRegion
import Derived.Laws.Cover3
namespace Go.Proofs.YtlkafakanoefmaaDoor
open Go.RowKit Go.Shelf
set_option linter.unusedVariables false
set_option maxRecDepth 100000

theorem catch_gs (w : World) : CallsD Tryd.prog 47 #[] .returning w fun e u' w' => e = .returned (.tuple #[]) ∧ u' = .returning ∧ w' = w := by
  have hnn : ∀ w, (binOp .neq 20 .nilIface .nilIface).run Tryd.prog w = .ok (.bool false) w := fun w => Lib.run_neq_nil_nil w Tryd.underlying20
  refine callsD_of_wpS Tryd.func47 rfl fun c₀ cs hu => ?_
  apply wpS_seq
  apply wpS_region
  simp [wpOpsS, go_sem, recoverD, hu, hnn, Tryd.ntmps47, Exit.thenS]
  refine wpS_cond (t := false) (by simp [Act.eval, Array.replicate]) ?_
  simp only [Bool.false_eq_true, if_false]
  refine wpS_of_wp (wp_skip ?_)
  cases c₀
  simp_all [bodyPostS, results, Tryd.results47]

/-- A new row that begins with the bytes xs, and has room for k more. -/
def GsPost (w : World) (xs : List Int) (k : Nat) (e : Ending) (w' : World) : Prop :=
  ∃ (cap : Nat) (zs : List Int), e = .returned (.slice (some ⟨w.heap.size, 0, none⟩) xs.length cap) ∧ w'.heap[w.heap.size]? = some (.cells (zs.map (Value.int .u8)).toArray 5 (0, 0)) ∧ zs.length = cap ∧ zs.take xs.length = xs ∧ xs.length + k ≤ cap ∧ cap ≤ maxLen ∧ Below w.heap.size w w'

theorem zeros_all (C cap : Nat) (h : C ≤ cap) : Builtin.zeroCells (Value.int .u8 0).cells C ++ Builtin.zeroCells (Value.int .u8 0).cells (cap - C) = (List.replicate cap (Value.int .u8 0)).toArray := by
  rw [zeroCells_one _ rfl, zeroCells_one _ rfl]
  simp [Nat.add_sub_cancel' h]

set_option maxHeartbeats 4000000 in
theorem gs_nil (k : Nat) (hk : 1 ≤ k) (hl : k ≤ 1000000000) (w : World) : Calls Tryd.prog 46 #[.slice none 0 0, .int .i64 k] w (GsPost w [] k) := by
  obtain ⟨i0, hi, hz0, hz1, hz2⟩ := info_parts Tryd.info5
  have happ := Lib.run_append_nil_zeros (P := Tryd.prog) w 22 3 22 5 i0 (.int .u8 0) .i64 .i64 Tryd.underlying22 Tryd.underlying3 hi hz0 (k) (by omega) (by omega) (by omega) (by rw [hz2]; omega)
  rw [show (((k : Nat)) : Int) = (k : Int) by omega] at happ
  obtain ⟨cap2, hcap⟩ : ∃ n, grownCap w (k) 0 5 = n := ⟨_, rfl⟩
  have hge : k ≤ cap2 := by rw [← hcap]; exact grownCap_ge w _ 0 5
  have hle : cap2 ≤ maxLen := by rw [← hcap]; exact grownCap_le_maxLen w _ 0 5 (by unfold maxLen; omega)
  rw [hcap, zeros_all _ _ hge] at happ
  obtain ⟨Z, hZ⟩ : ∃ Z, (List.replicate cap2 (Value.int .u8 0)).toArray = Z := ⟨_, rfl⟩
  rw [hZ] at happ
  have hcopy := run_copy_nil (P := Tryd.prog) (w.alloc (.cells Z 5)).drew 22 22 3 5 ⟨w.heap.size, 0, none⟩ k cap2 Tryd.underlying22 (by rw [hi]; rfl)
  have HF := Lib.hid (show GsPost w [] k (.returned (.slice (some ⟨w.heap.size, 0, none⟩) 0 cap2)) (w.alloc (.cells Z 5)).drew from
    ⟨cap2, List.replicate cap2 0, rfl, by rw [List.map_replicate, hZ]; exact heap_alloc_new w _, by simp, rfl, by simpa using hge, hle, ((Below.refl _ _).alloc (Nat.le_refl _) _).drew⟩)
  clear hcap hZ
  go_enter_defers Tryd.func46, Tryd.ntmps46
  go_wp2_with (at_builtin; refine Lib.wpList_append_run _ rfl _ _ _ _ rfl _ _ rfl rfl _ _ happ ?_)
  refine leaves_cons (f := 47) (args := #[]) (by simp) (enters_of Tryd.func47 (by kernel_rfl) rfl _ _) ?_
  refine (catch_gs _).mono ?_
  rintro e u' w'' ⟨rfl, rfl, rfl⟩
  refine ⟨_, results_tmp Tryd.results46 _ _ _, ?_⟩
  exact HF.out

set_option maxHeartbeats 4000000 in
theorem gs_any {w : World} {g off c : Nat} (xs : List Int) (k : Nat) (hsrc : ∀ j, j < xs.length → w.cell? ⟨g, off + j, none⟩ = some (.int .u8 (xs.getD j 0))) (hb : g < w.heap.size) (hxc : xs.length ≤ c) (hk : 1 ≤ k) (hc : c ≤ 1000000000) (hl : xs.length + k ≤ 1000000000) :
    Calls Tryd.prog 46 #[.slice (some ⟨g, off, none⟩) xs.length c, .int .i64 k] w (GsPost w xs k) := by
  obtain ⟨i0, hi, hz0, hz1, hz2⟩ := info_parts Tryd.info5
  have hsz1 : (Tryd.prog.info? 5).map (·.size) = some 1 := Tryd.size5
  have hsrc1 : ∀ (Z : Array Value) j v, (xs.map (Value.int .u8))[j]? = some v → (w.alloc (.cells Z 5)).drew.cell? ((⟨g, off, none⟩ : Addr).add j) = some v := fun Z j v hj => by
    rw [List.getElem?_map] at hj
    obtain ⟨x, hx, rfl⟩ := Option.map_eq_some_iff.mp hj
    have hjl := (List.getElem?_eq_some_iff.mp hx).1
    have h1 := hsrc j hjl
    rw [List.getD, hx] at h1
    rw [WideShapes.add_plain]
    exact (World.cell?_of_block (w := w) (a := ⟨g, off + j, none⟩) (Below.heap_alloc w _ g hb)).trans h1
  clear hsrc
  by_cases hC : xs.length + k < 2 * c
  · have happ := Lib.run_append_nil_zeros (P := Tryd.prog) w 22 3 22 5 i0 (.int .u8 0) .i64 .i64 Tryd.underlying22 Tryd.underlying3 hi hz0 (2 * c) (by omega) (by omega) (by omega) (by rw [hz2]; omega)
    rw [show (((2 * c : Nat)) : Int) = 2 * (c : Int) by omega] at happ
    obtain ⟨cap2, hcap⟩ : ∃ n, grownCap w (2 * c) 0 5 = n := ⟨_, rfl⟩
    have hge : 2 * c ≤ cap2 := by rw [← hcap]; exact grownCap_ge w _ 0 5
    have hle : cap2 ≤ maxLen := by rw [← hcap]; exact grownCap_le_maxLen w _ 0 5 (by unfold maxLen; omega)
    rw [hcap, zeros_all _ _ hge] at happ
    obtain ⟨Z, hZ⟩ : ∃ Z, (List.replicate cap2 (Value.int .u8 0)).toArray = Z := ⟨_, rfl⟩
    rw [hZ] at happ
    have hcopy := run_copy_row (P := Tryd.prog) (w.alloc (.cells Z 5)).drew 22 22 3 5 w.heap.size 0 (2 * c) cap2 ⟨g, off, none⟩ xs.length c Z 5 (xs.map (Value.int .u8)) Tryd.underlying22 hsz1 (heap_alloc_new w _) (by rw [List.length_map]; exact (Nat.min_eq_left (by omega)).symm) (fun j v hj => hsrc1 _ j v hj) (by rw [List.length_map, ← hZ]; simp; omega) (ints_oneCell _ _)
    rw [List.length_map] at hcopy
    obtain ⟨Y, hY⟩ : ∃ Y, (Z.toList.take 0 ++ xs.map (Value.int .u8) ++ Z.toList.drop (0 + xs.length)).toArray = Y := ⟨_, rfl⟩
    rw [hY] at hcopy
    have HF := Lib.hid (show GsPost w xs k (.returned (.slice (some ⟨w.heap.size, 0, none⟩) xs.length cap2)) ((w.alloc (.cells Z 5)).setRow w.heap.size Y).drew from
      ⟨cap2, xs ++ List.replicate (cap2 - xs.length) 0, rfl, by
        have e : ((xs ++ List.replicate (cap2 - xs.length) 0).map (Value.int .u8)).toArray = Y := by rw [← hY, ← hZ]; simp
        rw [e]; exact setRow_heap _ _ Z Y 5 (0, 0) (heap_alloc_new w _), by simp; omega, List.take_left, by omega, hle, ⟨rfl, rfl, rfl, by simp [World.drew], fun j hj => (setRow_other _ _ j _ (by omega)).trans (Below.heap_alloc w _ j hj)⟩⟩)
    clear hcap hZ hY
    go_enter_defers Tryd.func46, Tryd.ntmps46
    go_wp2_with (at_builtin; refine Lib.wpList_append_run _ rfl _ _ _ _ rfl _ _ rfl rfl _ _ happ ?_)
    refine leaves_cons (f := 47) (args := #[]) (by simp) (enters_of Tryd.func47 (by kernel_rfl) rfl _ _) ?_
    refine (catch_gs _).mono ?_
    rintro e u' w'' ⟨rfl, rfl, rfl⟩
    refine ⟨_, results_tmp Tryd.results46 _ _ _, ?_⟩
    exact HF.out
  · have happ := Lib.run_append_nil_zeros (P := Tryd.prog) w 22 3 22 5 i0 (.int .u8 0) .i64 .i64 Tryd.underlying22 Tryd.underlying3 hi hz0 ((xs.length + k)) (by omega) (by omega) (by omega) (by rw [hz2]; omega)
    rw [show ((((xs.length + k) : Nat)) : Int) = (xs.length : Int) + (k : Int) by omega] at happ
    obtain ⟨cap2, hcap⟩ : ∃ n, grownCap w ((xs.length + k)) 0 5 = n := ⟨_, rfl⟩
    have hge : (xs.length + k) ≤ cap2 := by rw [← hcap]; exact grownCap_ge w _ 0 5
    have hle : cap2 ≤ maxLen := by rw [← hcap]; exact grownCap_le_maxLen w _ 0 5 (by unfold maxLen; omega)
    rw [hcap, zeros_all _ _ hge] at happ
    obtain ⟨Z, hZ⟩ : ∃ Z, (List.replicate cap2 (Value.int .u8 0)).toArray = Z := ⟨_, rfl⟩
    rw [hZ] at happ
    have hcopy := run_copy_row (P := Tryd.prog) (w.alloc (.cells Z 5)).drew 22 22 3 5 w.heap.size 0 ((xs.length + k)) cap2 ⟨g, off, none⟩ xs.length c Z 5 (xs.map (Value.int .u8)) Tryd.underlying22 hsz1 (heap_alloc_new w _) (by rw [List.length_map]; exact (Nat.min_eq_left (by omega)).symm) (fun j v hj => hsrc1 _ j v hj) (by rw [List.length_map, ← hZ]; simp; omega) (ints_oneCell _ _)
    rw [List.length_map] at hcopy
    obtain ⟨Y, hY⟩ : ∃ Y, (Z.toList.take 0 ++ xs.map (Value.int .u8) ++ Z.toList.drop (0 + xs.length)).toArray = Y := ⟨_, rfl⟩
    rw [hY] at hcopy
    have HF := Lib.hid (show GsPost w xs k (.returned (.slice (some ⟨w.heap.size, 0, none⟩) xs.length cap2)) ((w.alloc (.cells Z 5)).setRow w.heap.size Y).drew from
      ⟨cap2, xs ++ List.replicate (cap2 - xs.length) 0, rfl, by
        have e : ((xs ++ List.replicate (cap2 - xs.length) 0).map (Value.int .u8)).toArray = Y := by rw [← hY, ← hZ]; simp
        rw [e]; exact setRow_heap _ _ Z Y 5 (0, 0) (heap_alloc_new w _), by simp; omega, List.take_left, by omega, hle, ⟨rfl, rfl, rfl, by simp [World.drew], fun j hj => (setRow_other _ _ j _ (by omega)).trans (Below.heap_alloc w _ j hj)⟩⟩)
    clear hcap hZ hY
    go_enter_defers Tryd.func46, Tryd.ntmps46
    go_wp2_with (at_builtin; refine Lib.wpList_append_run _ rfl _ _ _ _ rfl _ _ rfl rfl _ _ happ ?_)
    refine leaves_cons (f := 47) (args := #[]) (by simp) (enters_of Tryd.func47 (by kernel_rfl) rfl _ _) ?_
    refine (catch_gs _).mono ?_
    rintro e u' w'' ⟨rfl, rfl, rfl⟩
    refine ⟨_, results_tmp Tryd.results46 _ _ _, ?_⟩
    exact HF.out
end Go.Proofs.YtlkafakanoefmaaDoor

/-
  A region whose loads are fixed by what holds till its last operation, a store, comes up.
-/
namespace Go.Proofs.YtlkafakanoefmaaDoor
open Go.RowKit Go.Shelf
set_option linter.unusedVariables false
set_option linter.unusedSimpArgs false

section
variable {P : Program} {md : Region.Mode} {ops : Array Oper} {Q : Exit → Act → World → Prop} {S : World → Prop} {k : Nat}

/-- In whatever order; S holds behind each operation but number k. -/
def Till (P : Program) (md : Region.Mode) (ops : Array Oper) (Q : Exit → Act → World → Prop) (S : World → Prop) (k : Nat) (n : Nat) (l : Array Bool) (a : Act) (w : World) : Prop :=
  match n with
  | 0 => Region.ready md ops l = [] ∧ Q .normal a w
  | n + 1 => (Region.ready md ops l = [] → Q .normal a w) ∧ ∀ i, i ∈ Region.ready md ops l → wpOp P ops Q i (fun a' w' => (i ≠ k → S w') ∧ Till P md ops Q S k n (l.setIfInBounds i true) a' w') a w

theorem Till.any (n : Nat) : ∀ (l : Array Bool) (a : Act) (w : World), Till P md ops Q S k n l a w → wpAny P md ops Q n l a w := by
  induction n with
  | zero => exact fun _ _ _ h => h
  | succ n ih => exact fun l a w h => ⟨h.1, fun i hi => wpOp_mono (fun a' w' hh => ih _ a' w' hh.2) (h.2 i hi)⟩

/-- While i has not come up, nothing that waits for it may. -/
theorem not_ready {i j : Nat} {l : Array Bool} (hi : i ∈ Region.ready md ops l) {o : Oper} (ho : ops[j]? = some o) (hj : j ∈ Region.ready md ops l) {e : Edge} (he : e ∈ o.after) (hb : Region.binds md e = true) : e.on ≠ i := by
  rintro rfl
  obtain ⟨_, o', ho', hall⟩ := mem_ready.1 hj
  obtain rfl : o = o' := by rw [ho] at ho'; exact Option.some.inj ho'
  have h1 := hall e he hb
  have h0 := (mem_ready.1 hi).1
  by_cases hs : e.on < l.size
  · simp only [Array.getD, hs, dite_true] at h0 h1
    rw [h0] at h1
    cases h1
  · simp only [Array.getD, hs, dite_false] at h1
    cases h1

/-- What yields the same wherever S holds may be taken first, if number k waits for it. -/
theorem till_first {i : Nat} {oi ok : Oper} {v : Value} (hi : ops[i]? = some oi) (hk : ops[k]? = some ok) {e : Edge} (he : e ∈ ok.after) (hbe : Region.binds md e = true) (hei : e.on = i) (hns : Region.noSelect ops = true)
    (hQ : ∀ c a w, Q (.panic c) (a.put oi.dst v) w → Q (.panic c) a w) (n : Nat) : ∀ (l : Array Bool) (a : Act) (w : World),
      (∀ j oj, ops[j]? = some oj → j ≠ i → l.getD j true = false → (∀ e ∈ oj.after, Region.binds md e = true → e.on ≠ i) → oi.apart ops oj = true) →
      i ∈ Region.ready md ops l → YieldsIf P ops S oi v a → S w → Till P md ops Q S k n (l.setIfInBounds i true) (a.put oi.dst v) w → Till P md ops Q S k (n + 1) l a w := by
  have hsel := Region.noSelect_spec hns
  induction n with
  | zero =>
    intro l a w _ hr hy hS H
    refine ⟨fun h => absurd (h ▸ hr) (by simp), fun j hj => ?_⟩
    rcases Nat.decEq j i with hji | rfl
    · have hm := ready_mono hj hji
      rw [H.1] at hm
      exact absurd hm (by simp)
    · exact hy.wpOp hi hS ⟨fun _ => hS, H⟩
  | succ n ih =>
    intro l a w hf hr hy hS H
    refine ⟨fun h => absurd (h ▸ hr) (by simp), fun j hj => ?_⟩
    rcases Nat.decEq j i with hji | rfl
    · obtain ⟨hun, oj, hoj, _⟩ := mem_ready.1 hj
      have hjk : j ≠ k := by
        rintro rfl
        exact not_ready hr hk hj he hbe hei
      have hap := hf j oj hoj hji hun fun e' he' hb' => not_ready hr hoj hj he' hb'
      refine wpOp_mono ?_ (wpOp_putIf hoj hap (fun cs b => hsel i oi cs b hi) (fun cs b => hsel j oj cs b hoj) hQ hy (H.2 j (ready_mono hj hji)))
      rintro a' w' ⟨hy', hS', hT⟩
      refine ⟨hS', ih _ a' w' (fun m om hm hmi hmu hmn => hf m om hm hmi ?_ hmn) (ready_mono hr (Ne.symm hji)) hy' (hS' hjk) ?_⟩
      · rcases Nat.decEq j m with hjm | rfl
        · rwa [getD_set_ne true hjm] at hmu
        · exact hun
      · rw [Array.setIfInBounds_comm _ _ hji]
        exact hT
    · exact hy.wpOp hi hS ⟨fun _ => hS, H⟩

/-- Number k waits for number i. -/
def waitsB (md : Region.Mode) (ops : Array Oper) (k i : Nat) : Bool := match ops[k]? with
  | some o => o.after.any fun e => Region.binds md e && e.on == i
  | none => false

theorem till_take {i : Nat} {oi : Oper} {v : Value} {n : Nat} {l : Array Bool} {a : Act} {w : World} (hi : ops[i]? = some oi) (hs : Region.noSelect ops = true) (hf : Region.free md ops l i = true)
    (hr : (Region.ready md ops l).contains i = true) (hQ : ∀ c a w, Q (.panic c) (a.put oi.dst v) w → Q (.panic c) a w) (hy : YieldsIf P ops S oi v a) (hS : S w)
    (h : Till P md ops Q S k n (l.setIfInBounds i true) (a.put oi.dst v) w) (hw : waitsB md ops k i = true := by kernel_rfl) : Till P md ops Q S k (n + 1) l a w := by
  unfold waitsB at hw
  split at hw
  · rename_i ok hk
    obtain ⟨e, he, hbe⟩ := Array.any_eq_true'.mp hw
    rw [Bool.and_eq_true] at hbe
    exact till_first hi hk he hbe.1 (by simpa using hbe.2) hs hQ n l a w (Region.free_spec hi hf) (by simpa using hr) hy hS h
  · cases hw

def TillAll (P : Program) (md : Region.Mode) (ops : Array Oper) (Q : Exit → Act → World → Prop) (S : World → Prop) (k : Nat) (n : Nat) (l : Array Bool) (a : Act) (w : World) (rs : List Nat) : Prop :=
  ∀ i, i ∈ rs → wpOp P ops Q i (fun a' w' => (i ≠ k → S w') ∧ Till P md ops Q S k n (l.setIfInBounds i true) a' w') a w
theorem TillAll.nil {n : Nat} {l : Array Bool} {a : Act} {w : World} : TillAll P md ops Q S k n l a w [] := fun _ h => by cases h
theorem TillAll.cons {n : Nat} {l : Array Bool} {a : Act} {w : World} {i : Nat} {o : Oper} {rs : List Nat} (ho : ops[i]? = some o)
    (h : ∀ K' : Act → World → Prop, Shut (∀ a w, S w → (S w → Till P md ops Q S k n (l.setIfInBounds i true) a w) → K' a w) → if Region.wanted o (yielded ops a.tmps) = true then Oper.wp P o a w K' Q else K' (a.put o.dst undef) w)
    (hs : TillAll P md ops Q S k n l a w rs) (hik : i ≠ k := by decide) : TillAll P md ops Q S k n l a w (i :: rs) := fun j hj => by
  rcases List.mem_cons.1 hj with rfl | hj
  · exact wpOp_step ho fun K' hK => h K' fun a w hS hW => hK a w ⟨fun _ => hS, hW hS⟩
  · exact hs j hj
/-- The last one. -/
theorem TillAll.last {n : Nat} {l : Array Bool} {a : Act} {w : World} {o : Oper} {rs : List Nat} (ho : ops[k]? = some o)
    (h : ∀ K' : Act → World → Prop, Shut (∀ a w, True → (True → Till P md ops Q S k n (l.setIfInBounds k true) a w) → K' a w) → if Region.wanted o (yielded ops a.tmps) = true then Oper.wp P o a w K' Q else K' (a.put o.dst undef) w)
    (hs : TillAll P md ops Q S k n l a w rs) : TillAll P md ops Q S k n l a w (k :: rs) := fun j hj => by
  rcases List.mem_cons.1 hj with rfl | hj
  · exact wpOp_step ho fun K' hK => h K' fun a w _ hW => hK a w ⟨fun hk => absurd rfl hk, hW trivial⟩
  · exact hs j hj
theorem till_ready {rs : List Nat} {n : Nat} {l : Array Bool} {a : Act} {w : World} (hr : Region.ready md ops l = rs) (hne : rs ≠ []) (h : TillAll P md ops Q S k n l a w rs) : Till P md ops Q S k (n + 1) l a w :=
  ⟨fun h0 => absurd (hr ▸ h0) hne, hr ▸ h⟩
theorem till_done {l : Array Bool} {a : Act} {w : World} (hr : Region.ready md ops l = []) (h : Q .normal a w) (n : Nat) : Till P md ops Q S k n l a w := by
  cases n with
  | zero => exact ⟨hr, h⟩
  | succ n => exact ⟨fun _ => h, fun i hi => by rw [hr] at hi; cases hi⟩
theorem wp_region_till {id : Nat} {a : Act} {w : World} (k : Nat) (hm : P.follows .mixedOrders = true) (hS : S w.drew)
    (h : S w.drew → Till P .any ops Q S k ops.size (Array.replicate ops.size false) a w.drew) : (Code.region id ops true).wp P Q a w :=
  wp_region_any hm (Till.any _ _ _ _ (h hS))
end
end Go.Proofs.YtlkafakanoefmaaDoor

/-
  (*bytes.Buffer).grow, of a buffer that has been read, too.
-/
namespace Go.Proofs.YtlkafakanoefmaaDoor
open Go.RowKit Go.Shelf
set_option linter.unusedVariables false
set_option linter.unusedSimpArgs false
set_option maxRecDepth 100000
variable {cs : Nat → Option Value}

theorem eql_nil (a : Option Addr) (n c : Nat) (w : World) : (binOp .eql 22 (.slice a n c) (.slice none 0 0)).run Tryd.prog w = .ok (.bool a.isNone) w := by
  simp [binOp, run_equal_slice_nil (P := Tryd.prog) w 22 5 a n c Tryd.underlying22]

/-- How a buffer is behind grow: m bytes that it kept (ys), and room for k more behind them. -/
def GrPost (cs : Nat → Option Value) (w : World) (b q : Nat) (o : Option Nat) (m k : Nat) (ys : List Int) (e : Ending) (w' : World) : Prop :=
  e = .returned (.int .i64 m) ∧ ∃ a' c' zs' o' lr', BfC cs w' b q a' (m + k) c' 0 lr' ∧ BfR w' b o' a' c' zs' ∧ m + k ≤ c' ∧ zs'.take m = ys ∧ (o' = o ∨ ∃ g, o' = some g ∧ w.heap.size ≤ g) ∧ Aside (fun j => j = b ∨ o = some j) w w'

theorem BfC.later {w w' : World} {b q n c off : Nat} {a : Option Addr} {lr : Int} (h : BfC cs w b q a n c off lr) (hb : Below w.heap.size w w') : BfC cs w' b q a n c off lr := h.aside (G := fun _ => False) (Aside.of_all hb) fun h => h

/-- Behind growSlice, and the three stores. -/
theorem GrPost.new {w w2 : World} {b q n c off m k cap : Nat} {a : Option Addr} {o : Option Nat} {lr : Int} {zs ys : List Int} (hC : BfC cs w b q a n c off lr) (hb : Below w.heap.size w w2) (hr : w2.heap[w.heap.size]? = some (.cells (zs.map (Value.int .u8)).toArray 5 (0, 0)))
    (hz : zs.length = cap) (hm : zs.take m = ys) (hk : m + k ≤ cap) (hcm : cap ≤ maxLen) (N : Nat) (hN : N = w.heap.size) :
    GrPost cs w b q o m k ys (.returned (.int .i64 m)) (((w2.setCell ⟨b, q, none⟩ (.slice (some ⟨N, 0, none⟩) m cap)).setCell ⟨b, q + 1, none⟩ (.int .i64 0)).setCell ⟨b, q, none⟩ (.slice (some ⟨N, 0, none⟩) (m + k) cap)) := by
  subst hN
  have hlt := hC.lt
  have h2 := hC.later hb
  have h3 := ((h2.setB (some ⟨w.heap.size, 0, none⟩) m cap).setO 0).setB (some ⟨w.heap.size, 0, none⟩) (m + k) cap
  have hR : BfR w2 b (some w.heap.size) (some ⟨w.heap.size, 0, none⟩) cap zs := ⟨hz, hcm, .inr ⟨_, rfl, rfl, by omega, hr⟩⟩
  refine ⟨rfl, _, cap, zs, some w.heap.size, lr, h3, ((hR.set _ _).set _ _).set _ _, hk, hm, .inr ⟨_, rfl, Nat.le_refl _⟩, ?_⟩
  exact (((Aside.of_all hb).trans (Aside.setCell (G := fun j => j = b ∨ o = some j) _ _ (.inl rfl))).trans (Aside.setCell _ _ (.inl rfl))).trans (Aside.setCell _ _ (.inl rfl))

/-- What growSlice has made. -/
structure GsAt (w : World) (m : Nat) (X : List Int) (k cap : Nat) (ys : List Int) (w' : World) : Prop where
  row : w'.heap[w.heap.size]? = some (.cells (ys.map (Value.int .u8)).toArray 5 (0, 0))
  len : ys.length = cap
  head : ys.take m = X
  room : m + k ≤ cap
  cap : cap ≤ maxLen
  bel : Below w.heap.size w w'

theorem GrPost.drews {w w' : World} {b q m k : Nat} {o : Option Nat} {ys : List Int} {e : Ending} (h : GrPost cs w.drew b q o m k ys e w') : GrPost cs w b q o m k ys e w' := by
  obtain ⟨h1, a', c', zs', o', lr', h2, h3, h4, h5, h6, h7⟩ := h
  exact ⟨h1, a', c', zs', o', lr', h2, h3, h4, h5, h6, h7.of_drew⟩

set_option maxHeartbeats 4000000 in
theorem grow_far {w : World} {b q g n c off m k : Nat} {lr : Int} {zs : List Int} (hC : BfC cs w b q (some ⟨g, 0, none⟩) n c off lr) (hR : BfR w b (some g) (some ⟨g, 0, none⟩) c zs) (hn : off + m = n) (hnc : n ≤ c) (hk : 1 ≤ k) (hm0 : ¬ m = 0) (hno : c < n + k) (hfar : ¬ (k : Int) ≤ (c : Int) / 2 - m) (hmk : m + k ≤ 100000000) (hc : c ≤ 1000000000) :
    Calls Tryd.prog 44 #[.pointer (some ⟨b, q, none⟩), .int .i64 k] w (GrPost cs w b q (some g) m k ((zs.take n).drop off)) := by
  have HC := Lib.hid hC
  have HR := Lib.hid hR
  have hbl := hC.lt
  have hnil := fun wx => eql_nil (some ⟨g, 0, none⟩) n c wx
  have HL := Lib.hid (len_at hC (by omega) (by omega))
  rw [show n - off = m by omega] at HL
  have HT := Lib.hid (tryGrow_no (k := k) hC.drew hnc hno hR.2.1)
  have hfr := from_eq (some ⟨g, 0, none⟩) (show off ≤ n by omega) hnc
  obtain ⟨ga, hga⟩ : ∃ ga, sliced (some ⟨g, 0, none⟩) off n c 1 = ga := ⟨_, rfl⟩
  simp only [hga] at hfr
  obtain ⟨X, hX⟩ : ∃ X, (zs.take n).drop off = X := ⟨_, rfl⟩
  rw [hX]
  have HGS : Hid (∀ wx, Below w.heap.size w wx → Calls Tryd.prog 46 #[ga, .int .i64 ((off : Int) + k)] wx fun e w' => ∃ cap ys, e = .returned (.slice (some ⟨wx.heap.size, 0, none⟩) m cap) ∧ GsAt wx m X (off + k) cap ys w') := Lib.hid fun wx hx => by
    have hXl : X.length = m := by rw [← hX, List.length_drop, List.length_take, hR.1]; omega
    have hRx : BfR wx b (some g) (some ⟨g, 0, none⟩) c zs := hR.aside (G := fun _ => False) (Aside.of_all hx) fun _ _ h => h
    obtain ⟨_, _, ⟨e, _⟩ | ⟨g', e, e2, _, hg⟩⟩ := hRx
    · cases e
    injection e with e
    subst e
    have hcell : ∀ j, j < m → wx.cell? ⟨g, off + j, none⟩ = some (.int .u8 (X.getD j 0)) := fun j hj => by
      have hzl := hR.1
      rw [World.cell?, hg, ← hX]
      simp [List.getD, List.getElem?_drop, List.getElem?_take, show off + j < n by omega, show off + j < zs.length by omega]
    have hlt : g < wx.heap.size := (Array.getElem?_eq_some_iff.mp hg).1
    obtain ⟨off', hga2, hcell2⟩ : ∃ off', ga = .slice (some ⟨g, off', none⟩) X.length (c - off) ∧ ∀ j, j < X.length → wx.cell? ⟨g, off' + j, none⟩ = some (.int .u8 (X.getD j 0)) := by
      rw [hXl, ← hga]
      by_cases hco : c = off
      · refine ⟨0, ?_, fun j hj => by omega⟩
        unfold sliced
        rw [if_pos hco, show n - off = m by omega]
      · refine ⟨off, ?_, hcell⟩
        unfold sliced
        rw [if_neg hco, show n - off = m by omega]
        simp [Addr.add]
        omega
    rw [hga2]
    have := gs_any (c := c - off) X (off + k) hcell2 hlt (by omega) (by omega) (by omega) (by omega)
    rw [show ((off + k : Nat) : Int) = (off : Int) + k by push_cast; rfl] at this
    refine this.mono fun e w' hp => ?_
    obtain ⟨cap, ys, h1, h2, h3, h4, h5, h6, h7⟩ := hp
    exact ⟨cap, ys, by rw [h1, hXl], h2, h3, by rw [← hXl]; exact h4, by omega, h6, h7⟩
  have HBD := Lib.hid (show Below w.heap.size w w.drew.drew from ((Below.refl _ w).drew).drew)
  obtain ⟨c0, c1, c2, c3⟩ := hC
  have hw1 : IntKind.i64.wrap ((off : Int) + k) = (off : Int) + k := IntWalk.i64_in _ (by omega)
  clear hR hga
  have t1 : ((m : Int) == 0) = false := by simpa using hm0
  go_enter Tryd.func44, Tryd.ntmps44
  go_wp2_with fail
  refine HL.out.mono ?_; rintro e w1 ⟨rfl, rfl⟩
  go_wp2_with fail
  refine HT.out.mono ?_; rintro e w1 ⟨rfl, rfl⟩
  go_wp2_with fail
  refine wp_region_till (S := (fun wx => wx.cell? ⟨b, q, none⟩ = some (.slice (some ⟨g, 0, none⟩) n c) ∧ wx.cell? ⟨b, q + 1, none⟩ = some (.int .i64 off))) 19 (by kernel_rfl) ⟨c0, c1⟩ (fun hHeld => ?_)
  refine till_take (i := 0) (oi := { dst := some 76, op := Op.move (Operand.tmp 0), type := 70, pos := "buffer.go:169", after := #[], guard := none }) (v := ?_) rfl (by kernel_rfl) (by kernel_rfl) (by kernel_rfl) (fun _ _ _ h => h) (Or.inl ⟨by rfl, ?_⟩) (by assumption) ?_
  rotate_left 1
  · intro w hSw; (try dsimp only at hSw); go_simp; try (with_reducible rfl)
  try simp only [Act.put, List.setIfInBounds_toArray, List.set_cons_zero, List.set_cons_succ]
  refine till_take (i := 1) (oi := { dst := some 77, op := Op.move (Operand.tmp 0), type := 70, pos := "buffer.go:169", after := #[], guard := none }) (v := ?_) rfl (by kernel_rfl) (by kernel_rfl) (by kernel_rfl) (fun _ _ _ h => h) (Or.inl ⟨by rfl, ?_⟩) (by assumption) ?_
  rotate_left 1
  · intro w hSw; (try dsimp only at hSw); go_simp; try (with_reducible rfl)
  try simp only [Act.put, List.setIfInBounds_toArray, List.set_cons_zero, List.set_cons_succ]
  refine till_take (i := 2) (oi := { dst := some 78, op := Op.nilCheck (Operand.tmp 77), type := 0, pos := "buffer.go:169", after := #[{ on := 1, ground := Ground.data }], guard := none }) (v := ?_) rfl (by kernel_rfl) (by kernel_rfl) (by kernel_rfl) (fun _ _ _ h => h) (Or.inl ⟨by rfl, ?_⟩) (by assumption) ?_
  rotate_left 1
  · intro w hSw; (try dsimp only at hSw); go_simp; try (with_reducible rfl)
  try simp only [Act.put, List.setIfInBounds_toArray, List.set_cons_zero, List.set_cons_succ]
  refine till_take (i := 3) (oi := { dst := some 79, op := Op.fieldAddr 49 (Operand.tmp 78) 0, type := 0, pos := "buffer.go:169", after := #[{ on := 2, ground := Ground.data }], guard := none }) (v := ?_) rfl (by kernel_rfl) (by kernel_rfl) (by kernel_rfl) (fun _ _ _ h => h) (Or.inl ⟨by rfl, ?_⟩) (by assumption) ?_
  rotate_left 1
  · intro w hSw; (try dsimp only at hSw); go_simp; try (with_reducible rfl)
  try simp only [Act.put, List.setIfInBounds_toArray, List.set_cons_zero, List.set_cons_succ]
  refine till_take (i := 4) (oi := { dst := some 80, op := Op.load 22 (Operand.tmp 79), type := 22, pos := "buffer.go:169", after := #[{ on := 3, ground := Ground.data }], guard := none }) (v := ?_) rfl (by kernel_rfl) (by kernel_rfl) (by kernel_rfl) (fun _ _ _ h => h) (Or.inl ⟨by rfl, ?_⟩) (by assumption) ?_
  rotate_left 1
  · intro w hSw; (try dsimp only at hSw); go_simp; try (with_reducible rfl)
  try simp only [Act.put, List.setIfInBounds_toArray, List.set_cons_zero, List.set_cons_succ]
  refine till_take (i := 5) (oi := { dst := some 81, op := Op.move (Operand.tmp 0), type := 70, pos := "buffer.go:169", after := #[], guard := none }) (v := ?_) rfl (by kernel_rfl) (by kernel_rfl) (by kernel_rfl) (fun _ _ _ h => h) (Or.inl ⟨by rfl, ?_⟩) (by assumption) ?_
  rotate_left 1
  · intro w hSw; (try dsimp only at hSw); go_simp; try (with_reducible rfl)
  try simp only [Act.put, List.setIfInBounds_toArray, List.set_cons_zero, List.set_cons_succ]
  refine till_take (i := 6) (oi := { dst := some 82, op := Op.nilCheck (Operand.tmp 81), type := 0, pos := "buffer.go:169", after := #[{ on := 5, ground := Ground.data }], guard := none }) (v := ?_) rfl (by kernel_rfl) (by kernel_rfl) (by kernel_rfl) (fun _ _ _ h => h) (Or.inl ⟨by rfl, ?_⟩) (by assumption) ?_
  rotate_left 1
  · intro w hSw; (try dsimp only at hSw); go_simp; try (with_reducible rfl)
  try simp only [Act.put, List.setIfInBounds_toArray, List.set_cons_zero, List.set_cons_succ]
  refine till_take (i := 7) (oi := { dst := some 83, op := Op.fieldAddr 49 (Operand.tmp 82) 1, type := 0, pos := "buffer.go:169", after := #[{ on := 6, ground := Ground.data }], guard := none }) (v := ?_) rfl (by kernel_rfl) (by kernel_rfl) (by kernel_rfl) (fun _ _ _ h => h) (Or.inl ⟨by rfl, ?_⟩) (by assumption) ?_
  rotate_left 1
  · intro w hSw; (try dsimp only at hSw); go_simp; try (with_reducible rfl)
  try simp only [Act.put, List.setIfInBounds_toArray, List.set_cons_zero, List.set_cons_succ]
  refine till_take (i := 8) (oi := { dst := some 84, op := Op.load 3 (Operand.tmp 83), type := 3, pos := "buffer.go:169", after := #[{ on := 7, ground := Ground.data }], guard := none }) (v := ?_) rfl (by kernel_rfl) (by kernel_rfl) (by kernel_rfl) (fun _ _ _ h => h) (Or.inl ⟨by rfl, ?_⟩) (by assumption) ?_
  rotate_left 1
  · intro w hSw; (try dsimp only at hSw); go_simp; try (with_reducible rfl)
  try simp only [Act.put, List.setIfInBounds_toArray, List.set_cons_zero, List.set_cons_succ]
  refine till_take (i := 9) (oi := { dst := some 85, op := Op.slice 22 (Operand.tmp 80) (some (Operand.tmp 84)) none none, type := 22, pos := "buffer.go:169", after := #[{ on := 4, ground := Ground.data }, { on := 8, ground := Ground.data }], guard := none }) (v := ?_) rfl (by kernel_rfl) (by kernel_rfl) (by kernel_rfl) (fun _ _ _ h => h) (Or.inl ⟨by rfl, ?_⟩) (by assumption) ?_
  rotate_left 1
  · intro w hSw; (try dsimp only at hSw); go_simp; try (with_reducible rfl)
  try simp only [Act.put, List.setIfInBounds_toArray, List.set_cons_zero, List.set_cons_succ]
  refine till_take (i := 10) (oi := { dst := some 86, op := Op.move (Operand.tmp 0), type := 70, pos := "buffer.go:169", after := #[], guard := none }) (v := ?_) rfl (by kernel_rfl) (by kernel_rfl) (by kernel_rfl) (fun _ _ _ h => h) (Or.inl ⟨by rfl, ?_⟩) (by assumption) ?_
  rotate_left 1
  · intro w hSw; (try dsimp only at hSw); go_simp; try (with_reducible rfl)
  try simp only [Act.put, List.setIfInBounds_toArray, List.set_cons_zero, List.set_cons_succ]
  refine till_take (i := 11) (oi := { dst := some 87, op := Op.nilCheck (Operand.tmp 86), type := 0, pos := "buffer.go:169", after := #[{ on := 10, ground := Ground.data }], guard := none }) (v := ?_) rfl (by kernel_rfl) (by kernel_rfl) (by kernel_rfl) (fun _ _ _ h => h) (Or.inl ⟨by rfl, ?_⟩) (by assumption) ?_
  rotate_left 1
  · intro w hSw; (try dsimp only at hSw); go_simp; try (with_reducible rfl)
  try simp only [Act.put, List.setIfInBounds_toArray, List.set_cons_zero, List.set_cons_succ]
  refine till_take (i := 12) (oi := { dst := some 88, op := Op.fieldAddr 49 (Operand.tmp 87) 1, type := 0, pos := "buffer.go:169", after := #[{ on := 11, ground := Ground.data }], guard := none }) (v := ?_) rfl (by kernel_rfl) (by kernel_rfl) (by kernel_rfl) (fun _ _ _ h => h) (Or.inl ⟨by rfl, ?_⟩) (by assumption) ?_
  rotate_left 1
  · intro w hSw; (try dsimp only at hSw); go_simp; try (with_reducible rfl)
  try simp only [Act.put, List.setIfInBounds_toArray, List.set_cons_zero, List.set_cons_succ]
  refine till_take (i := 13) (oi := { dst := some 89, op := Op.load 3 (Operand.tmp 88), type := 3, pos := "buffer.go:169", after := #[{ on := 12, ground := Ground.data }], guard := none }) (v := ?_) rfl (by kernel_rfl) (by kernel_rfl) (by kernel_rfl) (fun _ _ _ h => h) (Or.inl ⟨by rfl, ?_⟩) (by assumption) ?_
  rotate_left 1
  · intro w hSw; (try dsimp only at hSw); go_simp; try (with_reducible rfl)
  try simp only [Act.put, List.setIfInBounds_toArray, List.set_cons_zero, List.set_cons_succ]
  refine till_take (i := 14) (oi := { dst := some 90, op := Op.move (Operand.tmp 1), type := 3, pos := "buffer.go:169", after := #[], guard := none }) (v := ?_) rfl (by kernel_rfl) (by kernel_rfl) (by kernel_rfl) (fun _ _ _ h => h) (Or.inl ⟨by rfl, ?_⟩) (by assumption) ?_
  rotate_left 1
  · intro w hSw; (try dsimp only at hSw); go_simp; try (with_reducible rfl)
  try simp only [Act.put, List.setIfInBounds_toArray, List.set_cons_zero, List.set_cons_succ]
  refine till_take (i := 15) (oi := { dst := some 91, op := Op.binOp BinOp.add 3 (Operand.tmp 89) (Operand.tmp 90) 3, type := 3, pos := "buffer.go:169", after := #[{ on := 13, ground := Ground.data }, { on := 14, ground := Ground.data }], guard := none }) (v := ?_) rfl (by kernel_rfl) (by kernel_rfl) (by kernel_rfl) (fun _ _ _ h => h) (Or.inl ⟨by rfl, ?_⟩) (by assumption) ?_
  rotate_left 1
  · intro w hSw; (try dsimp only at hSw); go_simp; try (with_reducible rfl)
  try simp only [Act.put, List.setIfInBounds_toArray, List.set_cons_zero, List.set_cons_succ]
  refine till_ready (rs := [16]) (by kernel_rfl) (by simp) ?_
  refine TillAll.cons (o := { dst := some 92, op := Op.call { callee := Callee.value (Operand.func 46), args := #[Operand.tmp 85, Operand.tmp 91], argTypes := #[22, 3] }, type := 22, pos := "buffer.go:169", after := #[{ on := 9, ground := Ground.data }, { on := 15, ground := Ground.data }], guard := none }) rfl (fun K hK => ?_) (TillAll.nil)
  go_simp
  refine (HGS.out _ HBD.out).mono ?_; rintro e w2 ⟨cap, ys, rfl, hy⟩
  have hy6 := hy.bel
  have HQ := Lib.hid (And.intro ((hy6.cell (p := ⟨b, q, none⟩) hbl).trans c0) ((hy6.cell (p := ⟨b, q + 1, none⟩) hbl).trans c1))
  have HY := Lib.hid hy
  have f2 := (hy6.frozen (p := ⟨b, q, none⟩) hbl).trans (c3 q).1
  have f3 := (hy6.frozen (p := ⟨b, q + 1, none⟩) hbl).trans (c3 (q + 1)).1
  clear hy hy6
  refine hK.out _ _ HQ.out (fun hHeld => ?_)
  clear hK K
  try simp only [Act.put, List.setIfInBounds_toArray, List.set_cons_zero, List.set_cons_succ]
  refine till_ready (rs := [17]) (by kernel_rfl) (by simp) ?_
  refine TillAll.cons (o := { dst := some 93, op := Op.nilCheck (Operand.tmp 76), type := 0, pos := "buffer.go:169", after := #[{ on := 0, ground := Ground.data }, { on := 0, ground := Ground.phase }, { on := 1, ground := Ground.phase }, { on := 2, ground := Ground.phase }, { on := 3, ground := Ground.phase }, { on := 4, ground := Ground.phase }, { on := 5, ground := Ground.phase }, { on := 6, ground := Ground.phase }, { on := 7, ground := Ground.phase }, { on := 8, ground := Ground.phase }, { on := 9, ground := Ground.phase }, { on := 10, ground := Ground.phase }, { on := 11, ground := Ground.phase }, { on := 12, ground := Ground.phase }, { on := 13, ground := Ground.phase }, { on := 14, ground := Ground.phase }, { on := 15, ground := Ground.phase }, { on := 16, ground := Ground.phase }], guard := none }) rfl (fun K hK => ?_) (TillAll.nil)
  go_simp
  refine hK.out _ _ HQ.out (fun hHeld => ?_)
  clear hK K
  try simp only [Act.put, List.setIfInBounds_toArray, List.set_cons_zero, List.set_cons_succ]
  refine till_take (i := 18) (oi := { dst := some 94, op := Op.fieldAddr 49 (Operand.tmp 93) 0, type := 0, pos := "buffer.go:169", after := #[{ on := 17, ground := Ground.data }, { on := 0, ground := Ground.phase }, { on := 1, ground := Ground.phase }, { on := 2, ground := Ground.phase }, { on := 3, ground := Ground.phase }, { on := 4, ground := Ground.phase }, { on := 5, ground := Ground.phase }, { on := 6, ground := Ground.phase }, { on := 7, ground := Ground.phase }, { on := 8, ground := Ground.phase }, { on := 9, ground := Ground.phase }, { on := 10, ground := Ground.phase }, { on := 11, ground := Ground.phase }, { on := 12, ground := Ground.phase }, { on := 13, ground := Ground.phase }, { on := 14, ground := Ground.phase }, { on := 15, ground := Ground.phase }, { on := 16, ground := Ground.phase }], guard := none }) (v := ?_) rfl (by kernel_rfl) (by kernel_rfl) (by kernel_rfl) (fun _ _ _ h => h) (Or.inl ⟨by rfl, ?_⟩) (by assumption) ?_
  rotate_left 1
  · intro w hSw; (try dsimp only at hSw); go_simp; try (with_reducible rfl)
  try simp only [Act.put, List.setIfInBounds_toArray, List.set_cons_zero, List.set_cons_succ]
  refine till_ready (rs := [19]) (by kernel_rfl) (by simp) ?_
  refine TillAll.last (o := { dst := none, op := Op.store 22 (Operand.tmp 94) (Operand.tmp 92), type := 0, pos := "buffer.go:169", after := #[{ on := 18, ground := Ground.data }, { on := 16, ground := Ground.data }, { on := 16, ground := Ground.chain }, { on := 0, ground := Ground.phase }, { on := 1, ground := Ground.phase }, { on := 2, ground := Ground.phase }, { on := 3, ground := Ground.phase }, { on := 4, ground := Ground.phase }, { on := 5, ground := Ground.phase }, { on := 6, ground := Ground.phase }, { on := 7, ground := Ground.phase }, { on := 8, ground := Ground.phase }, { on := 9, ground := Ground.phase }, { on := 10, ground := Ground.phase }, { on := 11, ground := Ground.phase }, { on := 12, ground := Ground.phase }, { on := 13, ground := Ground.phase }, { on := 14, ground := Ground.phase }, { on := 15, ground := Ground.phase }, { on := 16, ground := Ground.phase }], guard := none }) rfl (fun K hK => ?_) (TillAll.nil)
  go_simp
  refine hK.out _ _ trivial (fun hHeld => ?_)
  clear hK K
  try simp only [Act.put, List.setIfInBounds_toArray, List.set_cons_zero, List.set_cons_succ]
  refine till_done (by kernel_rfl) ?_ _
  clear hHeld
  obtain ⟨e0, e1⟩ := HQ.out
  have hroom := HY.out.room
  have hcm := HY.out.cap
  unfold maxLen at hcm
  go_wp2_with fail
  have hfin := GrPost.new (o := some g) (k := k) HC.out (HBD.out.trans (show Below w.heap.size w.drew.drew w2 from HY.out.bel)) HY.out.row HY.out.len HY.out.head (by omega) HY.out.cap w.heap.size rfl
  go_ret
  exact hfin
end Go.Proofs.YtlkafakanoefmaaDoor
