/-
  The document's own: the last record of a kind, records without one.
-/
import Derived.Test.YteegekpanadmkaaGreatV06
import Derived.Test.YteegekpanadmkaaGreatV10
import Derived.SizedLaws
import Derived.Test.YteegekpanadmkaaGreatV12
import Derived.Test.YteegekpanadmkaaGreatV07
import Derived.Test.YteegekpanadmkaaGreatV08
import Derived.Test.YteegekpanadmkaaGreatV09
namespace Go.Proofs.YteegekpanadmkaaGreat
open Go.RowKit Go.Shelf
set_option linter.unusedVariables false
set_option linter.unusedSimpArgs false
set_option maxRecDepth 100000
set_option maxHeartbeats 2000000 in
theorem rlast_any {w : World} {hi : Nat} {a : Option Addr} {c : Nat} {l : List Rc} (b : Bool) (h : SR w hi (.slice a l.length c) l) :
    Calls Tryz.prog 68 #[.slice a l.length c, .bool b] w (fun e w' => ∃ i : Int, e = .returned (.int .i64 i) ∧ w = w' ∧
      ((i = -1 ∧ ∀ x ∈ l, isO x = !b) ∨ ∃ (k : Nat) (x : Rc), l[k]? = some x ∧ i = (k : Int) ∧ isO x = b ∧ ∀ y ∈ l.drop (k + 1), isO y = !b)) := by
  have HX := Lib.hid h
  have HN := Lib.hid (Lst.len h)
  obtain ⟨n, hn⟩ : ∃ n, l.length = n := ⟨_, rfl⟩
  have HL := Lib.hid hn
  have hn2 : n ≤ 140737488351232 := by have := HN.out; omega
  rw [hn]
  have e1 : IntKind.i64.wrap ((n : Int) - 1) = (n : Int) - 1 := IntWalk.i64_in _ (by omega)
  clear h hn
  go_enter Tryz.func68, Tryz.ntmps68
  go_wp2_with fail
  go_loopg [5] n (fun g v5 wr => ∃ i : Int, i = (g : Int) - 1 ∧ v5 = .int .i64 i ∧ g ≤ n ∧ Hid (∀ x ∈ l.drop g, isO x = !b) ∧ w = wr)
  case atStart => exact ⟨(n : Int) - 1, by omega, rfl, Nat.le_refl _, Lib.hid (by rw [← HL.out, List.drop_length]; simp), rfl⟩
  case round =>
    obtain ⟨i, hig, rfl, hg, HD, rfl⟩ := hrel
    rcases gk with _ | g
    · have hi2 : i = -1 := by omega
      subst hi2
      clear hig e1
      go_wp2_with fail
      go_ret
      exact ⟨-1, rfl, rfl, .inl ⟨rfl, by have := HD.out; simpa using this⟩⟩
    · have hi2 : i = (g : Int) := by omega
      subst hi2
      have hlt : g < l.length := by rw [HL.out]; omega
      obtain ⟨bb, off, c2, he, hb, hc⟩ := HX.out.at_ g hlt
      injection he with he hn3 hc3
      clear hn3 hc3 hig
      subst he
      obtain ⟨c0, c1, c3, c4, c5⟩ := hc
      have HDR := Lib.hid (List.drop_eq_getElem_cons hlt)
      obtain ⟨x, hx⟩ : ∃ x, l[g] = x := ⟨_, rfl⟩
      rw [hx] at HDR c1
      have HXX := Lib.hid (show l[g]? = some x by rw [List.getElem?_eq_getElem hlt, hx])
      have e2 : IntKind.i64.wrap ((g : Int) - 1) = (g : Int) - 1 := IntWalk.i64_in _ (by omega)
      have e3 : (0 : Int) ≤ (g : Int) := by omega
      have e4 : (g : Int) < (n : Int) := by omega
      clear hx hlt e1 c0 c3 c4 c5 hb
      by_cases hp : x.t = 41
      · have ho : isO x = true := by unfold isO; simp [hp]
        have HO := Lib.hid ho
        rw [hp] at c1
        clear ho hp
        cases b
        · go_wp2_with fail
          go_roundg g
          case measure => omega
          case rel => exact ⟨(g : Int) - 1, rfl, rfl, by omega, Lib.hid (by rw [HDR.out]; intro y hy; rcases List.mem_cons.mp hy with rfl | hy; (exact HO.out); exact HD.out y hy), rfl⟩
        · go_wp2_with fail
          go_ret
          exact ⟨(g : Int), rfl, rfl, .inr ⟨g, x, HXX.out, rfl, HO.out, HD.out⟩⟩
      · have ho : isO x = false := by unfold isO; simp [hp]
        have HO := Lib.hid ho
        have t1 : (x.t == 41) = false := by simpa using hp
        clear ho
        cases b
        · go_wp2_with fail
          go_ret
          exact ⟨(g : Int), rfl, rfl, .inr ⟨g, x, HXX.out, rfl, HO.out, HD.out⟩⟩
        · go_wp2_with fail
          go_roundg g
          case measure => omega
          case rel => exact ⟨(g : Int) - 1, rfl, rfl, by omega, Lib.hid (by rw [HDR.out]; intro y hy; rcases List.mem_cons.mp hy with rfl | hy; (exact HO.out); exact HD.out y hy), rfl⟩
theorem acr_drop (l : List Rc) (k : Nat) (hk : k ≤ l.length) : acr (l.drop k) = (acr l).drop (k * 5) := by
  have e : acr l = acr (l.take k) ++ acr (l.drop k) := by rw [← acr_app, List.take_append_drop]
  have hl : (acr (l.take k)).length = k * 5 := by rw [acr_len, List.length_take]; congr 1; omega
  rw [e, List.drop_append_of_le_length (by omega), ← hl, List.drop_length, List.nil_append]
theorem cutlo_rc {w : World} {hi n c : Nat} {a : Option Addr} {l : List Rc} (h : SR w hi (.slice a n c) l) (hn : l.length = n) (k : Nat) (hk : k ≤ n) (hc : n ≤ c) :
    ∃ a', (∀ wx, (Instr.slice 23 (.slice a n c) (some (.int .i64 (k : Int))) none none).run Tryz.prog wx = .ok (.slice a' (n - k) (c - k)) wx) ∧ SR w hi (.slice a' (n - k) (c - k)) (l.drop k) := by
  refine ⟨if c = k then a else a.map (·.add (k * 5)), fun wx => ?_, ?_⟩
  · rw [run_slice_l (P := Tryz.prog) wx 23 a n c Tryz.underlying23 .i64 k (by omega) (by omega), size_rc]
    rfl
  · obtain ⟨a1, c1, he, h1, h0, hx⟩ := h
    injection he with he _ hc1
    subst he
    subst hc1
    refine ⟨_, _, by rw [List.length_drop, hn], by rw [List.length_drop]; omega, fun hne => ?_, fun hp => ?_⟩
    · by_cases e : c = k
      · rw [if_pos e] at hne
        have := h0 hne
        rw [List.length_drop]
        omega
      · rw [if_neg e] at hne
        have hne2 : a = none := by cases a with | none => rfl | some _ => simp at hne
        have := h0 hne2
        rw [List.length_drop]
        omega
    · rw [List.length_drop] at hp
      obtain ⟨b, off, rfl, hb, hcell⟩ := hx (by omega)
      refine ⟨b, off + k * 5, by rw [if_neg (by omega), Option.map_some, WideShapes.add_plain], hb, fun i u hu => ?_⟩
      rw [acr_drop l k (by omega), List.getElem?_drop] at hu
      have := hcell _ _ hu
      rwa [← Nat.add_assoc] at this
end Go.Proofs.YteegekpanadmkaaGreat
/-
  The document's own: records, but one.
-/
namespace Go.Proofs.YteegekpanadmkaaGreat
open Go.RowKit Go.Shelf
set_option linter.unusedVariables false
set_option linter.unusedSimpArgs false
set_option maxRecDepth 100000
set_option maxHeartbeats 2000000 in
theorem rwithout_any {w : World} {hi n c : Nat} {a : Option Addr} {l : List Rc} (h : SR w hi (.slice a n c) l) (h1 : hi ≤ w.heap.size) (hn : l.length = n) (hl : n ≤ 100000) (hc : n ≤ c) (k : Nat) (hk : k < n) :
    Calls Tryz.prog 69 #[.slice a n c, .int .i64 (k : Int)] w (fun e w' => ∃ v, e = .returned v ∧ OwnRc w' w.heap.size v (l.take k ++ l.drop (k + 1)) ∧ Below w.heap.size w w') := by
  obtain ⟨N, hN⟩ : ∃ N, w.heap.size = N := ⟨_, rfl⟩
  have cut1 := cut_rc a n k c (by omega)
  have h2 : SR w hi (.slice a k c) (l.take k) := by
    have e : acr l = acr (l.take k) ++ acr (l.drop k) := by rw [← acr_app, List.take_append_drop]
    unfold SR at h ⊢
    rw [e, hn] at h
    rw [List.length_take, show min k l.length = k by omega]
    exact Lst.part h (by omega)
  obtain ⟨a', hcl, h3⟩ := cutlo_rc h hn (k + 1) (by omega) hc
  have hcl2 : ∀ wx, (Instr.slice 23 (.slice a n c) (some (.int .i64 ((k : Int) + 1))) none none).run Tryz.prog wx = .ok (.slice a' (n - (k + 1)) (c - (k + 1))) wx := fun wx => by rw [show (k : Int) + 1 = ((k + 1 : Nat) : Int) by omega]; exact hcl wx
  have e1 : IntKind.i64.wrap ((k : Int) + 1) = (k : Int) + 1 := IntWalk.i64_in _ (by omega)
  obtain ⟨r, hr⟩ : ∃ r, n - (k + 1) = r := ⟨_, rfl⟩
  obtain ⟨cr', hcr⟩ : ∃ r, c - (k + 1) = r := ⟨_, rfl⟩
  rw [hr, hcr] at hcl2 h3
  have hlt : (l.take k).length = k := by rw [List.length_take]; omega
  have hld : (l.drop (k + 1)).length = r := by rw [List.length_drop]; omega
  obtain ⟨X, hX⟩ : ∃ X, l.take k = X := ⟨_, rfl⟩
  obtain ⟨Y, hY⟩ : ∃ Y, l.drop (k + 1) = Y := ⟨_, rfl⟩
  rw [hX] at h2 hlt ⊢
  rw [hY] at h3 hld ⊢
  have HH := Lib.hid (And.intro h2 (And.intro h3 (And.intro hlt (And.intro hld (And.intro h1 (And.intro hN (show k + r ≤ 100000 by omega)))))))
  clear h h1 h2 h3 hlt hld hX hY hr hcr hcl hn hl hc hk
  go_enter Tryz.func69, Tryz.ntmps69
  go_wp2_with fail
  refine wp_region_held_drew (S := (fun _ => True)) (by kernel_rfl) trivial (fun hHeld => ?_)
  refine wpAnyH_take (i := 1) (oi := ⟨some 6, .move (.tmp 0), 23, "ref.go:21", #[], none⟩) (v := ?_) rfl (by kernel_rfl) (by kernel_rfl) (by kernel_rfl) (fun _ _ _ h => h) (Or.inl ⟨by rfl, ?_⟩) (by assumption) ?_
  rotate_left 1
  · intro w hSw; (try dsimp only at hSw); go_simp; try (with_reducible rfl)
  try simp only [Act.put, List.setIfInBounds_toArray, List.set_cons_zero, List.set_cons_succ]
  refine wpAnyH_take (i := 2) (oi := ⟨some 7, .move (.tmp 1), 3, "ref.go:21", #[], none⟩) (v := ?_) rfl (by kernel_rfl) (by kernel_rfl) (by kernel_rfl) (fun _ _ _ h => h) (Or.inl ⟨by rfl, ?_⟩) (by assumption) ?_
  rotate_left 1
  · intro w hSw; (try dsimp only at hSw); go_simp; try (with_reducible rfl)
  try simp only [Act.put, List.setIfInBounds_toArray, List.set_cons_zero, List.set_cons_succ]
  refine wpAnyH_take (i := 3) (oi := ⟨some 8, .slice 23 (.tmp 6) none (some (.tmp 7)) none, 23, "ref.go:21", #[⟨1, .data⟩, ⟨2, .data⟩], none⟩) (v := ?_) rfl (by kernel_rfl) (by kernel_rfl) (by kernel_rfl) (fun _ _ _ h => h) (Or.inl ⟨by rfl, ?_⟩) (by assumption) ?_
  rotate_left 1
  · intro w hSw; (try dsimp only at hSw); go_simp; try (with_reducible rfl)
  try simp only [Act.put, List.setIfInBounds_toArray, List.set_cons_zero, List.set_cons_succ]
  refine wpAnyH_take (i := 5) (oi := ⟨some 10, .move (.tmp 0), 23, "ref.go:21", #[], none⟩) (v := ?_) rfl (by kernel_rfl) (by kernel_rfl) (by kernel_rfl) (fun _ _ _ h => h) (Or.inl ⟨by rfl, ?_⟩) (by assumption) ?_
  rotate_left 1
  · intro w hSw; (try dsimp only at hSw); go_simp; try (with_reducible rfl)
  try simp only [Act.put, List.setIfInBounds_toArray, List.set_cons_zero, List.set_cons_succ]
  refine wpAnyH_take (i := 6) (oi := ⟨some 11, .move (.tmp 1), 3, "ref.go:21", #[], none⟩) (v := ?_) rfl (by kernel_rfl) (by kernel_rfl) (by kernel_rfl) (fun _ _ _ h => h) (Or.inl ⟨by rfl, ?_⟩) (by assumption) ?_
  rotate_left 1
  · intro w hSw; (try dsimp only at hSw); go_simp; try (with_reducible rfl)
  try simp only [Act.put, List.setIfInBounds_toArray, List.set_cons_zero, List.set_cons_succ]
  refine wpAnyH_take (i := 7) (oi := ⟨some 12, .binOp .add 3 (.tmp 11) (.const (.int .i64 1)) 3, 3, "ref.go:21", #[⟨6, .data⟩], none⟩) (v := ?_) rfl (by kernel_rfl) (by kernel_rfl) (by kernel_rfl) (fun _ _ _ h => h) (Or.inl ⟨by rfl, ?_⟩) (by assumption) ?_
  rotate_left 1
  · intro w hSw; (try dsimp only at hSw); go_simp; try (with_reducible rfl)
  try simp only [Act.put, List.setIfInBounds_toArray, List.set_cons_zero, List.set_cons_succ]
  refine wpAnyH_take (i := 8) (oi := ⟨some 13, .slice 23 (.tmp 10) (some (.tmp 12)) none none, 23, "ref.go:21", #[⟨5, .data⟩, ⟨7, .data⟩], none⟩) (v := ?_) rfl (by kernel_rfl) (by kernel_rfl) (by kernel_rfl) (fun _ _ _ h => h) (Or.inl ⟨by rfl, ?_⟩) (by assumption) ?_
  rotate_left 1
  · intro w hSw; (try dsimp only at hSw); go_simp; try (with_reducible rfl)
  try simp only [Act.put, List.setIfInBounds_toArray, List.set_cons_zero, List.set_cons_succ]
  refine wpAnyH_ready (rs := [0]) (by kernel_rfl) (by simp) ?_
  refine AllReadyH.cons (o := ⟨some 5, .buildSlice 23 0 #[], 23, "ref.go:21", #[], none⟩) rfl (fun K hK => ?_) (AllReadyH.nil)
  go_simp
  obtain ⟨W3, hW3⟩ : ∃ X, (w.alloc (.cells #[] 52)).drew = X := ⟨_, rfl⟩
  have HB3 := Lib.hid (show Below N w W3 by rw [← hW3, ← hN]; exact ((Below.refl _ w).alloc (Nat.le_refl _) _).drew)
  have HO3 := Lib.hid (show OwnRc W3 N (.slice (some ⟨N, 0, none⟩) 0 0) [] by rw [← hW3, ← hN]; exact ⟨rfl, .inr ⟨w.heap.size, 0, #[], rfl, Nat.le_refl _, heap_alloc_new w _, Nat.le_refl _, by unfold maxLen; omega, rfl, rfl⟩⟩)
  have hs3 : N ≤ W3.heap.size := by rw [← hN]; exact Nat.le_trans (Nat.le_refl _) (by rw [hN]; have := HB3.out.size; omega)
  rw [hW3]
  clear hW3
  refine hK.out _ _ trivial (fun hHeld => ?_)
  clear hK K
  try simp only [Act.put, List.setIfInBounds_toArray, List.set_cons_zero, List.set_cons_succ]
  refine wpAnyH_ready (rs := [4]) (by kernel_rfl) (by simp) ?_
  refine AllReadyH.cons (o := ⟨some 9, .call { callee := .builtin .append, args := #[.tmp 5, .tmp 8], argTypes := #[23, 23] }, 23, "ref.go:21", #[⟨0, .data⟩, ⟨3, .data⟩], none⟩) rfl (fun K hK => ?_) (AllReadyH.nil)
  obtain ⟨a5, c5, w5, hr, ho, ha, _⟩ := run_appRc HO3.out (Lst.below HH.out.1 HB3.out (by have := HH.out; omega)) (by have := HH.out; rw [List.length_nil]; omega) hs3
  rw [HH.out.2.2.1, List.length_nil, Nat.zero_add] at hr ho
  rw [List.nil_append] at ho
  have HR := Lib.hid hr
  have hlo := World.ownsRow.lt HO3.out
  have HO5 := Lib.hid ho
  have HB5 := Lib.hid (below_aside HB3.out ha (fun k hk => ⟨by omega, fun he => by have := (hlo k he).1; omega⟩))
  have hs5 : N ≤ w5.heap.size := Nat.le_trans hs3 ha.size
  clear hr ho ha hlo
  refine oper_app_run (.tmp 5) (.tmp 8) 23 23 rfl rfl rfl rfl HR.out ?_
  refine hK.out _ _ trivial (fun hHeld => ?_)
  clear hK K
  try simp only [Act.put, List.setIfInBounds_toArray, List.set_cons_zero, List.set_cons_succ]
  refine wpAnyH_ready (rs := [9]) (by kernel_rfl) (by simp) ?_
  refine AllReadyH.cons (o := ⟨some 14, .call { callee := .builtin .append, args := #[.tmp 9, .tmp 13], argTypes := #[23, 23] }, 23, "ref.go:21", #[⟨4, .data⟩, ⟨8, .data⟩, ⟨4, .chain⟩], none⟩) rfl (fun K hK => ?_) (AllReadyH.nil)
  obtain ⟨a6, c6, w6, hr, ho, ha, _⟩ := run_appRc HO5.out (Lst.below HH.out.2.1 HB5.out (by have := HH.out; omega)) (by have := HH.out; omega) hs5
  rw [HH.out.2.2.1, HH.out.2.2.2.1] at hr ho
  have HR2 := Lib.hid hr
  have hlo := World.ownsRow.lt HO5.out
  have HO6 := Lib.hid ho
  have HB6 := Lib.hid (below_aside HB5.out ha (fun k hk => ⟨by omega, fun he => by have := (hlo k he).1; omega⟩))
  clear hr ho ha hlo
  refine oper_app_run (.tmp 9) (.tmp 13) 23 23 rfl rfl rfl rfl HR2.out ?_
  refine hK.out _ _ trivial (fun hHeld => ?_)
  clear hK K
  try simp only [Act.put, List.setIfInBounds_toArray, List.set_cons_zero, List.set_cons_succ]
  refine wpAnyH_take (i := 10) (oi := ⟨some 4, .assign (.tmp 14), 23, "ref.go:21", #[⟨9, .data⟩, ⟨9, .chain⟩, ⟨0, .phase⟩, ⟨1, .phase⟩, ⟨2, .phase⟩, ⟨3, .phase⟩, ⟨4, .phase⟩, ⟨5, .phase⟩, ⟨6, .phase⟩, ⟨7, .phase⟩, ⟨8, .phase⟩, ⟨9, .phase⟩], none⟩) (v := ?_) rfl (by kernel_rfl) (by kernel_rfl) (by kernel_rfl) (fun _ _ _ h => h) (Or.inl ⟨by rfl, ?_⟩) (by assumption) ?_
  rotate_left 1
  · intro w hSw; (try dsimp only at hSw); go_simp; try (with_reducible rfl)
  try simp only [Act.put, List.setIfInBounds_toArray, List.set_cons_zero, List.set_cons_succ]
  refine wpAnyH_done (by kernel_rfl) ?_ _
  clear hHeld
  go_wp2_with fail
  go_ret
  exact ⟨_, rfl, by have := HH.out.2.2.2.2.2.1; rw [this]; exact HO6.out, by have := HH.out.2.2.2.2.2.1; rw [this]; exact HB6.out⟩
end Go.Proofs.YteegekpanadmkaaGreat
/-
  Messages that came in.
-/
namespace Go.Proofs.YteegekpanadmkaaGreat
open Go.RowKit Go.Shelf
set_option linter.unusedVariables false
set_option linter.unusedSimpArgs false
set_option maxRecDepth 100000
theorem flat_of {α : Type} {f : α → List Value} {k : Nat} (hf : ∀ x, (f x).length = k) : ∀ (l : List α) (i : Nat) (u : Value), (l.flatMap f)[i]? = some u → ∃ j r, ∃ h : j < l.length, i = j * k + r ∧ (f l[j])[r]? = some u
  | [], i, u, h => by simp at h
  | x :: l, i, u, h => by
    rw [List.flatMap_cons] at h
    by_cases hi : i < k
    · rw [List.getElem?_append_left (by rw [hf]; exact hi)] at h
      exact ⟨0, i, by simp, by omega, h⟩
    · rw [List.getElem?_append_right (by rw [hf]; omega), hf] at h
      obtain ⟨j, r, h1, h2, h3⟩ := flat_of hf l _ u h
      exact ⟨j + 1, r, by simpa using h1, by rw [Nat.add_mul]; omega, h3⟩
def IsQs (w : World) (a : Option Addr) (len cap : Nat) : Prop :=
  (a = none ∧ len = 0 ∧ cap = 0) ∨ ∃ x, a = some x ∧ ∀ i, i < len → ∃ (s : ByteArray) (t c : Int), w.cell? (x.add (i * 3)) = some (.string s) ∧ w.cell? (x.add (i * 3 + 1)) = some (.int .i64 t) ∧ w.cell? (x.add (i * 3 + 2)) = some (.int .i64 c)
def IsRs (w : World) (a : Option Addr) (len cap : Nat) : Prop :=
  (a = none ∧ len = 0 ∧ cap = 0) ∨ ∃ x, a = some x ∧ ∀ i, i < len → ∃ (s : ByteArray) (t c l : Int) (d : ByteArray), w.cell? (x.add (i * 5)) = some (.string s) ∧ w.cell? (x.add (i * 5 + 1)) = some (.int .i64 t) ∧ w.cell? (x.add (i * 5 + 2)) = some (.int .i64 c) ∧ w.cell? (x.add (i * 5 + 3)) = some (.int .i64 l) ∧ w.cell? (x.add (i * 5 + 4)) = some (.string d)
theorem cells_qn : Tryz.prog.cellsOf 56 = 3 := by kernel_rfl
theorem cells_msg : Tryz.prog.cellsOf 25 = 6 := by kernel_rfl
theorem cells_sqn : Tryz.prog.cellsOf 22 = 1 := by kernel_rfl
theorem cells_src : Tryz.prog.cellsOf 23 = 1 := by kernel_rfl
theorem bytes_qn : Tryz.prog.bytesOf 56 = 32 := by kernel_rfl
theorem bytes_rc : Tryz.prog.bytesOf 52 = 56 := by kernel_rfl
theorem open_qn {H : Type} {enc : TypeId × Value → H} {w : World} {base fuel : Nat} {spare : Nat → Bool} {held : Bool} {cs : List Value} {x : DataW H × List MemPlace}
    (h : DataW.trod enc Tryz.prog w base spare held fuel 56 cs = some x) (hl : cs.length = 3) : ∃ (s : ByteArray) (t c : Int), cs = [.string s, .int .i64 t, .int .i64 c] := by
  cases fuel with
  | zero => simp [DataW.trod] at h
  | succ fuel =>
    obtain ⟨xs, k, _, _, _, h9, h10⟩ := DataW.trod_struct Tryz.underlying56 h
    match cs, hl with
    | [v0, v1, v2], _ =>
      have g0 := h10 0 _ rfl
      have g1 := h10 1 _ rfl
      have g2 := h10 2 _ rfl
      match xs, h9 with
      | [y0, y1, y2], _ =>
        simp [cellsC_str, cellsC_int] at g0 g1 g2
        obtain ⟨s, k0, _, _⟩ := DataW.trod_string Tryz.underlying9 g0
        obtain ⟨t, k1, _, _⟩ := DataW.trod_int Tryz.underlying3 g1
        obtain ⟨c, k2, _, _⟩ := DataW.trod_int Tryz.underlying3 g2
        injection k0 with k0 _
        injection k1 with k1 _
        injection k2 with k2 _
        subst k0; subst k1; subst k2
        exact ⟨s, t, c, rfl⟩
theorem open_qs {H : Type} {enc : TypeId × Value → H} {w : World} {base fuel : Nat} {spare : Nat → Bool} {held : Bool} {cs : List Value} {x : DataW H × List MemPlace}
    (h : DataW.trod enc Tryz.prog w base spare held fuel 22 cs = some x) (hw : ∀ n ∈ x.1.weights Tryz.prog 22, n ≤ reachBytes) :
    ∃ a len cap, cs = [.slice a len cap] ∧ IsQs w a len cap ∧ len ≤ 140737488351232 := by
  rcases Deep.open_slice Tryz.underlying22 h with ⟨h1, _⟩ | ⟨b, l, c, m, n, D, Pl, h1, _, h2, _, h3, h5, h4⟩
  · exact ⟨none, 0, 0, h1, .inl ⟨rfl, rfl, rfl⟩, by omega⟩
  · have hm : l ≤ m := by rw [h3]; split <;> omega
    refine ⟨some b, l, c, h1, .inr ⟨b, rfl, fun i hi => ?_⟩, ?_⟩
    · obtain ⟨cs', h6, h7⟩ := h4 i (by omega)
      rw [cells_qn] at h6
      obtain ⟨_, h8, h9⟩ := World.cells?_some h6
      obtain ⟨s, t, c, rfl⟩ := open_qn h7 h8
      have c0 := h9 0 (by omega)
      have c1 := h9 1 (by omega)
      have c2 := h9 2 (by omega)
      rw [Deep.add_add] at c0 c1 c2
      exact ⟨s, t, c, by simpa using c0, by simpa using c1, by simpa using c2⟩
    · have := hw ((l + (m - l)) * 32) (by rw [h5]; simp [DataW.weights, Tryz.underlying22, bytes_qn])
      unfold reachBytes at this
      omega
theorem open_rs {H : Type} {enc : TypeId × Value → H} {w : World} {base fuel : Nat} {spare : Nat → Bool} {held : Bool} {cs : List Value} {x : DataW H × List MemPlace}
    (h : DataW.trod enc Tryz.prog w base spare held fuel 23 cs = some x) (hw : ∀ n ∈ x.1.weights Tryz.prog 23, n ≤ reachBytes) :
    ∃ a len cap, cs = [.slice a len cap] ∧ IsRs w a len cap ∧ len ≤ 140737488351232 := by
  rcases Deep.open_slice Tryz.underlying23 h with ⟨h1, _⟩ | ⟨b, l, c, m, n, D, Pl, h1, _, h2, _, h3, h5, h4⟩
  · exact ⟨none, 0, 0, h1, .inl ⟨rfl, rfl, rfl⟩, by omega⟩
  · have hm : l ≤ m := by rw [h3]; split <;> omega
    refine ⟨some b, l, c, h1, .inr ⟨b, rfl, fun i hi => ?_⟩, ?_⟩
    · obtain ⟨cs', h6, h7⟩ := h4 i (by omega)
      rw [cells_rec] at h6
      obtain ⟨_, h8, h9⟩ := World.cells?_some h6
      obtain ⟨s, t, c, tl, d, rfl⟩ := open_rec h7 h8
      have c0 := h9 0 (by omega)
      have c1 := h9 1 (by omega)
      have c2 := h9 2 (by omega)
      have c3 := h9 3 (by omega)
      have c4 := h9 4 (by omega)
      rw [Deep.add_add] at c0 c1 c2 c3 c4
      exact ⟨s, t, c, tl, d, by simpa using c0, by simpa using c1, by simpa using c2, by simpa using c3, by simpa using c4⟩
    · have := hw ((l + (m - l)) * 56) (by rw [h5]; simp [DataW.weights, Tryz.underlying23, bytes_rc])
      unfold reachBytes at this
      omega
theorem qs_of {w : World} {a : Option Addr} {len cap : Nat} (h : IsQs w a len cap) (hl : len ≤ 140737488351232) : ∃ l : List Qn, SQ w w.heap.size (.slice a len cap) l := by
  rcases h with ⟨rfl, rfl, rfl⟩ | ⟨x, rfl, hx⟩
  · exact ⟨[], Lst.nil _ _⟩
  · have hch : ∀ n, n ≤ len → ∃ l : List Qn, l.length = n ∧ ∀ i (h : i < l.length), w.cell? (x.add (i * 3)) = some (.string (bs l[i].n)) ∧ w.cell? (x.add (i * 3 + 1)) = some (.int .i64 l[i].t) ∧ w.cell? (x.add (i * 3 + 2)) = some (.int .i64 l[i].c) := by
      intro n
      induction n with
      | zero => intro _; exact ⟨[], rfl, fun i h => by simp at h⟩
      | succ n ih =>
        intro hn
        obtain ⟨l, h1, h2⟩ := ih (by omega)
        obtain ⟨s, t, c, c0, c1, c2⟩ := hx n (by omega)
        refine ⟨l ++ [⟨s.data.toList, t, c⟩], by simp [h1], fun i hi => ?_⟩
        rw [List.length_append, List.length_singleton] at hi
        by_cases e : i < l.length
        · rw [List.getElem_append_left e]; exact h2 i e
        · have : i = l.length := by omega
          subst this
          rw [List.getElem_append_right (Nat.le_refl _)]
          simp only [Nat.sub_self, List.getElem_cons_zero]
          rw [h1, ← bs_eta]
          exact ⟨c0, c1, c2⟩
    obtain ⟨l, h1, h2⟩ := hch len (Nat.le_refl _)
    refine ⟨l, some x, cap, by rw [h1], by omega, fun h => by simp at h, fun h0 => ?_⟩
    obtain ⟨b, off, spot⟩ := x
    have c0 := (h2 0 h0).1
    have hspot : spot = none := by simpa [Addr.add] using World.cell?_spot c0
    subst hspot
    have hlt : b < w.heap.size := by
      rw [WideShapes.add_plain] at c0
      exact World.block_lt_of_cell? w _ c0
    refine ⟨b, off, rfl, hlt, fun i u hu => ?_⟩
    obtain ⟨j, r, hj, rfl, hr⟩ := flat_of (f := cq) (k := 3) (fun _ => rfl) l i u hu
    obtain ⟨c0, c1, c2⟩ := h2 j hj
    rw [WideShapes.add_plain] at c0 c1 c2
    match r, hr with
    | 0, hr => simp [cq] at hr; subst hr; exact c0
    | 1, hr => simp [cq] at hr; subst hr; exact c1
    | 2, hr => simp [cq] at hr; subst hr; exact c2
    | r + 3, hr => simp [cq] at hr
theorem rs_of {w : World} {a : Option Addr} {len cap : Nat} (h : IsRs w a len cap) (hl : len ≤ 140737488351232) : ∃ l : List Rc, SR w w.heap.size (.slice a len cap) l := by
  rcases h with ⟨rfl, rfl, rfl⟩ | ⟨x, rfl, hx⟩
  · exact ⟨[], Lst.nil _ _⟩
  · have hch : ∀ n, n ≤ len → ∃ l : List Rc, l.length = n ∧ ∀ i (h : i < l.length), w.cell? (x.add (i * 5)) = some (.string (bs l[i].n)) ∧ w.cell? (x.add (i * 5 + 1)) = some (.int .i64 l[i].t) ∧ w.cell? (x.add (i * 5 + 2)) = some (.int .i64 l[i].c) ∧ w.cell? (x.add (i * 5 + 3)) = some (.int .i64 l[i].l) ∧ w.cell? (x.add (i * 5 + 4)) = some (.string (bs l[i].d)) := by
      intro n
      induction n with
      | zero => intro _; exact ⟨[], rfl, fun i h => by simp at h⟩
      | succ n ih =>
        intro hn
        obtain ⟨l, h1, h2⟩ := ih (by omega)
        obtain ⟨s, t, c, tl, d, c0, c1, c2, c3, c4⟩ := hx n (by omega)
        refine ⟨l ++ [⟨s.data.toList, t, c, tl, d.data.toList⟩], by simp [h1], fun i hi => ?_⟩
        rw [List.length_append, List.length_singleton] at hi
        by_cases e : i < l.length
        · rw [List.getElem_append_left e]; exact h2 i e
        · have : i = l.length := by omega
          subst this
          rw [List.getElem_append_right (Nat.le_refl _)]
          simp only [Nat.sub_self, List.getElem_cons_zero]
          rw [h1, ← bs_eta, ← bs_eta]
          exact ⟨c0, c1, c2, c3, c4⟩
    obtain ⟨l, h1, h2⟩ := hch len (Nat.le_refl _)
    refine ⟨l, some x, cap, by rw [h1], by omega, fun h => by simp at h, fun h0 => ?_⟩
    obtain ⟨b, off, spot⟩ := x
    have c0 := (h2 0 h0).1
    have hspot : spot = none := by simpa [Addr.add] using World.cell?_spot c0
    subst hspot
    have hlt : b < w.heap.size := by
      rw [WideShapes.add_plain] at c0
      exact World.block_lt_of_cell? w _ c0
    refine ⟨b, off, rfl, hlt, fun i u hu => ?_⟩
    obtain ⟨j, r, hj, rfl, hr⟩ := flat_of (f := cr) (k := 5) (fun _ => rfl) l i u hu
    obtain ⟨c0, c1, c2, c3, c4⟩ := h2 j hj
    rw [WideShapes.add_plain] at c0 c1 c2 c3 c4
    match r, hr with
    | 0, hr => simp [cr] at hr; subst hr; exact c0
    | 1, hr => simp [cr] at hr; subst hr; exact c1
    | 2, hr => simp [cr] at hr; subst hr; exact c2
    | 3, hr => simp [cr] at hr; subst hr; exact c3
    | 4, hr => simp [cr] at hr; subst hr; exact c4
    | r + 5, hr => simp [cr] at hr
theorem open_msg {H : Type} {enc : TypeId × Value → H} {w : World} {base fuel : Nat} {spare : Nat → Bool} {held : Bool} {cs : Array Value} {x : DataW H × List MemPlace}
    (h : DataW.trod enc Tryz.prog w base spare held fuel 25 cs.toList = some x) (hl : cs.size = 6) (hw : ∀ n ∈ x.1.weights Tryz.prog 25, n ≤ reachBytes) : ∃ m : Ms, Mg w w.heap.size (.agg cs) m := by
  obtain ⟨cs⟩ := cs
  simp only [List.size_toArray] at hl
  cases fuel with
  | zero => simp [DataW.trod] at h
  | succ fuel =>
    obtain ⟨xs, k, _, h8, _, h9, h10⟩ := DataW.trod_struct Tryz.underlying25 h
    match cs, hl with
    | [v0, v1, v2, v3, v4, v5], _ =>
      have g0 := h10 0 _ rfl
      have g1 := h10 1 _ rfl
      have g2 := h10 2 _ rfl
      have g3 := h10 3 _ rfl
      have g4 := h10 4 _ rfl
      have g5 := h10 5 _ rfl
      match xs, h9 with
      | [y0, y1, y2, y3, y4, y5], _ =>
        simp [cellsC_int, cells_sqn, cells_src] at g0 g1 g2 g3 g4 g5
        have hw2 : ∀ n, (n ∈ y2.1.weights Tryz.prog 22 ∨ n ∈ y3.1.weights Tryz.prog 23 ∨ n ∈ y4.1.weights Tryz.prog 23 ∨ n ∈ y5.1.weights Tryz.prog 23) → n ≤ reachBytes := fun n hn => hw n (by
          rw [h8]
          simp only [List.map_cons, List.map_nil, DataW.weights, Tryz.underlying25, List.toList_toArray, DataW.weightsEach, List.mem_append, List.not_mem_nil, or_false]
          rcases hn with h | h | h | h <;> simp [h])
        obtain ⟨i, k0, _, _⟩ := DataW.trod_int Tryz.underlying3 g0
        obtain ⟨f, k1, _, _⟩ := DataW.trod_int Tryz.underlying3 g1
        obtain ⟨qa, ql, qc, k2, q1, q2⟩ := open_qs g2 (fun n hn => hw2 n (.inl hn))
        obtain ⟨aa, al, ac, k3, a1, a2⟩ := open_rs g3 (fun n hn => hw2 n (.inr (.inl hn)))
        obtain ⟨na, nl, nc, k4, n1, n2⟩ := open_rs g4 (fun n hn => hw2 n (.inr (.inr (.inl hn))))
        obtain ⟨ra, rl, rc, k5, r1, r2⟩ := open_rs g5 (fun n hn => hw2 n (.inr (.inr (.inr hn))))
        injection k0 with k0 _
        injection k1 with k1 _
        injection k2 with k2 _
        injection k3 with k3 _
        injection k4 with k4 _
        injection k5 with k5 _
        subst k0; subst k1; subst k2; subst k3; subst k4; subst k5
        obtain ⟨lq, h1⟩ := qs_of q1 q2
        obtain ⟨la, h2⟩ := rs_of a1 a2
        obtain ⟨ln, h3⟩ := rs_of n1 n2
        obtain ⟨lr, h4⟩ := rs_of r1 r2
        exact ⟨⟨i, f, lq, la, ln, lr⟩, _, _, _, _, rfl, h1, h2, h3, h4⟩
end Go.Proofs.YteegekpanadmkaaGreat
/-
  Whether records are the first ones of others; a message that came in, and the room of its lists.
-/
namespace Go.Proofs.YteegekpanadmkaaGreat
open Go.RowKit Go.Shelf
set_option linter.unusedVariables false
set_option linter.unusedSimpArgs false
set_option maxRecDepth 100000
def CapM (v : Value) : Prop := ∃ i f qa qn qc aa an ac na nn nc ra rn rc, v = .agg #[i, f, .slice qa qn qc, .slice aa an ac, .slice na nn nc, .slice ra rn rc] ∧ qn ≤ qc ∧ an ≤ ac ∧ nn ≤ nc ∧ rn ≤ rc
theorem open_msgk {H : Type} {enc : TypeId × Value → H} {w : World} {base fuel : Nat} {spare : Nat → Bool} {held : Bool} {cs : Array Value} {x : DataW H × List MemPlace}
    (h : DataW.trod enc Tryz.prog w base spare held fuel 25 cs.toList = some x) (hl : cs.size = 6) (hw : ∀ n ∈ x.1.weights Tryz.prog 25, n ≤ reachBytes) : ∃ m : Ms, Mg w w.heap.size (.agg cs) m ∧ CapM (.agg cs) := by
  obtain ⟨m, hm⟩ := open_msg h hl hw
  refine ⟨m, hm, ?_⟩
  obtain ⟨cs⟩ := cs
  simp only [List.size_toArray] at hl
  cases fuel with
  | zero => simp [DataW.trod] at h
  | succ fuel =>
    obtain ⟨xs, k, _, h8, _, h9, h10⟩ := DataW.trod_struct Tryz.underlying25 h
    match cs, hl with
    | [v0, v1, v2, v3, v4, v5], _ =>
      have g2 := h10 2 _ rfl
      have g3 := h10 3 _ rfl
      have g4 := h10 4 _ rfl
      have g5 := h10 5 _ rfl
      match xs, h9 with
      | [y0, y1, y2, y3, y4, y5], _ =>
        simp [cells_src] at g2 g3 g4 g5
        have room : ∀ {u : Value} {e : Nat} {sp : Nat → Bool} {hd : Bool} {fl : Nat} {y : DataW H × List MemPlace}, (DataW.trod enc Tryz.prog w base sp hd fl 23 [u] = some y) → ∃ a n c, u = .slice a n c ∧ n ≤ c := fun g => by
          rcases Deep.open_slice Tryz.underlying23 g with ⟨h1, _⟩ | ⟨b, l, c, m, n, D, Pl, h1, _, h2, _⟩
          · injection h1 with h1 _
            exact ⟨none, 0, 0, h1, Nat.le_refl _⟩
          · injection h1 with h1 _
            exact ⟨some b, l, c, h1, h2⟩
        have roomq : ∀ {u : Value} {e : Nat} {sp : Nat → Bool} {hd : Bool} {fl : Nat} {y : DataW H × List MemPlace}, (DataW.trod enc Tryz.prog w base sp hd fl 22 [u] = some y) → ∃ a n c, u = .slice a n c ∧ n ≤ c := fun g => by
          rcases Deep.open_slice Tryz.underlying22 g with ⟨h1, _⟩ | ⟨b, l, c, m, n, D, Pl, h1, _, h2, _⟩
          · injection h1 with h1 _
            exact ⟨none, 0, 0, h1, Nat.le_refl _⟩
          · injection h1 with h1 _
            exact ⟨some b, l, c, h1, h2⟩
        obtain ⟨qa, qn, qc, rfl, hq⟩ := roomq (e := 0) g2
        obtain ⟨aa, an, ac, rfl, ha⟩ := room (e := 0) g3
        obtain ⟨na, nn, nc, rfl, hn⟩ := room (e := 0) g4
        obtain ⟨ra, rn, rc, rfl, hr⟩ := room (e := 0) g5
        exact ⟨_, _, _, _, _, _, _, _, _, _, _, _, _, _, rfl, hq, ha, hn, hr⟩
end Go.Proofs.YteegekpanadmkaaGreat
/-
  The document's own: a message with one entry less.
-/
namespace Go.Proofs.YteegekpanadmkaaGreat
open Go.RowKit Go.Shelf
set_option linter.unusedVariables false
set_option linter.unusedSimpArgs false
set_option maxRecDepth 100000
structure Lq (w wr : World) (N : Nat) (xs : List Value) : Prop where
  bel : Below N w wr
  x : Cel wr N xs
  z : Cel wr (N + 1) [.int .i64 0, .int .i64 0, .slice none 0 0, .slice none 0 0, .slice none 0 0, .slice none 0 0]
  size : N + 2 ≤ wr.heap.size
section
variable {w wr w' : World} {N : Nat} {xs : List Value}
theorem Lq.later (h : Lq w wr N xs) (h0 : 0 < xs.length) (hb : Below wr.heap.size wr w') : Lq w w' N xs :=
  ⟨h.bel.trans (hb.mono (by have := h.size; omega)), h.x.below h0 hb, h.z.below (by simp) hb, Nat.le_trans h.size hb.size⟩
theorem Lq.put (h : Lq w wr N xs) {o : Nat} (ho : o < xs.length) (v : Value) : Lq w (wr.setCell ⟨N, o, none⟩ v) N (xs.set o v) :=
  ⟨below_aside h.bel (Aside.setCell wr (p := ⟨N, o, none⟩) v rfl : Aside (fun k => k = N) _ _) (fun k hk => ⟨by have := h.size; omega, by omega⟩), h.x.set ho v, h.z.other (a := ⟨N, o, none⟩) (by show N ≠ N + 1; omega) v, by have := h.size; simpa [World.setCell] using this⟩
theorem Lq.fin (h : Lq w wr N xs) (v0 v1 v2 v3 v4 v5 : Value) : Below N w (put6 wr (N + 1) v0 v1 v2 v3 v4 v5) ∧ Cel (put6 wr (N + 1) v0 v1 v2 v3 v4 v5) (N + 1) [v0, v1, v2, v3, v4, v5] ∧ Aside (fun k => k = N + 1) wr (put6 wr (N + 1) v0 v1 v2 v3 v4 v5) :=
  ⟨below_aside h.bel (aside_put6 wr (N + 1) v0 v1 v2 v3 v4 v5) (fun k hk => ⟨by have := h.size; omega, by omega⟩), cel_put6 h.z _ _ _ _ _ _, aside_put6 wr (N + 1) v0 v1 v2 v3 v4 v5⟩
end
def LessPost (w : World) (u : Value) (m : Ms) (e : Ending) (w' : World) : Prop := ∃ v, e = .returned (.tuple #[v, .bool (lessM m).2]) ∧ (∀ (G : Nat → Prop) W', Aside G w' W' → (∀ k, w.heap.size ≤ k → ¬ G k) → Mg W' W'.heap.size u m → Mg W' W'.heap.size v (lessM m).1) ∧ CapM v ∧ Below w.heap.size w w'
set_option maxHeartbeats 16000000 in
theorem rLess_any {w : World} {hi : Nat} {u : Value} {m : Ms} (h : Mg w hi u m) (h1 : hi ≤ w.heap.size) (hn : totM m ≤ 1100) (h0 : 0 < totM m) (hcap : CapM u) : Calls Tryz.prog 38 #[u] w (LessPost w u m) := by
  obtain ⟨q, a, n, r, rfl, hq, ha, hn2, hr⟩ := h
  obtain ⟨qa, qc, rfl⟩ := Lst.shape hq
  obtain ⟨aa, ac, rfl⟩ := Lst.shape ha
  obtain ⟨na, nc, rfl⟩ := Lst.shape hn2
  obtain ⟨ra, rc, rfl⟩ := Lst.shape hr
  have hcc : m.q.length ≤ qc ∧ m.an.length ≤ ac ∧ m.ns.length ≤ nc ∧ m.ar.length ≤ rc := by
    obtain ⟨_, _, _, _, _, _, _, _, _, _, _, _, _, _, he, h1, h2, h3, h4⟩ := hcap
    injection he with he
    simp only [Array.mk.injEq, List.cons.injEq, and_true] at he
    obtain ⟨_, _, e3, e4, e5, e6⟩ := he
    injection e3 with _ e31 e32
    injection e4 with _ e41 e42
    injection e5 with _ e51 e52
    injection e6 with _ e61 e62
    omega
  obtain ⟨i0, hi0⟩ : ∃ i, m.id = i := ⟨_, rfl⟩
  obtain ⟨f0, hf0⟩ : ∃ i, m.fl = i := ⟨_, rfl⟩
  obtain ⟨lq, hlq⟩ : ∃ i, m.q.length = i := ⟨_, rfl⟩
  obtain ⟨la, hla⟩ : ∃ i, m.an.length = i := ⟨_, rfl⟩
  obtain ⟨ln, hln⟩ : ∃ i, m.ns.length = i := ⟨_, rfl⟩
  obtain ⟨lr, hlr⟩ : ∃ i, m.ar.length = i := ⟨_, rfl⟩
  unfold totM at hn h0
  rw [hlq, hla, hln, hlr] at hn h0 hcc
  rw [hi0, hf0, hlq, hla, hln, hlr]
  unfold SQ at hq
  unfold SR at ha hn2 hr
  rw [hlq] at hq
  rw [hla] at ha
  rw [hln] at hn2
  rw [hlr] at hr
  obtain ⟨N, hN⟩ : ∃ N, w.heap.size = N := ⟨_, rfl⟩
  obtain ⟨Wa, hWa⟩ : ∃ X, w.alloc (.cells #[.int .i64 i0, .int .i64 f0, .slice qa lq qc, .slice aa la ac, .slice na ln nc, .slice ra lr rc] 25) = X := ⟨_, rfl⟩
  obtain ⟨W1, hW1⟩ : ∃ X, Wa.alloc (.cells #[.int .i64 0, .int .i64 0, .slice none 0 0, .slice none 0 0, .slice none 0 0, .slice none 0 0] 25) = X := ⟨_, rfl⟩
  have hba : Below w.heap.size w Wa := by rw [← hWa]; exact (Below.refl _ _).alloc (Nat.le_refl _) _
  have hsa : Wa.heap.size = N + 1 := by rw [← hWa, World.size_alloc, hN]
  have hb1 : Below Wa.heap.size Wa W1 := by rw [← hW1]; exact (Below.refl _ _).alloc (Nat.le_refl _) _
  have hs1 : W1.heap.size = N + 2 := by rw [← hW1, World.size_alloc, hsa]
  have hbel : Below N w W1 := by rw [← hN]; exact hba.trans (hb1.mono (by omega))
  have hx : Cel W1 N [.int .i64 i0, .int .i64 f0, .slice qa lq qc, .slice aa la ac, .slice na ln nc, .slice ra lr rc] := by
    have := cel_new6 w (.int .i64 i0) (.int .i64 f0) (.slice qa lq qc) (.slice aa la ac) (.slice na ln nc) (.slice ra lr rc) 25
    rw [hN, hWa] at this
    exact this.below (by simp) hb1
  have hz : Cel W1 (N + 1) [.int .i64 0, .int .i64 0, .slice none 0 0, .slice none 0 0, .slice none 0 0, .slice none 0 0] := by
    have := cel_new6 Wa (.int .i64 0) (.int .i64 0) (.slice none 0 0) (.slice none 0 0) (.slice none 0 0) (.slice none 0 0) 25
    rwa [hsa, hW1] at this
  have HP := Lib.hid (show Lq w W1 N _ from ⟨hbel, hx, hz, by omega⟩)
  have HC := Lib.hid hcc
  have HV := Lib.hid (And.intro hi0 (And.intro hf0 (And.intro hlq (And.intro hla (And.intro hln (And.intro hlr (And.intro hN (And.intro hs1 h1))))))))
  have HLS := Lib.hid (And.intro hq (And.intro ha (And.intro hn2 hr)))
  have HTT := Lib.hid (And.intro hn h0)
  have HLA := Lib.hid (fun b => rlast_any (l := m.ar) b (show SR W1 N (.slice ra m.ar.length rc) m.ar by unfold SR; rw [hlr]; exact Lst.wide (Lst.below hr (hbel.mono (by omega)) (by omega : hi ≤ N)) (by omega)))
  rw [hlr] at HLA
  obtain ⟨x0, x1, x2, x3, x4, x5⟩ := hx.six
  have hfx := hx.fz
  obtain ⟨z0, z1, z2, z3, z4, z5⟩ := hz.six
  have hfz := hz.fz
  clear hq ha hn2 hr hcap hcc hi0 hf0 hlq hla hln hlr hba hb1 hs1 hbel hx hz h1 hn h0
  go_enter Tryz.func38, Tryz.ntmps38
  go_wp2_with fail
  clear hWa hW1 hsa hN
  refine (HLA.out false).mono ?_; rintro e w2 ⟨i, rfl, rfl, hi⟩
  rcases hi with ⟨rfl, hall⟩ | ⟨k, xx, hkx, rfl, hkx3, hkd⟩
  · have HA0 := Lib.hid (show nA m = 0 from List.countP_eq_zero.mpr fun x hx => by unfold nO; rw [hall x hx]; simp)
    clear hall
    by_cases hln0 : 0 < ln
    · have ht1 : decide ((0 : Int) < (ln : Int)) = true := by simp; omega
      have ht1b : (0 : Int) < (ln : Int) := by omega
      obtain ⟨l1, hl1⟩ : ∃ x, ln - 1 = x := ⟨_, rfl⟩
      have hl1b : l1 + 1 = ln := by omega
      have hw2 : (ln : Int) - 1 = (l1 : Int) := by omega
      have hw1 : wrap64 (l1 : Int) = (l1 : Int) := by have := HTT.out; exact IntWalk.wrap64_in _ ⟨by omega, by omega⟩
      have hlop : m.ns.take l1 ++ m.ns.drop (l1 + 1) = m.ns.take l1 := by rw [hl1b, List.drop_of_length_le (by rw [HV.out.2.2.2.2.1]; omega), List.append_nil]
      have hlen : (m.ns.take l1).length = l1 := by rw [List.length_take, HV.out.2.2.2.2.1]; omega
      have HL1 := Lib.hid (And.intro hl1 hl1b)
      clear hl1
      have HWO := Lib.hid (rwithout_any (w := W1) (hi := N) (l := m.ns) (show SR W1 N (.slice na ln nc) m.ns by have := HV.out.2.2.2.2.2.2; unfold SR; rw [HV.out.2.2.2.2.1]; exact Lst.wide (Lst.below HLS.out.2.2.1 (HP.out.bel.mono (by omega)) (by omega : hi ≤ N)) (by omega)) (by have := HV.out.2.2.2.2.2.2.2.1; omega) HV.out.2.2.2.2.1 (by have := HTT.out; omega) HC.out.2.2.1 l1 (by omega))
      rw [hlop] at HWO
      have HLEN := Lib.hid hlen
      clear hlop hlen
      go_wp2_with fail
      refine HWO.out.mono ?_; rintro e w3 ⟨v3, rfl, ho, hb⟩
      obtain ⟨a3, c3, rfl⟩ := row_shape ho
      rw [HLEN.out]
      have HP3 := Lib.hid (HP.out.later (by simp) hb)
      have HO3 := Lib.hid ho
      clear x0 x1 x2 x3 x4 x5 hfx z0 z1 z2 z3 z4 z5 hfz hb ho HWO
      obtain ⟨x0, x1, x2, x3, x4, x5⟩ := HP3.out.x.six
      have hfx := HP3.out.x.fz
      obtain ⟨z0, z1, z2, z3, z4, z5⟩ := HP3.out.z.six
      have hfz := HP3.out.z.fz
      have HP4 := Lib.hid (HP3.out.put (o := 4) (by simp) (.slice a3 l1 c3))
      obtain ⟨hbF, hcF, haF⟩ := HP4.out.fin (.int .i64 i0) (.int .i64 f0) (.slice qa lq qc) (.slice aa la ac) (.slice a3 l1 c3) (.slice ra lr rc)
      have hnew0 := row_aside (row_aside HO3.out (Aside.setCell w3 (p := ⟨N, 4, none⟩) (.slice a3 l1 c3) rfl : Aside (fun k => k = N) _ _) (fun k hk => by have := (World.ownsRow.lt HO3.out k hk).1; have := HV.out.2.2.2.2.2.2.2.1; omega)) haF (fun k hk => by have := (World.ownsRow.lt HO3.out k hk).1; have := HV.out.2.2.2.2.2.2.2.1; omega)
      have hcp : l1 ≤ c3 := by have := row_cap HO3.out; rw [HLEN.out] at this; exact this
      have hle := HLEN.out
      go_wp2_with fail
      obtain ⟨m0, m1, m2, m3, m4, m5⟩ := hcF.six
      unfold put6 at hbF hnew0 m0 m1 m2 m3 m4 m5
      refine bodyPost_ret (v := .tuple #[.agg #[.int .i64 i0, .int .i64 f0, .slice qa lq qc, .slice aa la ac, .slice a3 l1 c3, .slice ra lr rc], .bool true]) (by simp [results, Tryz.results38, go_sem, m0, m1, m2, m3, m4, m5]) rfl ?_
      have e : lessM m = ({ m with ns := m.ns.take l1 }, true) := by unfold lessM; rw [if_neg (by rw [HA0.out]; omega), if_pos (by rw [HV.out.2.2.2.2.1]; exact hln0), HV.out.2.2.2.2.1, HL1.out.1]
      unfold LessPost
      rw [e]
      refine ⟨_, rfl, fun G W' haG hG hmu => ?_, ⟨_, _, _, _, _, _, _, _, _, _, _, _, _, _, rfl, HC.out.1, HC.out.2.1, hcp, HC.out.2.2.2⟩, by rw [HV.out.2.2.2.2.2.2.1]; exact hbF⟩
      obtain ⟨q', a', n', r', he, gq, ga, gn, gr⟩ := hmu
      injection he with he
      simp only [Array.mk.injEq, List.cons.injEq, and_true] at he
      obtain ⟨_, _, rfl, rfl, rfl, rfl⟩ := he
      have hnw := Lst.own (row_aside hnew0 haG (fun k hk => hG k (by have := (World.ownsRow.lt hnew0 k hk).1; have := HV.out.2.2.2.2.2.2; omega))) (by rw [hle]; have := HTT.out; have := HL1.out; omega)
      exact ⟨_, _, _, _, by first | rw [HV.out.1, HV.out.2.1, hle] | rw [HV.out.1, HV.out.2.1], gq, ga, hnw, gr⟩
    · have ht1 : decide ((0 : Int) < (ln : Int)) = false := by simp; omega
      have ht1b : ¬ ((0 : Int) < (ln : Int)) := by omega
      by_cases hla0 : 0 < la
      · have ht2 : decide ((0 : Int) < (la : Int)) = true := by simp; omega
        have ht2b : (0 : Int) < (la : Int) := by omega
        obtain ⟨l1, hl1⟩ : ∃ x, la - 1 = x := ⟨_, rfl⟩
        have hl1b : l1 + 1 = la := by omega
        have hw2 : (la : Int) - 1 = (l1 : Int) := by omega
        have hw1 : wrap64 (l1 : Int) = (l1 : Int) := by have := HTT.out; exact IntWalk.wrap64_in _ ⟨by omega, by omega⟩
        have hlop : m.an.take l1 ++ m.an.drop (l1 + 1) = m.an.take l1 := by rw [hl1b, List.drop_of_length_le (by rw [HV.out.2.2.2.1]; omega), List.append_nil]
        have hlen : (m.an.take l1).length = l1 := by rw [List.length_take, HV.out.2.2.2.1]; omega
        have HL1 := Lib.hid (And.intro hl1 hl1b)
        clear hl1
        have HWO := Lib.hid (rwithout_any (w := W1) (hi := N) (l := m.an) (show SR W1 N (.slice aa la ac) m.an by have := HV.out.2.2.2.2.2.2; unfold SR; rw [HV.out.2.2.2.1]; exact Lst.wide (Lst.below HLS.out.2.1 (HP.out.bel.mono (by omega)) (by omega : hi ≤ N)) (by omega)) (by have := HV.out.2.2.2.2.2.2.2.1; omega) HV.out.2.2.2.1 (by have := HTT.out; omega) HC.out.2.1 l1 (by omega))
        rw [hlop] at HWO
        have HLEN := Lib.hid hlen
        clear hlop hlen
        go_wp2_with fail
        refine HWO.out.mono ?_; rintro e w3 ⟨v3, rfl, ho, hb⟩
        obtain ⟨a3, c3, rfl⟩ := row_shape ho
        rw [HLEN.out]
        have HP3 := Lib.hid (HP.out.later (by simp) hb)
        have HO3 := Lib.hid ho
        clear x0 x1 x2 x3 x4 x5 hfx z0 z1 z2 z3 z4 z5 hfz hb ho HWO
        obtain ⟨x0, x1, x2, x3, x4, x5⟩ := HP3.out.x.six
        have hfx := HP3.out.x.fz
        obtain ⟨z0, z1, z2, z3, z4, z5⟩ := HP3.out.z.six
        have hfz := HP3.out.z.fz
        have HP4 := Lib.hid (HP3.out.put (o := 3) (by simp) (.slice a3 l1 c3))
        obtain ⟨hbF, hcF, haF⟩ := HP4.out.fin (.int .i64 i0) (.int .i64 f0) (.slice qa lq qc) (.slice a3 l1 c3) (.slice na ln nc) (.slice ra lr rc)
        have hnew0 := row_aside (row_aside HO3.out (Aside.setCell w3 (p := ⟨N, 3, none⟩) (.slice a3 l1 c3) rfl : Aside (fun k => k = N) _ _) (fun k hk => by have := (World.ownsRow.lt HO3.out k hk).1; have := HV.out.2.2.2.2.2.2.2.1; omega)) haF (fun k hk => by have := (World.ownsRow.lt HO3.out k hk).1; have := HV.out.2.2.2.2.2.2.2.1; omega)
        have hcp : l1 ≤ c3 := by have := row_cap HO3.out; rw [HLEN.out] at this; exact this
        have hle := HLEN.out
        go_wp2_with fail
        obtain ⟨m0, m1, m2, m3, m4, m5⟩ := hcF.six
        unfold put6 at hbF hnew0 m0 m1 m2 m3 m4 m5
        refine bodyPost_ret (v := .tuple #[.agg #[.int .i64 i0, .int .i64 f0, .slice qa lq qc, .slice a3 l1 c3, .slice na ln nc, .slice ra lr rc], .bool true]) (by simp [results, Tryz.results38, go_sem, m0, m1, m2, m3, m4, m5]) rfl ?_
        have e : lessM m = ({ m with an := m.an.take l1 }, true) := by unfold lessM; rw [if_neg (by rw [HA0.out]; omega), if_neg (by rw [HV.out.2.2.2.2.1]; exact hln0), if_pos (by rw [HV.out.2.2.2.1]; exact hla0), HV.out.2.2.2.1, HL1.out.1]
        unfold LessPost
        rw [e]
        refine ⟨_, rfl, fun G W' haG hG hmu => ?_, ⟨_, _, _, _, _, _, _, _, _, _, _, _, _, _, rfl, HC.out.1, hcp, HC.out.2.2.1, HC.out.2.2.2⟩, by rw [HV.out.2.2.2.2.2.2.1]; exact hbF⟩
        obtain ⟨q', a', n', r', he, gq, ga, gn, gr⟩ := hmu
        injection he with he
        simp only [Array.mk.injEq, List.cons.injEq, and_true] at he
        obtain ⟨_, _, rfl, rfl, rfl, rfl⟩ := he
        have hnw := Lst.own (row_aside hnew0 haG (fun k hk => hG k (by have := (World.ownsRow.lt hnew0 k hk).1; have := HV.out.2.2.2.2.2.2; omega))) (by rw [hle]; have := HTT.out; have := HL1.out; omega)
        exact ⟨_, _, _, _, by first | rw [HV.out.1, HV.out.2.1, hle] | rw [HV.out.1, HV.out.2.1], gq, hnw, gn, gr⟩
      · have ht2 : decide ((0 : Int) < (la : Int)) = false := by simp; omega
        have ht2b : ¬ ((0 : Int) < (la : Int)) := by omega
        go_wp2_with fail
        refine (HLA.out true).mono ?_; rintro e w2 ⟨i, rfl, rfl, hi⟩
        rcases hi with ⟨rfl, hall⟩ | ⟨k, xx, hkx, rfl, hkx3, hkd⟩
        · have HD0 := Lib.hid (show nD m = 0 from List.countP_eq_zero.mpr fun x hx => by rw [hall x hx]; simp)
          clear hall
          have hlr0 : lr = 0 := by have := nA_nD m; rw [HA0.out, HD0.out, HV.out.2.2.2.2.2.1] at this; omega
          have hlq0 : 0 < lq := by have := HTT.out; omega
          clear hlr0
          obtain ⟨l1, hl1⟩ : ∃ x, lq - 1 = x := ⟨_, rfl⟩
          have hl1b : l1 + 1 = lq := by omega
          have HL1 := Lib.hid (And.intro hl1 hl1b)
          have hw2 : (lq : Int) - 1 = (l1 : Int) := by omega
          have hw1 : wrap64 (l1 : Int) = (l1 : Int) := by have := HTT.out; exact IntWalk.wrap64_in _ ⟨by omega, by omega⟩
          have hcut := cut_qn qa lq l1 qc (by have := HC.out.1; omega)
          have hlt : (m.q.take l1).length = l1 := by rw [List.length_take, HV.out.2.2.1]; omega
          obtain ⟨W2, hW2⟩ : ∃ X, W1.alloc (.cells #[] 56) = X := ⟨_, rfl⟩
          have hb2 : Below W1.heap.size W1 W2 := by rw [← hW2]; exact (Below.refl _ _).alloc (Nat.le_refl _) _
          have ho2 : OwnQn W2 W1.heap.size (.slice (some ⟨W1.heap.size, 0, none⟩) 0 0) [] := by rw [← hW2]; exact ⟨rfl, .inr ⟨W1.heap.size, 0, #[], rfl, Nat.le_refl _, heap_alloc_new W1 _, Nat.le_refl _, by unfold maxLen; omega, rfl, rfl⟩⟩
          have hq2 : SQ W2 N (.slice qa l1 qc) (m.q.take l1) := by
            have h := HLS.out.1
            have e : acq m.q = acq (m.q.take l1) ++ acq (m.q.drop l1) := by rw [← acq_app, List.take_append_drop]
            unfold SQ
            rw [e] at h
            rw [hlt]
            have := HV.out.2.2.2.2.2.2
            exact Lst.wide (Lst.below (Lst.part h (by omega)) ((HP.out.bel.trans (hb2.mono (by omega))).mono (by omega)) (by omega : hi ≤ N)) (by omega)
          obtain ⟨a3, c3, w3, hr, ho, ha, _⟩ := run_appQn ho2 hq2 (by have := HTT.out; rw [hlt, List.length_nil]; omega) hb2.size
          rw [List.length_nil, Nat.zero_add, hlt] at hr ho
          rw [List.nil_append] at ho
          have HR := Lib.hid hr
          have hlo := World.ownsRow.lt ho2
          have HB3 := below_aside hb2 ha (fun k hk => ⟨by have := hb2.size; omega, fun he => by have := (hlo k he).1; omega⟩)
          have HP3 := Lib.hid (HP.out.later (by simp) HB3)
          have HO3 := Lib.hid ho
          have HLEN := Lib.hid hlt
          clear x0 x1 x2 x3 x4 x5 hfx z0 z1 z2 z3 z4 z5 hfz
          obtain ⟨x0, x1, x2, x3, x4, x5⟩ := (HP.out.later (by simp) hb2).x.six
          have HXY := Lib.hid (And.intro HP3.out.x.six (And.intro HP3.out.x.fz (And.intro HP3.out.z.six HP3.out.z.fz)))
          clear hq2 ho2 hr ho ha hlo HB3 hb2 hlt hl1 hl1b
          go_wp2_with (at_builtin; refine wpList_append_run (.tmp 53) (.tmp 60) 22 22 rfl rfl rfl rfl HR.out ?_; clear x0 x1 x2 x3 x4 x5; obtain ⟨⟨x0, x1, x2, x3, x4, x5⟩, hfx, ⟨z0, z1, z2, z3, z4, z5⟩, hfz⟩ := HXY.out)
          have HP4 := Lib.hid (HP3.out.put (o := 2) (by simp) (.slice a3 l1 c3))
          obtain ⟨hbF, hcF, haF⟩ := HP4.out.fin (.int .i64 i0) (.int .i64 f0) (.slice a3 l1 c3) (.slice aa la ac) (.slice na ln nc) (.slice ra lr rc)
          have hnew0 := row_aside (row_aside HO3.out (Aside.setCell w3 (p := ⟨N, 2, none⟩) (.slice a3 l1 c3) rfl : Aside (fun k => k = N) _ _) (fun k hk => by have := (World.ownsRow.lt HO3.out k hk).1; have := HV.out.2.2.2.2.2.2.2.1; omega)) haF (fun k hk => by have := (World.ownsRow.lt HO3.out k hk).1; have := HV.out.2.2.2.2.2.2.2.1; omega)
          have hcp : l1 ≤ c3 := by have := row_cap HO3.out; rw [HLEN.out] at this; exact this
          have hle := HLEN.out
          go_wp2_with fail
          obtain ⟨m0, m1, m2, m3, m4, m5⟩ := hcF.six
          unfold put6 at hbF hnew0 m0 m1 m2 m3 m4 m5
          refine bodyPost_ret (v := .tuple #[.agg #[.int .i64 i0, .int .i64 f0, .slice a3 l1 c3, .slice aa la ac, .slice na ln nc, .slice ra lr rc], .bool true]) (by simp [results, Tryz.results38, go_sem, m0, m1, m2, m3, m4, m5]) rfl ?_
          have e : lessM m = ({ m with q := m.q.take l1 }, true) := by unfold lessM; rw [if_neg (by rw [HA0.out]; omega), if_neg (by rw [HV.out.2.2.2.2.1]; exact hln0), if_neg (by rw [HV.out.2.2.2.1]; exact hla0), if_neg (by rw [HD0.out]; omega), HV.out.2.2.1, HL1.out.1]
          unfold LessPost
          rw [e]
          refine ⟨_, rfl, fun G W' haG hG hmu => ?_, ⟨_, _, _, _, _, _, _, _, _, _, _, _, _, _, rfl, hcp, HC.out.2.1, HC.out.2.2.1, HC.out.2.2.2⟩, by rw [HV.out.2.2.2.2.2.2.1]; exact hbF⟩
          obtain ⟨q', a', n', r', he, gq, ga, gn, gr⟩ := hmu
          injection he with he
          simp only [Array.mk.injEq, List.cons.injEq, and_true] at he
          obtain ⟨_, _, rfl, rfl, rfl, rfl⟩ := he
          have hnw := Lst.own (row_aside hnew0 haG (fun k hk => hG k (by have := (World.ownsRow.lt hnew0 k hk).1; have := HV.out.2.2.2.2.2.2; omega))) (by rw [hle]; have := HTT.out; have := HL1.out; omega)
          exact ⟨_, _, _, _, by first | rw [HV.out.1, HV.out.2.1, hle] | rw [HV.out.1, HV.out.2.1], hnw, ga, gn, gr⟩
        · obtain ⟨hk, hkx2⟩ := List.getElem?_eq_some_iff.mp hkx
          have hko := (congrArg isO hkx2).trans hkx3
          clear hkx hkx2 hkx3
          have hkl : k < lr := by rw [← HV.out.2.2.2.2.2.1]; exact hk
          obtain ⟨l1, hl1⟩ : ∃ x, lr - 1 = x := ⟨_, rfl⟩
          have HL1 := Lib.hid (And.intro hl1 hl1)
          have hlop : m.ar.take k ++ m.ar.drop (k + 1) = lop isO 1 m.ar := (lop_at isO m.ar k hk (hko) (List.countP_eq_zero.mpr fun x hx => by rw [hkd x hx]; simp)).symm
          have hlen : (lop isO 1 m.ar).length = l1 := by rw [← hlop, List.length_append, List.length_take, List.length_drop, HV.out.2.2.2.2.2.1]; omega
          clear hl1
          have HD1 := Lib.hid (show 0 < nD m from List.countP_pos_iff.mpr ⟨m.ar[k], List.getElem_mem hk, hko⟩)
          clear hko hkd
          have HWO := Lib.hid (rwithout_any (w := W1) (hi := N) (l := m.ar) (show SR W1 N (.slice ra lr rc) m.ar by have := HV.out.2.2.2.2.2.2; unfold SR; rw [HV.out.2.2.2.2.2.1]; exact Lst.wide (Lst.below HLS.out.2.2.2 (HP.out.bel.mono (by omega)) (by omega : hi ≤ N)) (by omega)) (by have := HV.out.2.2.2.2.2.2.2.1; omega) HV.out.2.2.2.2.2.1 (by have := HTT.out; omega) HC.out.2.2.2 k hkl)
          rw [hlop] at HWO
          have HLEN := Lib.hid hlen
          clear hlop hlen
          go_wp2_with fail
          refine HWO.out.mono ?_; rintro e w3 ⟨v3, rfl, ho, hb⟩
          obtain ⟨a3, c3, rfl⟩ := row_shape ho
          rw [HLEN.out]
          have HP3 := Lib.hid (HP.out.later (by simp) hb)
          have HO3 := Lib.hid ho
          clear x0 x1 x2 x3 x4 x5 hfx z0 z1 z2 z3 z4 z5 hfz hb ho HWO
          obtain ⟨x0, x1, x2, x3, x4, x5⟩ := HP3.out.x.six
          have hfx := HP3.out.x.fz
          obtain ⟨z0, z1, z2, z3, z4, z5⟩ := HP3.out.z.six
          have hfz := HP3.out.z.fz
          have HP4 := Lib.hid (HP3.out.put (o := 5) (by simp) (.slice a3 l1 c3))
          obtain ⟨hbF, hcF, haF⟩ := HP4.out.fin (.int .i64 i0) (.int .i64 f0) (.slice qa lq qc) (.slice aa la ac) (.slice na ln nc) (.slice a3 l1 c3)
          have hnew0 := row_aside (row_aside HO3.out (Aside.setCell w3 (p := ⟨N, 5, none⟩) (.slice a3 l1 c3) rfl : Aside (fun k => k = N) _ _) (fun k hk => by have := (World.ownsRow.lt HO3.out k hk).1; have := HV.out.2.2.2.2.2.2.2.1; omega)) haF (fun k hk => by have := (World.ownsRow.lt HO3.out k hk).1; have := HV.out.2.2.2.2.2.2.2.1; omega)
          have hcp : l1 ≤ c3 := by have := row_cap HO3.out; rw [HLEN.out] at this; exact this
          have hle := HLEN.out
          go_wp2_with fail
          obtain ⟨m0, m1, m2, m3, m4, m5⟩ := hcF.six
          unfold put6 at hbF hnew0 m0 m1 m2 m3 m4 m5
          refine bodyPost_ret (v := .tuple #[.agg #[.int .i64 i0, .int .i64 f0, .slice qa lq qc, .slice aa la ac, .slice na ln nc, .slice a3 l1 c3], .bool false]) (by simp [results, Tryz.results38, go_sem, m0, m1, m2, m3, m4, m5]) rfl ?_
          have e : lessM m = ({ m with ar := lop isO 1 m.ar }, false) := by unfold lessM; rw [if_neg (by rw [HA0.out]; omega), if_neg (by rw [HV.out.2.2.2.2.1]; exact hln0), if_neg (by rw [HV.out.2.2.2.1]; exact hla0), if_pos HD1.out]
          unfold LessPost
          rw [e]
          refine ⟨_, rfl, fun G W' haG hG hmu => ?_, ⟨_, _, _, _, _, _, _, _, _, _, _, _, _, _, rfl, HC.out.1, HC.out.2.1, HC.out.2.2.1, hcp⟩, by rw [HV.out.2.2.2.2.2.2.1]; exact hbF⟩
          obtain ⟨q', a', n', r', he, gq, ga, gn, gr⟩ := hmu
          injection he with he
          simp only [Array.mk.injEq, List.cons.injEq, and_true] at he
          obtain ⟨_, _, rfl, rfl, rfl, rfl⟩ := he
          have hnw := Lst.own (row_aside hnew0 haG (fun k hk => hG k (by have := (World.ownsRow.lt hnew0 k hk).1; have := HV.out.2.2.2.2.2.2; omega))) (by rw [hle]; have := HTT.out; have := HL1.out; omega)
          exact ⟨_, _, _, _, by first | rw [HV.out.1, HV.out.2.1, hle] | rw [HV.out.1, HV.out.2.1], gq, ga, gn, hnw⟩
  · obtain ⟨hk, hkx2⟩ := List.getElem?_eq_some_iff.mp hkx
    have hko := (congrArg isO hkx2).trans hkx3
    clear hkx hkx2 hkx3
    have hkl : k < lr := by rw [← HV.out.2.2.2.2.2.1]; exact hk
    obtain ⟨l1, hl1⟩ : ∃ x, lr - 1 = x := ⟨_, rfl⟩
    have HL1 := Lib.hid (And.intro hl1 hl1)
    have hlop : m.ar.take k ++ m.ar.drop (k + 1) = lop nO 1 m.ar := (lop_at nO m.ar k hk (by unfold nO; rw [hko]; rfl) (List.countP_eq_zero.mpr fun x hx => by unfold nO; rw [hkd x hx]; simp)).symm
    have hlen : (lop nO 1 m.ar).length = l1 := by rw [← hlop, List.length_append, List.length_take, List.length_drop, HV.out.2.2.2.2.2.1]; omega
    clear hl1
    have HA1 := Lib.hid (show 0 < nA m from List.countP_pos_iff.mpr ⟨m.ar[k], List.getElem_mem hk, by unfold nO; rw [hko]; rfl⟩)
    clear hko hkd
    have HWO := Lib.hid (rwithout_any (w := W1) (hi := N) (l := m.ar) (show SR W1 N (.slice ra lr rc) m.ar by have := HV.out.2.2.2.2.2.2; unfold SR; rw [HV.out.2.2.2.2.2.1]; exact Lst.wide (Lst.below HLS.out.2.2.2 (HP.out.bel.mono (by omega)) (by omega : hi ≤ N)) (by omega)) (by have := HV.out.2.2.2.2.2.2.2.1; omega) HV.out.2.2.2.2.2.1 (by have := HTT.out; omega) HC.out.2.2.2 k hkl)
    rw [hlop] at HWO
    have HLEN := Lib.hid hlen
    clear hlop hlen
    go_wp2_with fail
    refine HWO.out.mono ?_; rintro e w3 ⟨v3, rfl, ho, hb⟩
    obtain ⟨a3, c3, rfl⟩ := row_shape ho
    rw [HLEN.out]
    have HP3 := Lib.hid (HP.out.later (by simp) hb)
    have HO3 := Lib.hid ho
    clear x0 x1 x2 x3 x4 x5 hfx z0 z1 z2 z3 z4 z5 hfz hb ho HWO
    obtain ⟨x0, x1, x2, x3, x4, x5⟩ := HP3.out.x.six
    have hfx := HP3.out.x.fz
    obtain ⟨z0, z1, z2, z3, z4, z5⟩ := HP3.out.z.six
    have hfz := HP3.out.z.fz
    have HP4 := Lib.hid (HP3.out.put (o := 5) (by simp) (.slice a3 l1 c3))
    obtain ⟨hbF, hcF, haF⟩ := HP4.out.fin (.int .i64 i0) (.int .i64 f0) (.slice qa lq qc) (.slice aa la ac) (.slice na ln nc) (.slice a3 l1 c3)
    have hnew0 := row_aside (row_aside HO3.out (Aside.setCell w3 (p := ⟨N, 5, none⟩) (.slice a3 l1 c3) rfl : Aside (fun k => k = N) _ _) (fun k hk => by have := (World.ownsRow.lt HO3.out k hk).1; have := HV.out.2.2.2.2.2.2.2.1; omega)) haF (fun k hk => by have := (World.ownsRow.lt HO3.out k hk).1; have := HV.out.2.2.2.2.2.2.2.1; omega)
    have hcp : l1 ≤ c3 := by have := row_cap HO3.out; rw [HLEN.out] at this; exact this
    have hle := HLEN.out
    go_wp2_with fail
    obtain ⟨m0, m1, m2, m3, m4, m5⟩ := hcF.six
    unfold put6 at hbF hnew0 m0 m1 m2 m3 m4 m5
    refine bodyPost_ret (v := .tuple #[.agg #[.int .i64 i0, .int .i64 f0, .slice qa lq qc, .slice aa la ac, .slice na ln nc, .slice a3 l1 c3], .bool false]) (by simp [results, Tryz.results38, go_sem, m0, m1, m2, m3, m4, m5]) rfl ?_
    have e : lessM m = ({ m with ar := lop nO 1 m.ar }, false) := by unfold lessM; rw [if_pos HA1.out]
    unfold LessPost
    rw [e]
    refine ⟨_, rfl, fun G W' haG hG hmu => ?_, ⟨_, _, _, _, _, _, _, _, _, _, _, _, _, _, rfl, HC.out.1, HC.out.2.1, HC.out.2.2.1, hcp⟩, by rw [HV.out.2.2.2.2.2.2.1]; exact hbF⟩
    obtain ⟨q', a', n', r', he, gq, ga, gn, gr⟩ := hmu
    injection he with he
    simp only [Array.mk.injEq, List.cons.injEq, and_true] at he
    obtain ⟨_, _, rfl, rfl, rfl, rfl⟩ := he
    have hnw := Lst.own (row_aside hnew0 haG (fun k hk => hG k (by have := (World.ownsRow.lt hnew0 k hk).1; have := HV.out.2.2.2.2.2.2; omega))) (by rw [hle]; have := HTT.out; have := HL1.out; omega)
    exact ⟨_, _, _, _, by first | rw [HV.out.1, HV.out.2.1, hle] | rw [HV.out.1, HV.out.2.1], gq, ga, gn, hnw⟩
end Go.Proofs.YteegekpanadmkaaGreat
/-
  The document's own: whether a message may be (Check).
-/
namespace Go.Proofs.YteegekpanadmkaaGreat
open Go.RowKit Go.Shelf
set_option linter.unusedVariables false
set_option linter.unusedSimpArgs false
set_option maxRecDepth 100000
theorem rshort_yes (n : Int) (h : 0 ≤ n ∧ n ≤ 65535) (w : World) : Calls Tryz.prog 62 #[.int .i64 n] w fun e w' => e = .returned (.bool true) ∧ w = w' := by
  obtain ⟨h0, h1⟩ := h
  go_enter Tryz.func62, Tryz.ntmps62
  go_wp2
  go_ret
  exact ⟨rfl, rfl⟩
theorem rshort_no (n : Int) (h : n < 0 ∨ 65535 < n) (w : World) : Calls Tryz.prog 62 #[.int .i64 n] w fun e w' => e = .returned (.bool false) ∧ w = w' := by
  by_cases h0 : 0 ≤ n
  · have h1 : ¬ n ≤ 65535 := by omega
    go_enter Tryz.func62, Tryz.ntmps62
    go_wp2
    go_ret
    exact ⟨rfl, rfl⟩
  · go_enter Tryz.func62, Tryz.ntmps62
    go_wp2
    go_ret
    exact ⟨rfl, rfl⟩
theorem rshort_any (n : Int) (b : Bool) (hb : decide (0 ≤ n ∧ n ≤ 65535) = b) (w : World) : Calls Tryz.prog 62 #[.int .i64 n] w fun e w' => e = .returned (.bool b) ∧ w = w' := by
  subst hb
  by_cases h : 0 ≤ n ∧ n ≤ 65535
  · rw [decide_eq_true h]; exact rshort_yes n h w
  · rw [decide_eq_false h]; exact rshort_no n (by omega) w
theorem fst0_at {α : Type} (f : α → Int) (l : List α) (j : Nat) (hj : j < l.length) (h : fst0 ((l.take j).map f) = 0) : f l[j] ≠ 0 → fst0 (l.map f) = f l[j] := by
  intro hne
  have e : l.map f = (l.take j).map f ++ (f l[j] :: (l.drop (j + 1)).map f) := by
    rw [← List.map_cons, ← List.map_append, ← List.drop_eq_getElem_cons hj, List.take_append_drop]
  rw [e, fst0_app, h, if_neg (by simp), fst0, if_pos hne]
theorem fst0_more {α : Type} (f : α → Int) (l : List α) (j : Nat) (hj : j < l.length) (h : fst0 ((l.take j).map f) = 0) (h0 : f l[j] = 0) : fst0 ((l.take (j + 1)).map f) = 0 := by
  rw [List.take_add_one, List.getElem?_eq_getElem hj, List.map_append, fst0_app, h, if_neg (by simp)]
  simp [fst0, h0]
set_option maxHeartbeats 2000000 in
theorem rrecs_any {w : World} {hi : Nat} {u : Value} {l : List Rc} (h : SR w hi u l) (h1 : hi ≤ w.heap.size) (hn : ∀ x ∈ l, x.n.length ≤ 1000000 ∧ x.d.length ≤ 1000000) :
    Calls Tryz.prog 64 #[u] w (Tells w (.int .i64 (fst0 (l.map chkC)))) := by
  obtain ⟨r, hr⟩ : ∃ r, fst0 (l.map chkC) = r := ⟨_, rfl⟩
  rw [hr]
  have HR := Lib.hid hr
  have HX := Lib.hid h
  have HN := Lib.hid (Lst.len h)
  have HNN := Lib.hid hn
  have HHI := Lib.hid h1
  have HCK := Lib.hid (fun (x : Rc) (hx : x ∈ l) wx => rcheck07_any x.n x.t x.c x.l x.d (hn x hx).1 (hn x hx).2 wx)
  have HB0 := Lib.hid (Below.refl w.heap.size w)
  obtain ⟨a, c, rfl⟩ := Lst.shape h
  clear hr h h1 hn
  go_enter Tryz.func64, Tryz.ntmps64
  go_wp2
  go_loopg [3] l.length (fun k v3 wr => ∃ j : Nat, j + k = l.length ∧ v3 = .int .i64 j ∧ Hid (fst0 ((l.take j).map chkC) = 0) ∧ Hid (Below w.heap.size w wr))
  case atStart => exact ⟨0, by omega, rfl, by simp [Hid, fst0], HB0⟩
  case round =>
    obtain ⟨j, hj, rfl, HA, HB⟩ := hrel
    clear HB0
    have hlen := HN.out
    by_cases hlt : j < l.length
    · obtain ⟨b, off, c2, he, hb, hc⟩ := HX.out.at_ j hlt
      injection he with he hn3 hc3
      clear hn3 hc3
      subst he
      obtain ⟨d0, d1, d2, d3, d4⟩ := hc.keep fun o => HB.out.cell (p := ⟨b, o, none⟩) (Nat.lt_of_lt_of_le hb HHI.out)
      have hck := HCK.out _ (List.getElem_mem hlt)
      have H0 := Lib.hid (fst0_at chkC l j hlt HA.out)
      have H1 := Lib.hid (fst0_more chkC l j hlt HA.out)
      obtain ⟨x, hx⟩ : ∃ x, l[j] = x := ⟨_, rfl⟩
      rw [hx] at d0 d1 d2 d3 d4 hck H0 H1
      obtain ⟨n, t, cl, tl, d⟩ := x
      simp only at d0 d1 d2 d3 d4 hck
      obtain ⟨E, hE⟩ : ∃ E, chkC ⟨n, t, cl, tl, d⟩ = E := ⟨_, rfl⟩
      rw [hE] at hck H0 H1
      have HC := Lib.hid hck
      clear hc hb hx hck hE HA
      go_wp2_with fail
      refine (HC.out _).mono ?_; rintro e w1 ⟨rfl, hb⟩
      replace HB := Lib.hid (bel_call HB.out hb)
      clear hb d0 d1 d2 d3 d4
      by_cases hE0 : E = 0
      · subst hE0
        have HA2 := Lib.hid (H1.out rfl)
        clear H0 H1
        go_wp2_with fail
        go_roundg (l.length - (j + 1))
        case measure => omega
        case rel => exact ⟨j + 1, by omega, by go_num, HA2, HB⟩
      · have tE : (E != 0) = true := by simpa using hE0
        have HE := Lib.hid (show r = E by rw [← HR.out]; exact H0.out hE0)
        clear H0 H1
        go_wp2_with fail
        go_ret
        exact ⟨by rw [HE.out]; rfl, HB.out⟩
    · have hje : j = l.length := by omega
      have HE := Lib.hid (show r = 0 by
        rw [← HR.out]
        have := HA.out
        rw [List.take_of_length_le (by omega)] at this
        exact this)
      clear HA
      have t1 : ¬ ((j : Int) < l.length) := by omega
      go_wp2_with fail
      go_ret
      exact ⟨by rw [HE.out]; rfl, HB.out⟩
theorem bool_of (p : Prop) [Decidable p] : ∃ b, decide p = b := ⟨_, rfl⟩
set_option maxHeartbeats 16000000 in
theorem rcheckM_any {w : World} {hi : Nat} {u : Value} {m : Ms} (h : Mg w hi u m) (h1 : hi ≤ w.heap.size) (hf : m.Fine) (hsum : m.q.length + m.an.length + m.ns.length + m.ar.length ≤ 60000) :
    Calls Tryz.prog 36 #[u] w (Tells w (.int .i64 (chkM m))) := by
  obtain ⟨r, hr⟩ : ∃ r, chkM m = r := ⟨_, rfl⟩
  rw [hr]
  obtain ⟨q, a, n, rr, rfl, hq, ha, hn, hrr⟩ := h
  have hchk : r = if m.id < 0 ∨ 65535 < m.id ∨ m.fl < 0 ∨ 65535 < m.fl then 5 else fst0 (m.its.map It.err) := by
    rw [← hr]; unfold chkM; rw [if_neg (show ¬ (65535 < m.q.length ∨ 65535 < m.an.length ∨ 65535 < m.ns.length ∨ 65535 < m.ar.length) by omega)]
  have hits : m.its.map It.err = (m.q.map fun x => askE x.n x.t x.c) ++ (m.an.map chkC ++ (m.ns.map chkC ++ m.ar.map chkC)) := by
    unfold Ms.its; simp [Function.comp_def, It.err]
  have HFQ := Lib.hid hf.q
  have HCA := Lib.hid (fun wx (hb : Below w.heap.size w wx) => rrecs_any (Lst.below ha hb h1) (Nat.le_trans h1 hb.size) hf.an)
  have HCN := Lib.hid (fun wx (hb : Below w.heap.size w wx) => rrecs_any (Lst.below hn hb h1) (Nat.le_trans h1 hb.size) hf.ns)
  have HCR := Lib.hid (fun wx (hb : Below w.heap.size w wx) => rrecs_any (Lst.below hrr hb h1) (Nat.le_trans h1 hb.size) hf.ar)
  have HQ := Lib.hid hq
  have HHI := Lib.hid h1
  obtain ⟨qa, qc, rfl⟩ := Lst.shape hq
  obtain ⟨aa, ac, rfl⟩ := Lst.shape ha
  obtain ⟨na, nc, rfl⟩ := Lst.shape hn
  obtain ⟨ra, rc, rfl⟩ := Lst.shape hrr
  obtain ⟨i0, hi0⟩ : ∃ i, m.id = i := ⟨_, rfl⟩
  obtain ⟨f0, hf0⟩ : ∃ i, m.fl = i := ⟨_, rfl⟩
  obtain ⟨eA, heA⟩ : ∃ i, fst0 (m.an.map chkC) = i := ⟨_, rfl⟩
  obtain ⟨eN, heN⟩ : ∃ i, fst0 (m.ns.map chkC) = i := ⟨_, rfl⟩
  obtain ⟨eR, heR⟩ : ∃ i, fst0 (m.ar.map chkC) = i := ⟨_, rfl⟩
  rw [hits, fst0_app, fst0_app, fst0_app, heA, heN, heR, hi0, hf0] at hchk
  rw [hi0, hf0]
  rw [heA] at HCA
  rw [heN] at HCN
  rw [heR] at HCR
  obtain ⟨l, hlq⟩ : ∃ l, m.q = l := ⟨_, rfl⟩
  rw [hlq] at HQ HFQ hchk hsum ⊢
  obtain ⟨ln, hln⟩ : ∃ l, m.an.length = l := ⟨_, rfl⟩
  rw [hln] at HCA hsum ⊢
  obtain ⟨lm, hlm⟩ : ∃ l, m.ns.length = l := ⟨_, rfl⟩
  rw [hlm] at HCN hsum ⊢
  obtain ⟨lr, hlr⟩ : ∃ l, m.ar.length = l := ⟨_, rfl⟩
  rw [hlr] at HCR hsum ⊢
  have HR := Lib.hid hchk
  have HS := Lib.hid hsum
  have HCK := Lib.hid (fun (x : Qn) (hx : x ∈ l) wx => rcheck_any x.n (HFQ.out x hx) wx)
  have HSQ := Lib.hid (fun wx => rshort_yes (l.length : Int) (by omega) wx)
  have HSA := Lib.hid (fun wx => rshort_yes (ln : Int) (by omega) wx)
  have HSN := Lib.hid (fun wx => rshort_yes (lm : Int) (by omega) wx)
  have HSR := Lib.hid (fun wx => rshort_yes (lr : Int) (by omega) wx)
  obtain ⟨B1, hB1⟩ := bool_of (0 ≤ i0 ∧ i0 ≤ 65535)
  obtain ⟨B2, hB2⟩ := bool_of (0 ≤ f0 ∧ f0 ≤ 65535)
  have HS1 := Lib.hid (fun wx => rshort_any i0 B1 hB1 wx)
  have HS2 := Lib.hid (fun wx => rshort_any f0 B2 hB2 wx)
  have HB1 := Lib.hid hB1
  have HB2 := Lib.hid hB2
  have hb0 : Below w.heap.size w (w.alloc (.cells #[.int .i64 i0, .int .i64 f0, .slice qa l.length qc, .slice aa ln ac, .slice na lm nc, .slice ra lr rc] 25)) := (Below.refl _ _).alloc (Nat.le_refl _) _
  have hx := cel_new6 w (.int .i64 i0) (.int .i64 f0) (.slice qa l.length qc) (.slice aa ln ac) (.slice na lm nc) (.slice ra lr rc) 25
  obtain ⟨W, hW⟩ : ∃ W, w.alloc (.cells #[.int .i64 i0, .int .i64 f0, .slice qa l.length qc, .slice aa ln ac, .slice na lm nc, .slice ra lr rc] 25) = W := ⟨_, rfl⟩
  obtain ⟨N, hN⟩ : ∃ N, w.heap.size = N := ⟨_, rfl⟩
  rw [hW] at hb0 hx
  rw [hN] at hx
  have HB := Lib.hid hb0
  have HX := Lib.hid hx
  obtain ⟨c0, c1, c2, c3, c4, c5⟩ := hx.six
  clear heA heN heR hlq hln hlm hlr hi0 hf0 hq ha hn hrr h1 hb0 hx hr hchk hits hsum hB1 hB2 hf
  go_enter Tryz.func36, Tryz.ntmps36
  go_wp2_with fail
  refine (HS1.out _).mono ?_; rintro e w1 ⟨rfl, rfl⟩
  cases B1 with
  | false =>
    have HE := Lib.hid (show r = 5 by rw [HR.out, if_pos]; have := HB1.out; simp at this; omega)
    go_wp2_with fail
    go_ret
    exact ⟨by rw [HE.out]; rfl, HB.out⟩
  | true =>
    go_wp2_with fail
    refine (HS2.out _).mono ?_; rintro e w1 ⟨rfl, rfl⟩
    cases B2 with
    | false =>
      have HE := Lib.hid (show r = 5 by rw [HR.out, if_pos]; have := HB2.out; simp at this; omega)
      go_wp2_with fail
      go_ret
      exact ⟨by rw [HE.out]; rfl, HB.out⟩
    | true =>
      replace HR := Lib.hid (show r = _ by rw [HR.out, if_neg (by have := HB1.out; have := HB2.out; simp at *; omega)])
      go_wp2_with fail
      refine (HSQ.out _).mono ?_; rintro e w1 ⟨rfl, rfl⟩
      go_wp2_with fail
      refine (HSA.out _).mono ?_; rintro e w1 ⟨rfl, rfl⟩
      go_wp2_with fail
      refine (HSN.out _).mono ?_; rintro e w1 ⟨rfl, rfl⟩
      go_wp2_with fail
      refine (HSR.out _).mono ?_; rintro e w1 ⟨rfl, rfl⟩
      go_wp2_with fail
      clear c0 c1 c2 c3 c4 c5 hN HS1 HS2 HSQ HSA HSN HSR HB1 HB2
      go_loopg [3] l.length (fun k v3 wr => ∃ j : Nat, j + k = l.length ∧ v3 = .int .i64 j ∧ Hid (fst0 ((l.take j).map fun x => askE x.n x.t x.c) = 0) ∧ Hid (Below w.heap.size w wr) ∧ Hid (Cel wr N [.int .i64 i0, .int .i64 f0, .slice qa l.length qc, .slice aa ln ac, .slice na lm nc, .slice ra lr rc]))
      case atStart => exact ⟨0, by omega, rfl, by simp [Hid, fst0], HB, HX⟩
      case round =>
        obtain ⟨j, hj, rfl, HA, HBr, HXr⟩ := hrel
        clear HB HX hW
        obtain ⟨c0, c1, c2, c3, c4, c5⟩ := HXr.out.six
        have g1 := HS.out
        by_cases hlt : j < l.length
        · obtain ⟨b, off, cc, he, hb, hc⟩ := HQ.out.at_ j hlt
          injection he with he hn3 hc3
          clear hn3 hc3
          subst he
          obtain ⟨d0, d1, d2⟩ := hc.keep fun o => HBr.out.cell (p := ⟨b, o, none⟩) (Nat.lt_of_lt_of_le hb HHI.out)
          have hck := HCK.out _ (List.getElem_mem hlt)
          have hat : AtQn wr b (off + j * 3) l[j] := ⟨d0, d1, d2⟩
          have h0 := fst0_at (fun x : Qn => askE x.n x.t x.c) l j hlt HA.out
          have h1 := fst0_more (fun x : Qn => askE x.n x.t x.c) l j hlt HA.out
          obtain ⟨x, hx⟩ : ∃ x, l[j] = x := ⟨_, rfl⟩
          rw [hx] at d0 d1 d2 hck h0 h1 hat
          obtain ⟨n, t, cl⟩ := x
          simp only at d0 d1 d2 hck h0 h1
          obtain ⟨E, hE⟩ : ∃ E, chk n = E := ⟨_, rfl⟩
          obtain ⟨B3, hB3⟩ := bool_of (0 ≤ t ∧ t ≤ 65535)
          obtain ⟨B4, hB4⟩ := bool_of (0 ≤ cl ∧ cl ≤ 65535)
          have hask : askE n t cl = if E ≠ 0 then E else if B3 = true ∧ B4 = true then 0 else 5 := by
            unfold askE
            rw [hE]
            by_cases h : E = 0
            · have hn : ¬ E ≠ 0 := not_not_intro h
              rw [if_neg hn, if_neg hn]
              by_cases h' : t < 0 ∨ 65535 < t ∨ cl < 0 ∨ 65535 < cl
              · rw [if_pos h', if_neg (by rw [← hB3, ← hB4]; simp; omega)]
              · rw [if_neg h', if_pos (by rw [← hB3, ← hB4]; simp; omega)]
            · rw [if_pos h, if_pos h]
          rw [hE] at hck
          rw [hask] at h0 h1
          have HS3 := Lib.hid (fun wx => rshort_any t B3 hB3 wx)
          have HS4 := Lib.hid (fun wx => rshort_any cl B4 hB4 wx)
          have HC := Lib.hid hck
          have H0 := Lib.hid h0
          have H1 := Lib.hid h1
          have HAT := Lib.hid hat
          clear hc hx hck hE HA h0 h1 hask hB3 hB4 hat
          go_wp2_with fail
          refine (HC.out _).mono ?_; rintro e w1 ⟨rfl, hbl⟩
          have hbx := World.block_lt_of_cell? wr _ d0
          obtain ⟨k0, k1, k2⟩ := HAT.out.keep fun o => hbl.cell (p := ⟨b, o, none⟩) (by simpa using hbx)
          replace HBr := Lib.hid (bel_call HBr.out hbl)
          replace HXr := Lib.hid (HXr.out.below (by simp) hbl)
          simp only at k0 k1 k2
          clear hbl d0 d1 d2 c0 c1 c2 c3 c4 c5 hbx HAT hb
          obtain ⟨c0, c1, c2, c3, c4, c5⟩ := HXr.out.six
          by_cases hE0 : E = 0
          · subst hE0
            go_wp2_with fail
            refine (HS3.out _).mono ?_; rintro e w2 ⟨rfl, rfl⟩
            cases B3 with
            | false =>
              have HE := Lib.hid (show r = 5 by rw [HR.out, H0.out (by simp), if_pos (by simp)]; simp)
              go_wp2_with fail
              go_ret
              exact ⟨by rw [HE.out]; rfl, HBr.out⟩
            | true =>
              go_wp2_with fail
              refine (HS4.out _).mono ?_; rintro e w2 ⟨rfl, rfl⟩
              cases B4 with
              | false =>
                have HE := Lib.hid (show r = 5 by rw [HR.out, H0.out (by simp), if_pos (by simp)]; simp)
                go_wp2_with fail
                go_ret
                exact ⟨by rw [HE.out]; rfl, HBr.out⟩
              | true =>
                have HA2 := Lib.hid (H1.out (by simp))
                clear c0 c1 c2 c3 c4 c5 k0 k1 k2
                go_wp2_with fail
                go_roundg (l.length - (j + 1))
                case measure => omega
                case rel => exact ⟨j + 1, by omega, by go_num, HA2, HBr, HXr⟩
          · have tE : (E != 0) = true := by simpa using hE0
            have HE := Lib.hid (show r = E by rw [HR.out, H0.out (by simp [hE0]), if_pos (by simp [hE0])]; simp [hE0])
            go_wp2_with fail
            go_ret
            exact ⟨by rw [HE.out]; rfl, HBr.out⟩
        · have hje : j = l.length := by omega
          replace HR := Lib.hid (show r = if eA ≠ 0 then eA else if eN ≠ 0 then eN else eR by
            rw [HR.out, if_neg]
            have := HA.out
            rw [List.take_of_length_le (by omega)] at this
            rw [this]; simp)
          clear HA
          have t1 : ¬ ((j : Int) < l.length) := by omega
          go_wp2_with fail
          obtain ⟨g, hg⟩ : ∃ g, wr.heap.size = g := ⟨_, rfl⟩
          have hal : Below wr.heap.size wr (wr.alloc (.cells #[.slice aa ln ac, .slice na lm nc, .slice ra lr rc] 23)) := (Below.refl _ _).alloc (Nat.le_refl _) _
          have hy := cel_new3 wr (.slice aa ln ac) (.slice na lm nc) (.slice ra lr rc) 23
          obtain ⟨W2, hW2⟩ : ∃ W2, wr.alloc (.cells #[.slice aa ln ac, .slice na lm nc, .slice ra lr rc] 23) = W2 := ⟨_, rfl⟩
          rw [hW2] at hal hy ⊢
          replace HBr := Lib.hid (bel_call HBr.out hal)
          rw [hg] at hy ⊢
          have HY := Lib.hid hy
          clear hal hy hW2 hg c0 c1 c2 c3 c4 c5 HXr t1 g1
          have y0 := HY.out.c 0 (by simp)
          refine wp_loop_rounds 4 ?_
          rw [rounds_succ]
          go_wp2_with fail
          refine (HCA.out _ HBr.out).mono ?_; rintro e w3 ⟨rfl, hb⟩
          replace HY := Lib.hid (HY.out.below (by simp) hb)
          replace HBr := Lib.hid (bel_call HBr.out hb)
          clear hb y0
          by_cases hA0 : eA = 0
          · subst hA0
            have y1 := HY.out.c 1 (by simp)
            go_wp2_with fail
            rw [rounds_succ]
            go_wp2_with fail
            refine (HCN.out _ HBr.out).mono ?_; rintro e w4 ⟨rfl, hb⟩
            replace HY := Lib.hid (HY.out.below (by simp) hb)
            replace HBr := Lib.hid (bel_call HBr.out hb)
            clear hb y1
            by_cases hN0 : eN = 0
            · subst hN0
              have y2 := HY.out.c 2 (by simp)
              go_wp2_with fail
              rw [rounds_succ]
              go_wp2_with fail
              refine (HCR.out _ HBr.out).mono ?_; rintro e w5 ⟨rfl, hb⟩
              replace HBr := Lib.hid (bel_call HBr.out hb)
              clear hb y2
              by_cases hR0 : eR = 0
              · subst hR0
                have HE := Lib.hid (show r = 0 by rw [HR.out]; simp)
                go_wp2_with fail
                rw [rounds_succ]
                go_wp2_with fail
                go_ret
                exact ⟨by rw [HE.out]; rfl, HBr.out⟩
              · have tE : (eR != 0) = true := by simpa using hR0
                have HE := Lib.hid (show r = eR by rw [HR.out]; simp)
                go_wp2_with fail
                go_ret
                exact ⟨by rw [HE.out]; rfl, HBr.out⟩
            · have tE : (eN != 0) = true := by simpa using hN0
              have HE := Lib.hid (show r = eN by rw [HR.out]; simp [hN0])
              go_wp2_with fail
              go_ret
              exact ⟨by rw [HE.out]; rfl, HBr.out⟩
          · have tE : (eA != 0) = true := by simpa using hA0
            have HE := Lib.hid (show r = eA by rw [HR.out]; simp [hA0])
            go_wp2_with fail
            go_ret
            exact ⟨by rw [HE.out]; rfl, HBr.out⟩
end Go.Proofs.YteegekpanadmkaaGreat
/-
  What stays while the document's own text writes a message: its message, its bytes, its packer, its lists.
-/
namespace Go.Proofs.YteegekpanadmkaaGreat
open Go.RowKit Go.Shelf
set_option linter.unusedVariables false
set_option linter.unusedSimpArgs false
set_option maxRecDepth 100000
theorem rk_apart {w : World} {B q e B' : Nat} {K : KK} {vr v : Value} {l : List UInt8} (h : Rk w B q vr K e) (ho : OwnB w B' v l) (b : Nat) (hb : v.ownBlock = some b) : b ≠ q := by
  rintro rfl
  obtain ⟨a, c, rfl⟩ := h.own.shape
  have hr := h.row
  rcases ho with ⟨rfl, _⟩ | ⟨g, cap, fz, rfl, _, _, _, _, hg⟩
  · simp [Value.ownBlock] at hb
  · simp [Value.ownBlock] at hb
    subst hb
    rw [World.cell?, hg] at hr
    simp only [List.getElem?_toArray] at hr
    obtain ⟨x, hx⟩ := rowB_all _ (List.mem_of_getElem? (by simpa using hr))
    cases hx
theorem OwnB.hold {w w' : World} {B q : Nat} {v : Value} {l : List UInt8} (ho : OwnB w B v l) (hh : Hold q w w') (hq : ∀ b, v.ownBlock = some b → b ≠ q) : OwnB w' B v l := by
  rcases ho with h | ⟨g, cap, fz, rfl, h1, h2, h3, h4, hg⟩
  · exact .inl h
  · exact .inr ⟨g, cap, fz, rfl, h1, h2, h3, h4, hh g _ _ _ (hq g (by simp [Value.ownBlock])) (by decide) hg⟩
def Blk (w : World) (g : Nat) (c : List Value) (T : TypeId) : Prop := w.heap[g]? = some (.cells c.toArray T (0, 0))
section
variable {w w' : World} {g q B : Nat} {c : List Value} {T : TypeId}
theorem Blk.new (w : World) (c : List Value) (T : TypeId) : Blk (w.alloc (.cells c.toArray T)) w.heap.size c T := heap_alloc_new w _
theorem Blk.below (h : Blk w g c T) (hb : Below w.heap.size w w') : Blk w' g c T := (hb.block g (heap_lt h)).trans h
theorem Blk.hold (h : Blk w g c T) (hh : Hold q w w') (hq : g ≠ q) (hT : T ≠ 145) : Blk w' g c T := hh g _ _ _ hq hT h
theorem Blk.app {v : Value} {l : List UInt8} (h : Blk w g c T) (ho : OwnB w B v l) (ha : Aside (fun b => v.ownBlock = some b) w w') (hT : T ≠ 5) : Blk w' g c T := by
  refine (ha.block g (heap_lt h) fun hh => ?_).trans h
  rcases ho with ⟨rfl, _⟩ | ⟨g', cap, fz, rfl, _, _, _, _, hg⟩
  · simp [Value.ownBlock] at hh
  · simp [Value.ownBlock] at hh
    subst hh
    unfold Blk at h
    rw [hg] at h
    injection h with h
    injection h with _ h3 _
    exact hT h3.symm
theorem Blk.cell (h : Blk w g c T) (i : Nat) (u : Value) (hu : c[i]? = some u) : w.cell? ⟨g, i, none⟩ = some u := by
  unfold Blk at h
  rw [World.cell?, h]
  simpa using hu
end
structure V0 (w wr : World) (N q : Nat) (xs : List Value) (bv vr : Value) (b : List UInt8) (K : KK) (e : Nat) : Prop where
  x : Cel wr N xs
  xl : 0 < xs.length
  row : OwnB wr (N + 1) bv b
  pk : Rk wr (q + 1) q vr K e
  bel : Below w.heap.size w wr
  hN : w.heap.size = N
  nq : N < q
section
variable {w wr w' : World} {N q e e' : Nat} {xs : List Value} {bv vr v2 : Value} {b : List UInt8} {K K' : KK}
theorem V0.later (h : V0 w wr N q xs bv vr b K e) (hb : Below wr.heap.size wr w') : V0 w w' N q xs bv vr b K e :=
  ⟨h.x.below h.xl hb, h.xl, h.row.below hb, h.pk.later hb, bel_call h.bel hb, h.hN, h.nq⟩
theorem V0.ask (h : V0 w wr N q xs bv vr b K e) (ha : Aside (fun b => b = q ∨ vr.ownBlock = some b) wr w') (hk : Rk w' (q + 1) q v2 K' e') : V0 w w' N q xs bv v2 b K' e' := by
  have hlt := h.pk.own.lt
  have hN := h.hN
  have hnq := h.nq
  refine ⟨h.x.aside h.xl ha ?_, h.xl, h.row.aside ha fun k hk hg => ?_, hk, below_aside h.bel ha fun k hk => ⟨Nat.lt_of_lt_of_le hk h.bel.size, ?_⟩, h.hN, h.nq⟩
  · rintro (hg | hg)
    · omega
    · have := (hlt _ hg).1; omega
  · exact hg.elim (rk_apart h.pk h.row k hk) (apart_BK h.row h.pk.own k hk)
  · rintro (hg | hg)
    · omega
    · have := (hlt _ hg).1; omega
theorem V0.wrote (h : V0 w wr N q xs bv vr b K e) (ha : Aside (fun b => b = q ∨ q + 1 ≤ b) wr w') (hh : Hold q wr w') (hk : Rk w' (q + 1) q v2 K' e') : V0 w w' N q xs bv v2 b K' e' := by
  have hN := h.hN
  have hnq := h.nq
  exact ⟨h.x.aside h.xl ha (by omega), h.xl, h.row.hold hh (rk_apart h.pk h.row), hk, below_aside h.bel ha fun k hk => ⟨Nat.lt_of_lt_of_le hk h.bel.size, by omega⟩, h.hN, h.nq⟩
theorem V0.app (h : V0 w wr N q xs bv vr b K e) {xv : Value} {l' : List UInt8} {lo hi : Nat} (hx : Sl wr lo hi xv (iz l')) (hl : b.length + l'.length ≤ 1000000) :
    ∃ a' c' w', (Builtin.append_ #[28, 28] 28 #[bv, xv]).run Tryz.prog wr = .ok (.slice a' (b.length + l'.length) c') w' ∧ V0 w w' N q xs (.slice a' (b.length + l'.length) c') vr (b ++ l') K e ∧ Aside (fun b => bv.ownBlock = some b) wr w' := by
  have hN := h.hN
  have hsz := h.x.lt h.xl
  obtain ⟨a', c', w', h1, h2, ha⟩ := run_appBs (N + 1) bv xv b l' h.row hx hl hsz
  have hlt := h.row.lt
  refine ⟨a', c', w', h1, ⟨h.x.aside h.xl ha fun hg => ?_, h.xl, h2, h.pk.aside ha (fun hg => rk_apart h.pk h.row q hg rfl) (fun k hk hg => apart_BK h.row h.pk.own k hg hk), below_aside h.bel ha fun k hk => ⟨Nat.lt_of_lt_of_le hk h.bel.size, fun hg => ?_⟩, h.hN, h.nq⟩, ha⟩
  · have := (hlt _ hg).1; omega
  · have := (hlt _ hg).1; omega
end
end Go.Proofs.YteegekpanadmkaaGreat
