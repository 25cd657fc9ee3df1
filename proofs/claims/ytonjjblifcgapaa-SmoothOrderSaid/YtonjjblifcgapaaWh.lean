/-
  The laws that speak of lists of floats: SmoothBest, SmoothOrder.
-/
import Derived.Test.YtonjjblifcgapaaWe
import Derived.Laws.AppendOwnNone
namespace Go.Proofs.Ytonjjblifcgapaa
open Go.RowKit
set_option linter.unusedVariables false

theorem has_later {w w1 : World} {a : Option Addr} {l : List Nat} (hb : Below w.heap.size w w1) (h : HasFs w a l) : HasFs w1 a l := by
  rcases h with rfl | ⟨b, off, rfl, hc⟩
  · exact .inl rfl
  · exact .inr ⟨b, off, rfl, fun j hj => cell_later hb (hc j hj)⟩

theorem best_any (a : Option Addr) (n cap : Nat) (l : List Nat) (w : World) (hn : l.length = n) (hb : l.length ≤ 1000) (h : HasFs w a l) :
    Calls Try.prog 18 #[.slice a n cap] w fun e w' => e = .returned (.int .i64 (bestI l)) ∧ w = w' := by
  subst hn
  rcases h with rfl | ⟨b, off, rfl, hc⟩
  · exact best_nil a cap w
  · exact best_row b off cap l w (by omega) hc

theorem rbest_any (a : Option Addr) (n cap : Nat) (l : List Nat) (w : World) (hn : l.length = n) (hb : l.length ≤ 1000) (h : HasFs w a l) :
    Calls Try.prog 19 #[.slice a n cap] w (TellsI (bestI l) w) := by
  subst hn
  rcases h with rfl | ⟨b, off, rfl, hc⟩
  · exact (rbest_nil a cap w).mono fun e w' ⟨he, hw⟩ => ⟨0, he, hw.symm⟩
  · by_cases h0 : 0 < l.length
    · exact rbest_row b off cap l w (by omega) h0 hc
    · have : l = [] := List.length_eq_zero_iff.mp (by omega)
      subst this
      exact (rbest_nil _ cap w).mono fun e w' ⟨he, hw⟩ => ⟨0, he, hw.symm⟩

theorem Try.info22 : (Try.prog.info? 22).map (fun i => (i.zero, i.size, i.bytes)) = some (some (.float .f64 0), 1, 8) := by kernel_rfl

theorem owned_form {w w1 : World} {v' : Value} {l : List Nat} (B : Nat) (hown : w1.ownsRow B 22 1 v' l.length (l.map (Value.float .f64))) (hne : ¬ v' = .slice none 0 0) :
    ∃ g cap', v' = .slice (some ⟨g, 0, none⟩) l.length cap' ∧ ∀ j, j < l.length → w1.cell? ⟨g, 0 + j, none⟩ = some (.float .f64 (l.getD j 0)) := by
  rcases hown.2 with ⟨hv, _⟩ | ⟨g, cap', cur, hv, _⟩
  · exact absurd hv hne
  · refine ⟨g, cap', hv, fun j hj => ?_⟩
    have := hown.cells (g := g) (by rw [hv]; rfl) j (.float .f64 (l.getD j 0)) (by rw [List.getElem?_map, List.getElem?_eq_getElem hj, List.getD, List.getElem?_eq_getElem hj]; rfl)
    rw [WideShapes.add_plain] at this
    exact this

theorem same_quiet (a : Nat) (w : World) : Calls Try.prog 10 #[.float .f64 a, .float .f64 a] w fun e w' => e = .returned (.bool true) ∧ w' = w :=
  (same_any a a (by unfold sameB; simp) w).mono fun _ _ ⟨he, hw⟩ => ⟨he, hw.symm⟩

theorem drawn_below {w w1 wr : World} {B : Nat} (hb : Below B w w1) (h : Drawn w1 wr) : Below B w wr := by
  obtain ⟨m, rfl⟩ := h
  exact below_drewN hb _

set_option maxHeartbeats 1000000 in
theorem lbest_row (x y : Nat) (b off : Nat) (cap : Nat) (l : List Nat) (w : World) (hb : l.length ≤ 200) (h : HasFs w (some ⟨b, off, none⟩) l) :
    Calls Try.prog 4 #[.float .f64 x, .float .f64 y, .slice (some ⟨b, off, none⟩) l.length cap] w (YesB w) := by
  obtain ⟨i0, hi, hz0, hz1, hz2⟩ := info_parts Try.info22
  have hx : ∀ j, j < l.length → w.cell? ⟨b, off + j, none⟩ = some (.float .f64 (l.getD j 0)) := by
    intro j hj
    rcases h with rfl | ⟨b', off', he, hc⟩
    · simp at hj
    · simp at he
      obtain ⟨rfl, rfl⟩ := he
      exact hc j hj
  have hnews : ∀ j u, (l.map (Value.float .f64))[j]? = some u → w.cell? ((⟨b, off, none⟩ : Addr).add j) = some u := by
    intro j u hu
    rw [List.getElem?_map] at hu
    obtain ⟨n, hn, rfl⟩ := Option.map_eq_some_iff.mp hu
    have hj : j < l.length := (List.getElem?_eq_some_iff.mp hn).1
    rw [WideShapes.add_plain, hx j hj, List.getD, hn]; rfl
  have hone : ∀ u ∈ l.map (Value.float .f64), u.oneCell' = true := by
    intro u hu
    obtain ⟨n, _, rfl⟩ := List.mem_map.mp hu
    rfl
  have HN := Lib.hid hnews
  have HO := Lib.hid hone
  have HI := Lib.hid h
  have HX := Lib.hid hx
  clear hnews hone hx h
  have hbA : Below w.heap.size w (w.alloc (.cells #[] 22)) := (Below.refl _ _).alloc (Nat.le_refl _) _
  have HB := Lib.hid hbA
  clear hbA
  go_enter Try.func4, Try.ntmps4
  go_wp2_with (at_builtin; refine wpList_append_own _ rfl _ _ 28 rfl (w.heap.size) 22 i0 (.float .f64 0) 1 8 Try.underlying28 hi hz0 hz1 hz2 rfl (by decide) _ 0 [] rfl ?c0 ⟨b, off, none⟩ l.length cap (l.map (Value.float .f64)) rfl ?c1 ?c2 HO.out ?c4 ?c5 ?c6 ?_)
  case c0 => exact World.ownsRow_made w #[] 0 (Nat.le_refl _) (by decide) (by simp)
  case c1 => simp
  case c2 => exact fun j u hu => cell_later HB.out (HN.out j u hu)
  case c4 => unfold maxLen; omega
  case c5 => omega
  case c6 => simp
  intro v' w1 hown hgr hne
  have hBel : Below w.heap.size w w1 := HB.out.grown hgr (by simp) (by intro k hk; simp [Value.ownBlock] at hk; omega)
  have hI1 : HasFs w1 (some ⟨b, off, none⟩) l := has_later hBel HI.out
  obtain ⟨g, cap', hv, hg⟩ := owned_form (w := w) w.heap.size hown hne
  have hI2 : HasFs w1 (some ⟨g, 0, none⟩) l := .inr ⟨g, 0, rfl, hg⟩
  rw [hv]
  have H1 := Lib.hid hI1
  have H2 := Lib.hid hI2
  have HG := Lib.hid hg
  have HBel := Lib.hid hBel
  clear hI1 hI2 hg hBel hv hgr hown hne
  go_wp2_with (first | (go_at_call 16; refine (bef_any _ _ _).mono ?_; rintro e w' ⟨rfl, rfl⟩) | (go_at_call 17; refine (rbef_any _ _ _).mono ?_; rintro e w' ⟨rfl, rfl⟩) | (go_at_call 18; refine (best_any _ _ _ _ _ rfl (by omega) H2.out).mono ?_; rintro e w' ⟨rfl, rfl⟩) | (go_at_call 19; refine (rbest_any _ _ _ _ _ rfl (by omega) H1.out).mono ?_; rintro e w' ⟨k, rfl, rfl⟩))
  go_loopw [8] (fun i wr => ∃ k : Nat, k ≤ l.length ∧ i = .int .i64 k ∧ Hid (Drawn w1 wr)) (fun i _ => l.length - (intOf i).toNat)
  case atStart => exact ⟨0, Nat.zero_le _, rfl, Lib.hid ⟨_, rfl⟩⟩
  case round =>
    obtain ⟨k, hk, rfl, HW⟩ := hrel
    by_cases hlt : k < l.length
    · have c1 : wr.cell? ⟨g, k, none⟩ = some (.float .f64 (l.getD k 0)) := by have := drawn_cell HW.out (HG.out k hlt); rwa [Nat.zero_add] at this
      have c2 : wr.cell? ⟨b, off + k, none⟩ = some (.float .f64 (l.getD k 0)) := drawn_cell HW.out (cell_later HBel.out (HX.out k hlt))
      obtain ⟨z, hz⟩ : ∃ z, l.getD k 0 = z := ⟨_, rfl⟩
      rw [hz] at c1 c2
      clear hz
      go_wp2_with fail
      go_quiet ((go_at_call 10; exact Calls.quiet_of_same (same_quiet _ _)))
      go_wp2_with fail
      go_roundw
      case rel => exact ⟨k + 1, by omega, by go_num, Lib.hid (drawn_more HW.out _)⟩
      case measure => simp [intOf]; omega
    · go_wp2_with (go_at_call 15; (with_reducible refine (awake_any _).mono ?_); rintro e w2 ⟨rfl, hb2⟩)
      have hd := drawn_below HBel.out HW.out
      have hsz := hd.size
      go_ret
      exact ⟨rfl, hd.trans (hb2.mono hsz)⟩

theorem lbest_big (x y : Nat) (a : Option Addr) (n cap : Nat) (w : World) (hb : 200 < n) :
    Calls Try.prog 4 #[.float .f64 x, .float .f64 y, .slice a n cap] w (YesB w) := by
  go_enter Try.func4, Try.ntmps4
  go_wp2_with (go_at_call 15; (with_reducible refine (awake_any _).mono ?_); rintro e w2 ⟨rfl, hb2⟩)
  go_ret
  exact ⟨rfl, hb2⟩

set_option maxHeartbeats 1000000 in
theorem lbest_empty (x y : Nat) (p : Addr) (cap : Nat) (w : World) :
    Calls Try.prog 4 #[.float .f64 x, .float .f64 y, .slice (some p) 0 cap] w (YesB w) := by
  obtain ⟨i0, hi, hz0, hz1, hz2⟩ := info_parts Try.info22
  have hbA : Below w.heap.size w (w.alloc (.cells #[] 22)) := (Below.refl _ _).alloc (Nat.le_refl _) _
  have HB := Lib.hid hbA
  clear hbA
  go_enter Try.func4, Try.ntmps4
  go_wp2_with (at_builtin; refine wpList_append_own _ rfl _ _ 28 rfl (w.heap.size) 22 i0 (.float .f64 0) 1 8 Try.underlying28 hi hz0 hz1 hz2 rfl (by decide) _ 0 [] rfl ?c0 p 0 cap [] rfl ?c1 ?c2 (by simp) ?c4 ?c5 ?c6 ?_)
  case c0 => exact World.ownsRow_made w #[] 0 (Nat.le_refl _) (by decide) (by simp)
  case c1 => simp
  case c2 => intro j u hu; simp at hu
  case c4 => unfold maxLen; omega
  case c5 => omega
  case c6 => simp
  intro v' w1 hown hgr hne
  have hBel : Below w.heap.size w w1 := HB.out.grown hgr (by simp) (by intro k hk; simp [Value.ownBlock] at hk; omega)
  obtain ⟨g, cap', hv, _⟩ := owned_form (w := w) (l := []) w.heap.size hown hne
  rw [List.length_nil] at hv
  rw [hv]
  have HBel := Lib.hid hBel
  clear hBel hv hgr hown hne
  go_wp2_with (first | (go_at_call 16; refine (bef_any _ _ _).mono ?_; rintro e w' ⟨rfl, rfl⟩) | (go_at_call 17; refine (rbef_any _ _ _).mono ?_; rintro e w' ⟨rfl, rfl⟩) | (go_at_call 18; refine (best_nil _ _ _).mono ?_; rintro e w' ⟨rfl, rfl⟩) | (go_at_call 19; refine (rbest_nil _ _ _).mono ?_; rintro e w' ⟨rfl, rfl⟩))
  go_loopw [8] (fun i wr => i = .int .i64 0 ∧ wr = w1) (fun i _ => 0)
  case atStart => exact ⟨rfl, rfl⟩
  case round =>
    obtain ⟨rfl, rfl⟩ := hrel
    go_wp2_with (go_at_call 15; (with_reducible refine (awake_any _).mono ?_); rintro e w2 ⟨rfl, hb2⟩)
    have hsz := HBel.out.size
    go_ret
    exact ⟨rfl, HBel.out.trans (hb2.mono hsz)⟩

set_option maxHeartbeats 1000000 in
theorem lbest_none (x y : Nat) (w : World) :
    Calls Try.prog 4 #[.float .f64 x, .float .f64 y, .slice none 0 0] w (YesB w) := by
  obtain ⟨i0, hi, hz0, hz1, hz2⟩ := info_parts Try.info22
  have hbA : Below w.heap.size w (w.alloc (.cells #[] 22)) := (Below.refl _ _).alloc (Nat.le_refl _) _
  have HB := Lib.hid hbA
  clear hbA
  go_enter Try.func4, Try.ntmps4
  go_wp2_with (at_builtin; refine wpList_append_own_none rfl _ _ 28 rfl (w.heap.size) 22 i0 1 Try.underlying28 hi _ 0 [] rfl ?c0 rfl ?_)
  case c0 => exact World.ownsRow_made w #[] 0 (Nat.le_refl _) (by decide) (by simp)
  go_wp2_with (first | (go_at_call 16; refine (bef_any _ _ _).mono ?_; rintro e w' ⟨rfl, rfl⟩) | (go_at_call 17; refine (rbef_any _ _ _).mono ?_; rintro e w' ⟨rfl, rfl⟩) | (go_at_call 18; refine (best_nil _ _ _).mono ?_; rintro e w' ⟨rfl, rfl⟩) | (go_at_call 19; refine (rbest_nil _ _ _).mono ?_; rintro e w' ⟨rfl, rfl⟩))
  go_loopw [8] (fun i wr => i = .int .i64 0 ∧ wr = w.alloc (.cells #[] 22)) (fun i _ => 0)
  case atStart => exact ⟨rfl, rfl⟩
  case round =>
    obtain ⟨rfl, rfl⟩ := hrel
    go_wp2_with (go_at_call 15; (with_reducible refine (awake_any _).mono ?_); rintro e w2 ⟨rfl, hb2⟩)
    have hsz := HB.out.size
    go_ret
    exact ⟨rfl, HB.out.trans (hb2.mono hsz)⟩

/-! ### SmoothOrder -/

theorem bef_quiet (a b : Nat) (v : Bool) (h : befB a b = v) (w : World) : Calls Try.prog 16 #[.float .f64 a, .float .f64 b] w fun e w' => e = .returned (.bool v) ∧ w' = w :=
  (bef_any a b w).mono fun _ _ ⟨he, hw⟩ => ⟨by rw [he, h], hw.symm⟩

/-- The ways that Before can go, of three floats. -/
theorem order_ways (a b c : Nat) :
    befB a a = false ∧
    ((befB a b = true ∧ befB b a = false ∧ befB b c = true ∧ befB a c = true) ∨ (befB a b = true ∧ befB b a = false ∧ befB b c = false) ∨ (befB a b = false ∧ befB b a = true) ∨
     (befB a b = false ∧ befB b a = false ∧ eqB a b = true) ∨ (befB a b = false ∧ befB b a = false ∧ eqB a b = false ∧ isN a = true ∧ isN b = true)) := by
  refine ⟨by unfold befB; simp, ?_⟩
  by_cases h1 : rk a < rk b
  · have e1 : befB a b = true := by unfold befB; simpa using h1
    have e2 : befB b a = false := by unfold befB; simp; omega
    by_cases h2 : rk b < rk c
    · exact .inl ⟨e1, e2, by unfold befB; simpa using h2, by unfold befB; simp; omega⟩
    · exact .inr (.inl ⟨e1, e2, by unfold befB; simpa using h2⟩)
  · have e1 : befB a b = false := by unfold befB; simpa using h1
    by_cases h2 : rk b < rk a
    · exact .inr (.inr (.inl ⟨e1, by unfold befB; simpa using h2⟩))
    · have e2 : befB b a = false := by unfold befB; simpa using h2
      refine .inr (.inr (.inr ?_))
      have heq : rk a = rk b := by omega
      unfold rk at heq
      cases ha : isN a with
      | true =>
        cases hb : isN b with
        | true => exact .inr ⟨e1, e2, by unfold eqB; simp [ha], rfl, rfl⟩
        | false =>
          have := key_lt_top hb
          rw [if_pos ha, if_neg (by simp [hb])] at heq; omega
      | false =>
        have hka := key_lt_top ha
        cases hb : isN b with
        | true => rw [if_neg (by simp [ha]), if_pos hb] at heq; omega
        | false =>
          rw [if_neg (by simp [ha]), if_neg (by simp [hb])] at heq
          exact .inl ⟨e1, e2, eq_key.mpr ⟨ha, hb, heq⟩⟩

theorem bne_is {x y : Nat} {b : Bool} (h : eqB x y = b) : (FloatKind.f64.format.order x y != some Ordering.eq) = !b := by
  show (!(Ieee.double.order x y == some Ordering.eq)) = !b
  rw [ord_eq, h]

set_option maxHeartbeats 4000000 in
theorem order_long (a b c : Nat) (s : Option Addr) (n cap : Nat) (hn : 100 < n) (w : World) :
    Calls Try.prog 7 #[.float .f64 a, .float .f64 b, .float .f64 c, .slice s n cap] w (YesB w) := by
  obtain ⟨z, ways⟩ := order_ways a b c
  rcases ways with ⟨p, q, r, t⟩ | ⟨p, q, r⟩ | ⟨p, q⟩ | ⟨p, q, e⟩ | ⟨p, q, e, na, nb⟩
  all_goals try (have ne := bne_is e; clear e)
  all_goals
    go_enter Try.func7, Try.ntmps7
    go_wp2_with (first | (go_at_call 6; (with_reducible refine (known_any _).mono ?_); rintro e w1 ⟨rfl, hb⟩; have HB := Lib.hid hb; clear hb) | (go_at_call 16; refine (bef_any _ _ _).mono ?_; rintro e w' ⟨rfl, rfl⟩) | (go_at_call 25; refine (isnan_any _ _).mono ?_; rintro e w' ⟨rfl, rfl⟩))
    go_ret
    exact ⟨rfl, HB.out⟩

set_option maxHeartbeats 4000000 in
theorem order_nil (a b c : Nat) (s : Option Addr) (cap : Nat) (w : World) :
    Calls Try.prog 7 #[.float .f64 a, .float .f64 b, .float .f64 c, .slice s 0 cap] w (YesB w) := by
  obtain ⟨z, ways⟩ := order_ways a b c
  rcases ways with ⟨p, q, r, t⟩ | ⟨p, q, r⟩ | ⟨p, q⟩ | ⟨p, q, e⟩ | ⟨p, q, e, na, nb⟩
  all_goals try (have ne := bne_is e; clear e)
  all_goals
    go_enter Try.func7, Try.ntmps7
    go_wp2_with (first | (go_at_call 6; (with_reducible refine (known_any _).mono ?_); rintro e w1 ⟨rfl, hb⟩; have HB := Lib.hid hb; clear hb) | (go_at_call 16; refine (bef_any _ _ _).mono ?_; rintro e w' ⟨rfl, rfl⟩) | (go_at_call 25; refine (isnan_any _ _).mono ?_; rintro e w' ⟨rfl, rfl⟩) | (go_at_call 18; refine (best_nil _ _ _).mono ?_; rintro e w' ⟨rfl, rfl⟩))
    go_ret
    exact ⟨rfl, HB.out⟩

/-- What is known of the best place. -/
theorem best_place {l : List Nat} (h0 : 0 < l.length) : bestI l = (bst l l.length : Nat) ∧ bst l l.length < l.length ∧ (∀ i, i < l.length → befB (l.getD i 0) (l.getD (bst l l.length) 0) = false) ∧ (∀ i, i < bst l l.length → befB (l.getD (bst l l.length) 0) (l.getD i 0) = true) := by
  obtain ⟨a, b, c⟩ := bst_facts l l.length h0
  refine ⟨by unfold bestI; rw [if_neg (by omega)], a, fun i hi => ?_, fun i hi => ?_⟩
  · have := b i hi
    unfold befB; rw [decide_eq_false_iff_not]; omega
  · have := c i hi
    unfold befB; rw [decide_eq_true_eq]; exact this

theorem best_at (b off cap m : Nat) (l : List Nat) (w : World) (hb : l.length ≤ 100) (hm : bestI l = (m : Int)) (hc : ∀ j, j < l.length → w.cell? ⟨b, off + j, none⟩ = some (.float .f64 (l.getD j 0))) :
    Calls Try.prog 18 #[.slice (some ⟨b, off, none⟩) l.length cap] w fun e w' => e = .returned (.int .i64 m) ∧ w = w' :=
  (best_row b off cap l w (by omega) hc).mono fun _ _ ⟨he, hw⟩ => ⟨by rw [he, hm], hw⟩

end Go.Proofs.Ytonjjblifcgapaa
