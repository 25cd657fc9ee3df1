/-
  Sum of satur and of the reference, over a slice whose cells are known: both return sumI; the law SaturSums.
-/
import Derived.Test.YtjlhklijibpbeaaWg
import Derived.Laws.AppendOwnNone
namespace Go.Proofs.Ytjlhklijibpbeaa
open Go.RowKit
set_option linter.unusedVariables false

/-- What Sum tells of a list. -/
def sumI (l : List Int) : Int := l.foldl addI 0

/-- A slice's value of 'l.length' elements, which read as l. -/
def HasInts (w : World) (a : Option Addr) (l : List Int) : Prop :=
  l = [] ∨ ∃ b off, a = some ⟨b, off, none⟩ ∧ ∀ j, j < l.length → w.cell? ⟨b, off + j, none⟩ = some (.int .i64 (l.getD j 0))

theorem sumI_snoc (l : List Int) (k : Nat) (h : k < l.length) : sumI (l.take (k + 1)) = addI (sumI (l.take k)) l[k] := by
  unfold sumI
  rw [List.take_add_one, List.foldl_append]
  simp [List.getElem?_eq_getElem h]

set_option maxHeartbeats 400000 in
theorem satSum_nil (a : Option Addr) (cap : Nat) (w : World) : Calls Try.prog 22 #[.slice a 0 cap] w fun e w' => e = .returned (.int .i64 (sumI [])) ∧ w = w' := by
  go_enter Try.func22, Try.ntmps22
  go_wp2_with fail
  go_loop [3, 8] (fun t i => i = .int .i64 0 ∧ t = .int .i64 0) (fun _ _ => 0)
  case atStart => exact ⟨rfl, rfl⟩
  case round =>
    obtain ⟨rfl, rfl⟩ := hrel
    go_wp2_with fail
    go_ret
    exact ⟨rfl, rfl⟩

set_option maxHeartbeats 400000 in
theorem refSum_nil (a : Option Addr) (cap : Nat) (w : World) : Calls Try.prog 23 #[.slice a 0 cap] w fun e w' => e = .returned (.int .i64 (sumI [])) ∧ w = w' := by
  go_enter Try.func23, Try.ntmps23
  go_wp2_with fail
  go_loop [3, 4] (fun t i => i = .int .i64 0 ∧ t = .int .i64 0) (fun _ _ => 0)
  case atStart => exact ⟨rfl, rfl⟩
  case round =>
    obtain ⟨rfl, rfl⟩ := hrel
    go_wp2_with fail
    go_ret
    exact ⟨rfl, rfl⟩

set_option maxHeartbeats 400000 in
theorem satSum_row (b off cap : Nat) (l : List Int) (w : World) (hb : l.length ≤ 9223372036854775807) (hc : ∀ j, j < l.length → w.cell? ⟨b, off + j, none⟩ = some (.int .i64 (l.getD j 0))) :
    Calls Try.prog 22 #[.slice (some ⟨b, off, none⟩) l.length cap] w fun e w' => e = .returned (.int .i64 (sumI l)) ∧ w = w' := by
  have HC := Lib.hid hc
  clear hc
  go_enter Try.func22, Try.ntmps22
  go_wp2_with fail
  go_loop [3, 5, 8] (fun t _ i => ∃ k : Nat, k ≤ l.length ∧ i = .int .i64 k ∧ t = .int .i64 (sumI (l.take k))) (fun _ _ i => l.length - (intOf i).toNat)
  case atStart => exact ⟨0, Nat.zero_le _, rfl, rfl⟩
  case round =>
    obtain ⟨k, hk, rfl, rfl⟩ := hrel
    by_cases hlt : k < l.length
    · have hcell := HC.out k hlt
      have HS := Lib.hid (sumI_snoc l k hlt)
      go_wp2_with (go_at_call 11; refine (sAdd _ _ _).mono ?_; rintro e w' ⟨rfl, rfl⟩)
      go_round
      case rel => exact ⟨k + 1, by omega, by go_num, by rw [HS.out]⟩
      case measure => simp [intOf]; omega
    · go_wp2_with fail
      go_ret
      exact ⟨ret_i (by rw [List.take_of_length_le (by omega)]), rfl⟩

set_option maxHeartbeats 400000 in
theorem refSum_row (b off cap : Nat) (l : List Int) (w : World) (hb : l.length ≤ 9223372036854775807) (hc : ∀ j, j < l.length → w.cell? ⟨b, off + j, none⟩ = some (.int .i64 (l.getD j 0))) :
    Calls Try.prog 23 #[.slice (some ⟨b, off, none⟩) l.length cap] w fun e w' => e = .returned (.int .i64 (sumI l)) ∧ w = w' := by
  have HC := Lib.hid hc
  clear hc
  go_enter Try.func23, Try.ntmps23
  go_wp2_with fail
  go_loop [3, 4] (fun t i => ∃ k : Nat, k ≤ l.length ∧ i = .int .i64 k ∧ t = .int .i64 (sumI (l.take k))) (fun _ i => l.length - (intOf i).toNat)
  case atStart => exact ⟨0, Nat.zero_le _, rfl, rfl⟩
  case round =>
    obtain ⟨k, hk, rfl, rfl⟩ := hrel
    by_cases hlt : k < l.length
    · have hcell := HC.out k hlt
      have HS := Lib.hid (sumI_snoc l k hlt)
      go_wp2_with (go_at_call 12; refine (rAdd _ _ _).mono ?_; rintro e w' ⟨rfl, rfl⟩)
      go_round
      case rel => exact ⟨k + 1, by omega, by go_num, by rw [HS.out]⟩
      case measure => simp [intOf]; omega
    · go_wp2_with fail
      go_ret
      exact ⟨ret_i (by rw [List.take_of_length_le (by omega)]), rfl⟩

theorem satSum_any (a : Option Addr) (n cap : Nat) (l : List Int) (w : World) (hn : l.length = n) (hb : l.length ≤ 9223372036854775807) (h : HasInts w a l) :
    Calls Try.prog 22 #[.slice a n cap] w fun e w' => e = .returned (.int .i64 (sumI l)) ∧ w = w' := by
  subst hn
  rcases h with rfl | ⟨b, off, rfl, hc⟩
  · exact satSum_nil a cap w
  · exact satSum_row b off cap l w hb hc

theorem refSum_any (a : Option Addr) (n cap : Nat) (l : List Int) (w : World) (hn : l.length = n) (hb : l.length ≤ 9223372036854775807) (h : HasInts w a l) :
    Calls Try.prog 23 #[.slice a n cap] w fun e w' => e = .returned (.int .i64 (sumI l)) ∧ w = w' := by
  subst hn
  rcases h with rfl | ⟨b, off, rfl, hc⟩
  · exact refSum_nil a cap w
  · exact refSum_row b off cap l w hb hc

theorem has_later {w w1 : World} {a : Option Addr} {l : List Int} (hb : Below w.heap.size w w1) (h : HasInts w a l) : HasInts w1 a l := by
  rcases h with rfl | ⟨b, off, rfl, hc⟩
  · exact .inl rfl
  · exact .inr ⟨b, off, rfl, fun j hj => cell_later hb (hc j hj)⟩

theorem Try.info3 : (Try.prog.info? 3).map (fun i => (i.zero, i.size, i.bytes)) = some (some (.int .i64 0), 1, 8) := by kernel_rfl

theorem owned_form {w w1 : World} {v' : Value} {l : List Int} (B : Nat) (hown : w1.ownsRow B 3 1 v' l.length (l.map (Value.int .i64))) (hne : ¬ v' = .slice none 0 0) :
    ∃ g cap', v' = .slice (some ⟨g, 0, none⟩) l.length cap' ∧ ∀ j, j < l.length → w1.cell? ⟨g, 0 + j, none⟩ = some (.int .i64 (l.getD j 0)) := by
  rcases hown.2 with ⟨hv, _⟩ | ⟨g, cap', cur, hv, _⟩
  · exact absurd hv hne
  · refine ⟨g, cap', hv, fun j hj => ?_⟩
    have := hown.cells (g := g) (by rw [hv]; rfl) j (.int .i64 (l.getD j 0)) (by rw [List.getElem?_map, List.getElem?_eq_getElem hj, List.getD, List.getElem?_eq_getElem hj]; rfl)
    rw [WideShapes.add_plain] at this
    exact this

set_option maxHeartbeats 1000000 in
theorem sums_row (b off : Nat) (cap : Nat) (l : List Int) (w : World) (hb : l.length ≤ 1000) (h : HasInts w (some ⟨b, off, none⟩) l) :
    Calls Try.prog 5 #[.slice (some ⟨b, off, none⟩) l.length cap] w fun e w' => e = .returned (.bool true) ∧ Below w.heap.size w w' := by
  obtain ⟨i0, hi, hz0, hz1, hz2⟩ := info_parts Try.info3
  have hx : ∀ j, j < l.length → w.cell? ⟨b, off + j, none⟩ = some (.int .i64 (l.getD j 0)) := by
    intro j hj
    rcases h with rfl | ⟨b', off', he, hc⟩
    · simp at hj
    · simp at he
      obtain ⟨rfl, rfl⟩ := he
      exact hc j hj
  have hnews : ∀ j u, (l.map (Value.int .i64))[j]? = some u → w.cell? ((⟨b, off, none⟩ : Addr).add j) = some u := by
    intro j u hu
    rw [List.getElem?_map] at hu
    obtain ⟨n, hn, rfl⟩ := Option.map_eq_some_iff.mp hu
    have hj : j < l.length := (List.getElem?_eq_some_iff.mp hn).1
    rw [WideShapes.add_plain, hx j hj, List.getD, hn]; rfl
  have hone : ∀ u ∈ l.map (Value.int .i64), u.oneCell' = true := by
    intro u hu
    obtain ⟨n, _, rfl⟩ := List.mem_map.mp hu
    rfl
  have HN := Lib.hid hnews
  have HO := Lib.hid hone
  have HI := Lib.hid h
  have HX := Lib.hid hx
  clear hnews hone hx h
  have hbA : Below w.heap.size w (w.alloc (.cells #[] 3)) := (Below.refl _ _).alloc (Nat.le_refl _) _
  have HB := Lib.hid hbA
  clear hbA
  go_enter Try.func5, Try.ntmps5
  go_wp2_with (at_builtin; refine wpList_append_own _ rfl _ _ 28 rfl (w.heap.size) 3 i0 (.int .i64 0) 1 8 Try.underlying28 hi hz0 hz1 hz2 rfl (by decide) _ 0 [] rfl ?c0 ⟨b, off, none⟩ l.length cap (l.map (Value.int .i64)) rfl ?c1 ?c2 HO.out ?c4 ?c5 ?c6 ?_)
  case c0 => exact World.ownsRow_made w #[] 0 (Nat.le_refl _) (by decide) (by simp)
  case c1 => simp
  case c2 => exact fun j u hu => cell_later HB.out (HN.out j u hu)
  case c4 => unfold maxLen; omega
  case c5 => omega
  case c6 => simp
  intro v' w1 hown hgr hne
  have hBel : Below w.heap.size w w1 := HB.out.grown hgr (by simp) (by intro k hk; simp [Value.ownBlock] at hk; omega)
  have hI1 : HasInts w1 (some ⟨b, off, none⟩) l := has_later hBel HI.out
  obtain ⟨g, cap', hv, hg⟩ := owned_form (w := w) w.heap.size hown hne
  have hI2 : HasInts w1 (some ⟨g, 0, none⟩) l := .inr ⟨g, 0, rfl, hg⟩
  rw [hv]
  have H1 := Lib.hid hI1
  have H2 := Lib.hid hI2
  have HG := Lib.hid hg
  have HBel := Lib.hid hBel
  clear hI1 hI2 hg hBel hv hgr hown hne
  go_wp2_with (first | (go_at_call 22; refine (satSum_any _ _ _ _ _ rfl (by omega) H2.out).mono ?_; rintro e w' ⟨rfl, rfl⟩) | (go_at_call 23; refine (refSum_any _ _ _ _ _ rfl (by omega) H1.out).mono ?_; rintro e w' ⟨rfl, rfl⟩))
  go_loopw [4] (fun i wr => ∃ k n : Nat, k ≤ l.length ∧ i = .int .i64 k ∧ wr = w1.drewN n) (fun i _ => l.length - (intOf i).toNat)
  case atStart => exact ⟨0, 0, Nat.zero_le _, rfl, rfl⟩
  case round =>
    obtain ⟨k, n, hk, rfl, rfl⟩ := hrel
    by_cases hlt : k < l.length
    · have c1 : w1.cell? ⟨g, k, none⟩ = some (.int .i64 (l.getD k 0)) := by have := HG.out k hlt; rwa [Nat.zero_add] at this
      have c2 : w1.cell? ⟨b, off + k, none⟩ = some (.int .i64 (l.getD k 0)) := cell_later HBel.out (HX.out k hlt)
      go_wp2_with fail
      go_quiet (fail)
      go_wp2_with fail
      go_roundw
      case rel => exact ⟨k + 1, _, by omega, by go_num, rfl⟩
      case measure => simp [intOf]; omega
    · go_wp2_with (go_at_call 19; refine (awake_any _).mono ?_; rintro e w' ⟨k, rfl, rfl⟩)
      go_ret
      exact ⟨rfl, below_drewN HBel.out _⟩

theorem big_any (a : Option Addr) (n cap : Nat) (w : World) (hb : 1000 < n) :
    Calls Try.prog 5 #[.slice a n cap] w fun e w' => e = .returned (.bool true) ∧ Below w.heap.size w w' := by
  go_enter Try.func5, Try.ntmps5
  go_wp2_with (go_at_call 19; refine (awake_any _).mono ?_; rintro e w' ⟨k, rfl, rfl⟩)
  go_ret
  exact ⟨rfl, below_drewN (Below.refl _ _) _⟩

set_option maxHeartbeats 1000000 in
theorem sums_empty (x : Addr) (cap : Nat) (w : World) :
    Calls Try.prog 5 #[.slice (some x) 0 cap] w fun e w' => e = .returned (.bool true) ∧ Below w.heap.size w w' := by
  obtain ⟨i0, hi, hz0, hz1, hz2⟩ := info_parts Try.info3
  have hbA : Below w.heap.size w (w.alloc (.cells #[] 3)) := (Below.refl _ _).alloc (Nat.le_refl _) _
  have HB := Lib.hid hbA
  clear hbA
  go_enter Try.func5, Try.ntmps5
  go_wp2_with (at_builtin; refine wpList_append_own _ rfl _ _ 28 rfl (w.heap.size) 3 i0 (.int .i64 0) 1 8 Try.underlying28 hi hz0 hz1 hz2 rfl (by decide) _ 0 [] rfl ?c0 x 0 cap [] rfl ?c1 ?c2 (by simp) ?c4 ?c5 ?c6 ?_)
  case c0 => exact World.ownsRow_made w #[] 0 (Nat.le_refl _) (by decide) (by simp)
  case c1 => simp
  case c2 => intro j u hu; simp at hu
  case c4 => unfold maxLen; omega
  case c5 => omega
  case c6 => simp
  intro v' w1 hown hgr hne
  have hBel : Below w.heap.size w w1 := HB.out.grown hgr (by simp) (by intro k hk; simp [Value.ownBlock] at hk; omega)
  obtain ⟨g, cap', hv, _⟩ := owned_form (w := w) (l := []) w.heap.size hown hne
  rw [List.length_nil] at hv
  rw [hv]
  have HBel := Lib.hid hBel
  clear hBel hv hgr hown hne
  go_wp2_with (first | (go_at_call 22; refine (satSum_nil _ _ _).mono ?_; rintro e w' ⟨rfl, rfl⟩) | (go_at_call 23; refine (refSum_nil _ _ _).mono ?_; rintro e w' ⟨rfl, rfl⟩))
  go_loopw [4] (fun i wr => i = .int .i64 0 ∧ wr = w1) (fun i _ => 0)
  case atStart => exact ⟨rfl, rfl⟩
  case round =>
    obtain ⟨rfl, rfl⟩ := hrel
    go_wp2_with (go_at_call 19; refine (awake_any _).mono ?_; rintro e w' ⟨k, rfl, rfl⟩)
    go_ret
    exact ⟨rfl, below_drewN HBel.out _⟩

set_option maxHeartbeats 1000000 in
theorem sums_none (w : World) :
    Calls Try.prog 5 #[.slice none 0 0] w fun e w' => e = .returned (.bool true) ∧ Below w.heap.size w w' := by
  obtain ⟨i0, hi, hz0, hz1, hz2⟩ := info_parts Try.info3
  have hbA : Below w.heap.size w (w.alloc (.cells #[] 3)) := (Below.refl _ _).alloc (Nat.le_refl _) _
  have HB := Lib.hid hbA
  clear hbA
  go_enter Try.func5, Try.ntmps5
  go_wp2_with (at_builtin; refine wpList_append_own_none rfl _ _ 28 rfl (w.heap.size) 3 i0 1 Try.underlying28 hi _ 0 [] rfl ?c0 rfl ?_)
  case c0 => exact World.ownsRow_made w #[] 0 (Nat.le_refl _) (by decide) (by simp)
  go_wp2_with (first | (go_at_call 22; refine (satSum_nil _ _ _).mono ?_; rintro e w' ⟨rfl, rfl⟩) | (go_at_call 23; refine (refSum_nil _ _ _).mono ?_; rintro e w' ⟨rfl, rfl⟩))
  go_loopw [4] (fun i wr => i = .int .i64 0 ∧ wr = w.alloc (.cells #[] 3)) (fun i _ => 0)
  case atStart => exact ⟨rfl, rfl⟩
  case round =>
    obtain ⟨rfl, rfl⟩ := hrel
    go_wp2_with (go_at_call 19; refine (awake_any _).mono ?_; rintro e w' ⟨k, rfl, rfl⟩)
    go_ret
    exact ⟨rfl, below_drewN HB.out _⟩

end Go.Proofs.Ytjlhklijibpbeaa
