/-
  Walks over Best of the program and of the reference, over a slice whose cells are known: both tell bestI.
-/
import Derived.Test.YtonjjblifcgapaaWc
namespace Go.Proofs.Ytonjjblifcgapaa
open Go.RowKit
set_option linter.unusedVariables false

/-- A slice's value of 'l.length' elements, which read as l. -/
def HasFs (w : World) (a : Option Addr) (l : List Nat) : Prop :=
  l = [] ∨ ∃ b off, a = some ⟨b, off, none⟩ ∧ ∀ j, j < l.length → w.cell? ⟨b, off + j, none⟩ = some (.float .f64 (l.getD j 0))

/-- The best place among the first 'k', -1 of none. -/
def bestK (l : List Nat) (k : Nat) : Int := if k = 0 then -1 else bst l k

theorem bestK_len (l : List Nat) : bestK l l.length = bestI l := rfl

theorem bestK_one (l : List Nat) : bestK l (0 + 1) = 0 := by
  unfold bestK bst
  rw [if_neg (by omega)]
  show ((if rk (l.getD 0 0) < rk (l.getD 0 0) then 0 else 0 : Nat) : Int) = 0
  simp

theorem bestK_new (l : List Nat) (k : Nat) (h0 : 0 < k) (h : befB (l.getD k 0) (l.getD (bst l k) 0) = true) : bestK l (k + 1) = k := by
  unfold befB at h
  unfold bestK
  rw [if_neg (by omega)]
  show ((if rk (l.getD k 0) < rk (l.getD (bst l k) 0) then k else bst l k : Nat) : Int) = k
  rw [if_pos (by simpa using h)]

theorem bestK_old (l : List Nat) (k : Nat) (h0 : 0 < k) (h : befB (l.getD k 0) (l.getD (bst l k) 0) = false) : bestK l (k + 1) = bst l k := by
  unfold befB at h
  unfold bestK
  rw [if_neg (by omega)]
  show ((if rk (l.getD k 0) < rk (l.getD (bst l k) 0) then k else bst l k : Nat) : Int) = bst l k
  rw [if_neg (by simpa using h)]

set_option maxHeartbeats 400000 in
theorem best_nil (a : Option Addr) (cap : Nat) (w : World) : Calls Try.prog 18 #[.slice a 0 cap] w fun e w' => e = .returned (.int .i64 (-1)) ∧ w = w' := by
  go_enter Try.func18, Try.ntmps18
  go_wp2_with fail
  go_loop [3, 8] (fun t i => i = .int .i64 0 ∧ t = .int .i64 (-1)) (fun _ _ => 0)
  case atStart => exact ⟨rfl, rfl⟩
  case round =>
    obtain ⟨rfl, rfl⟩ := hrel
    go_wp2_with fail
    go_ret
    exact ⟨rfl, rfl⟩

set_option maxHeartbeats 1000000 in
theorem best_row (b off cap : Nat) (l : List Nat) (w : World) (hb : l.length ≤ 9223372036854775807) (hc : ∀ j, j < l.length → w.cell? ⟨b, off + j, none⟩ = some (.float .f64 (l.getD j 0))) :
    Calls Try.prog 18 #[.slice (some ⟨b, off, none⟩) l.length cap] w fun e w' => e = .returned (.int .i64 (bestI l)) ∧ w = w' := by
  have HC := Lib.hid hc
  clear hc
  go_enter Try.func18, Try.ntmps18
  go_wp2_with fail
  go_loop [3, 4, 5, 8] (fun t _ _ i => ∃ k : Nat, k ≤ l.length ∧ i = .int .i64 k ∧ t = .int .i64 (bestK l k)) (fun _ _ _ i => l.length - (intOf i).toNat)
  case atStart => exact ⟨0, Nat.zero_le _, rfl, rfl⟩
  case round =>
    obtain ⟨k, hk, rfl, rfl⟩ := hrel
    by_cases hlt : k < l.length
    · have hcell := HC.out k hlt
      by_cases h0 : k = 0
      · subst h0
        have HS := Lib.hid (bestK_one l)
        have e0 : bestK l 0 = -1 := rfl
        rw [e0]
        clear e0
        rw [Nat.add_zero] at hcell
        obtain ⟨x, hx⟩ : ∃ x, l.getD 0 0 = x := ⟨_, rfl⟩
        rw [hx] at hcell
        clear hx
        go_wp2_with fail
        go_round
        case rel => exact ⟨0 + 1, by omega, by go_num, by rw [HS.out]; rfl⟩
        case measure => simp [intOf]; omega
      · have hm := (bst_facts l k (by omega)).1
        have hcm := HC.out (bst l k) (by omega)
        have e0 : bestK l k = bst l k := by unfold bestK; rw [if_neg h0]
        rw [e0]
        clear e0
        cases hg : befB (l.getD k 0) (l.getD (bst l k) 0) with
        | true =>
          have HS := Lib.hid (bestK_new l k (by omega) hg)
          obtain ⟨x, hx⟩ : ∃ x, l.getD k 0 = x := ⟨_, rfl⟩
          obtain ⟨y, hy⟩ : ∃ y, l.getD (bst l k) 0 = y := ⟨_, rfl⟩
          rw [hx, hy] at hg
          rw [hx] at hcell
          rw [hy] at hcm
          clear hx hy
          generalize bst l k = m at *
          go_wp2_with (go_at_call 16; refine (bef_any _ _ _).mono ?_; rintro e w' ⟨rfl, rfl⟩)
          go_round
          case rel => exact ⟨k + 1, by omega, by go_num, by rw [HS.out]⟩
          case measure => simp [intOf]; omega
        | false =>
          have HS := Lib.hid (bestK_old l k (by omega) hg)
          obtain ⟨x, hx⟩ : ∃ x, l.getD k 0 = x := ⟨_, rfl⟩
          obtain ⟨y, hy⟩ : ∃ y, l.getD (bst l k) 0 = y := ⟨_, rfl⟩
          rw [hx, hy] at hg
          rw [hx] at hcell
          rw [hy] at hcm
          clear hx hy
          generalize bst l k = m at *
          go_wp2_with (go_at_call 16; refine (bef_any _ _ _).mono ?_; rintro e w' ⟨rfl, rfl⟩)
          go_round
          case rel => exact ⟨k + 1, by omega, by go_num, by rw [HS.out]⟩
          case measure => simp [intOf]; omega
    · obtain rfl : k = l.length := by omega
      go_wp2_with fail
      go_ret
      exact ⟨ret_i (bestK_len l), rfl⟩

theorem rbef_quiet (a b : Nat) (v : Bool) (h : befB a b = v) (w : World) : Calls Try.prog 17 #[.float .f64 a, .float .f64 b] w fun e w' => e = .returned (.bool v) ∧ w' = w :=
  (rbef_any a b w).mono fun _ _ ⟨he, hw⟩ => ⟨by rw [he, h], hw.symm⟩

set_option maxHeartbeats 400000 in
theorem rbest_nil (a : Option Addr) (cap : Nat) (w : World) : Calls Try.prog 19 #[.slice a 0 cap] w fun e w' => e = .returned (.int .i64 (-1)) ∧ w = w' := by
  go_enter Try.func19, Try.ntmps19
  go_wp2_with fail
  go_loop [3] (fun i => i = .int .i64 0) (fun _ => 0)
  case atStart => rfl
  case round =>
    obtain rfl := hrel
    go_wp2_with fail
    go_ret
    exact ⟨rfl, rfl⟩

/-- Is none of the first 'k' before the 'i'th? -/
def noB (l : List Nat) (i k : Nat) : Bool := decide (∀ j, j < k → ¬ rk (l.getD j 0) < rk (l.getD i 0))

theorem noB_zero (l : List Nat) (i : Nat) : noB l i 0 = true := by
  unfold noB; simp

theorem noB_yes (l : List Nat) (i k : Nat) (h : befB (l.getD k 0) (l.getD i 0) = true) : noB l i (k + 1) = false := by
  unfold befB at h
  unfold noB
  rw [decide_eq_false_iff_not]
  intro g
  exact g k (by omega) (by simpa using h)

theorem noB_no (l : List Nat) (i k : Nat) (h : befB (l.getD k 0) (l.getD i 0) = false) : noB l i (k + 1) = noB l i k := by
  unfold befB at h
  have h' : ¬ rk (l.getD k 0) < rk (l.getD i 0) := by simpa using h
  unfold noB
  rw [decide_eq_decide]
  refine ⟨fun g j hj => g j (by omega), fun g j hj => ?_⟩
  by_cases e : j = k
  · subst e; exact h'
  · exact g j (by omega)

/-- None up to 'i' is such that none is before it. -/
def Past (l : List Nat) (i : Nat) : Prop := ∀ j, j < i → noB l j l.length = false
theorem past_zero (l : List Nat) : Past l 0 := fun j hj => by omega
theorem past_succ {l : List Nat} {i : Nat} (h : Past l i) (g : noB l i l.length = false) : Past l (i + 1) := fun j hj => by
  by_cases e : j = i
  · subst e; exact g
  · exact h j (by omega)

theorem noB_ex {l : List Nat} {j : Nat} (h : noB l j l.length = false) : ∃ i, i < l.length ∧ rk (l.getD i 0) < rk (l.getD j 0) := by
  unfold noB at h
  rw [decide_eq_false_iff_not] at h
  refine Classical.byContradiction fun g => h fun i hi hlt => g ⟨i, hi, hlt⟩

theorem found {l : List Nat} {i : Nat} (hi : i < l.length) (h : Past l i) (g : noB l i l.length = true) : (i : Int) = bestI l := by
  refine (bst_only l i hi (fun j hj => ?_) (fun j hj => noB_ex (h j hj))).symm
  unfold noB at g
  have := (decide_eq_true_eq.mp g) j hj
  omega

theorem not_past {l : List Nat} (h0 : 0 < l.length) (h : Past l l.length) : False := by
  obtain ⟨a, b, _⟩ := bst_facts l l.length h0
  obtain ⟨i, hi, hlt⟩ := noB_ex (h _ a)
  have := b i hi
  omega

/-- The world, but for draws. -/
def Drawn (w wr : World) : Prop := ∃ m, wr = w.drewN m
theorem drawn_none (w : World) : Drawn w w := ⟨0, rfl⟩
theorem drawn_more {w wr : World} (h : Drawn w wr) (n : Nat) : Drawn w (wr.drewN n) := by
  obtain ⟨m, rfl⟩ := h
  exact ⟨m + n, World.drewN_drewN ..⟩
theorem drawn_cell {w wr : World} (h : Drawn w wr) {a : Addr} {v : Value} (g : w.cell? a = some v) : wr.cell? a = some v := by
  obtain ⟨m, rfl⟩ := h
  exact g

set_option maxHeartbeats 2000000 in
theorem rbest_row (b off cap : Nat) (l : List Nat) (w : World) (hb : l.length ≤ 9223372036854775806) (h0 : 0 < l.length) (hc : ∀ j, j < l.length → w.cell? ⟨b, off + j, none⟩ = some (.float .f64 (l.getD j 0))) :
    Calls Try.prog 19 #[.slice (some ⟨b, off, none⟩) l.length cap] w (TellsI (bestI l) w) := by
  have HC := Lib.hid hc
  clear hc
  go_enter Try.func19, Try.ntmps19
  go_wp2_with fail
  go_loopw [3, 4, 5] (fun t _ _ wr => ∃ i : Nat, i ≤ l.length ∧ t = .int .i64 i ∧ Hid (Drawn w wr) ∧ Hid (Past l i)) (fun t _ _ _ => l.length - (intOf t).toNat)
  case atStart => exact ⟨0, Nat.zero_le _, rfl, Lib.hid (drawn_none w), Lib.hid (past_zero l)⟩
  case round =>
    obtain ⟨i, hi, rfl, HV, HP⟩ := hrel
    by_cases hlt : i < l.length
    · go_wp2_with fail
      obtain ⟨wo, rfl⟩ : ∃ wo : World, wo = wr := ⟨_, rfl⟩
      go_loopw [4, 5] (fun f t wr => ∃ k : Nat, k ≤ l.length ∧ t = .int .i64 k ∧ f = .bool (noB l i k) ∧ Hid (Drawn w wr)) (fun _ t _ => l.length - (intOf t).toNat)
      case atStart => exact ⟨0, Nat.zero_le _, rfl, by rw [noB_zero], HV⟩
      case round =>
        obtain ⟨k, hk, rfl, rfl, HW⟩ := hrel
        by_cases hkt : k < l.length
        · have ci := drawn_cell HW.out (HC.out i hlt)
          have ck := drawn_cell HW.out (HC.out k hkt)
          cases hg : befB (l.getD k 0) (l.getD i 0) with
          | true =>
            have HS := Lib.hid (noB_yes l i k hg)
            obtain ⟨x, hx⟩ : ∃ x, l.getD k 0 = x := ⟨_, rfl⟩
            obtain ⟨y, hy⟩ : ∃ y, l.getD i 0 = y := ⟨_, rfl⟩
            rw [hx, hy] at hg
            rw [hx] at ck
            rw [hy] at ci
            have HG := Lib.hid hg
            clear hx hy hg
            go_wp2_with fail
            go_quiet ((go_at_call 17; exact Calls.quiet_of_same (rbef_quiet _ _ true HG.out _)))
            go_wp2_with fail
            go_roundw
            case rel => exact ⟨k + 1, by omega, by go_num, by rw [HS.out], Lib.hid (drawn_more HW.out _)⟩
            case measure => simp [intOf]; omega
          | false =>
            have HS := Lib.hid (noB_no l i k hg)
            obtain ⟨x, hx⟩ : ∃ x, l.getD k 0 = x := ⟨_, rfl⟩
            obtain ⟨y, hy⟩ : ∃ y, l.getD i 0 = y := ⟨_, rfl⟩
            rw [hx, hy] at hg
            rw [hx] at ck
            rw [hy] at ci
            have HG := Lib.hid hg
            clear hx hy hg
            go_wp2_with fail
            go_quiet ((go_at_call 17; exact Calls.quiet_of_same (rbef_quiet _ _ false HG.out _)))
            go_wp2_with fail
            go_roundw
            case rel => exact ⟨k + 1, by omega, by go_num, by rw [HS.out], Lib.hid (drawn_more HW.out _)⟩
            case measure => simp [intOf]; omega
        · obtain rfl : k = l.length := by omega
          cases hg : noB l i l.length with
          | true =>
            have HF := Lib.hid (found hlt HP.out hg)
            clear hg
            go_wp2_with fail
            go_ret
            obtain ⟨q, hq⟩ := HW.out
            exact ⟨q, ret_i HF.out, hq⟩
          | false =>
            have HN := Lib.hid (past_succ HP.out hg)
            clear hg
            go_wp2_with fail
            go_roundw
            case rel => exact ⟨i + 1, by omega, by go_num, HW, HN⟩
            case measure => simp [intOf]; omega
    · exfalso
      obtain rfl : i = l.length := by omega
      exact not_past h0 HP.out

end Go.Proofs.Ytonjjblifcgapaa
