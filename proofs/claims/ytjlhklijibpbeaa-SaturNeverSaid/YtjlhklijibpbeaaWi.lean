/-
  The laws SaturKnown, SaturNever and SaturParts.
-/
import Derived.Test.YtjlhklijibpbeaaWh
namespace Go.Proofs.Ytjlhklijibpbeaa
open Go.RowKit
set_option linter.unusedVariables false

/-- 'true' is told; of what was there before nothing has turned. -/
def YesB (B : Nat) (w : World) (e : Ending) (w' : World) : Prop := e = .returned (.bool true) ∧ Below B w w'

set_option maxHeartbeats 1000000 in
theorem known_any (w : World) : Calls Try.prog 6 #[] w (YesB w.heap.size w) := by
  have f1 : cutI (-5) = 0 := by decide
  have f2 : cutI 9007199254740993 = 9007199254740992 := by decide
  have f3 : mulI 1073741824 1073741824 = 9007199254740992 := by decide
  have f4 : divI 7 0 = 9007199254740992 := by decide
  have f5 : divI 0 0 = 0 := by decide
  have f6 : scaleI 9007199254740992 3 4 = 6755399441055744 := by decide
  have f7 : scaleI 5 3 0 = 9007199254740992 := by decide
  have f8 : sumI [1, 2, -9, 3] = 6 := by decide
  have hI : ∀ n, HasInts ((w.alloc (.cells #[.int .i64 1, .int .i64 2, .int .i64 (-9), .int .i64 3] 3)).drewN n) (some ⟨w.heap.size, 0, none⟩) [1, 2, -9, 3] := by
    intro n
    refine .inr ⟨_, _, rfl, fun j hj => ?_⟩
    rw [World.cell?_drewN]
    match j, hj with
    | 0, _ => simp [go_sem]
    | 1, _ => simp [go_sem]
    | 2, _ => simp [go_sem]
    | 3, _ => simp [go_sem]
  have HI := Lib.hid hI
  clear hI
  go_enter Try.func6, Try.ntmps6
  go_wp2_with (first | (go_at_call 9; refine (satCut_any _ _).mono ?_; rintro e w' ⟨rfl, rfl⟩) | (go_at_call 15; refine (sMul _ _ _).mono ?_; rintro e w' ⟨k, rfl, rfl⟩) | (go_at_call 17; refine (sDiv _ _ _).mono ?_; rintro e w' ⟨k, rfl, rfl⟩) | (go_at_call 20; refine (satScale_any _ _ _ _).mono ?_; rintro e w' ⟨k, rfl, rfl⟩) | (go_at_call 19; refine (awake_any _).mono ?_; rintro e w' ⟨k, rfl, rfl⟩) | (go_at_call 22; refine (satSum_any _ _ _ [1, 2, -9, 3] _ rfl (by decide) (HI.out _)).mono ?_; rintro e w' ⟨rfl, rfl⟩))
  go_ret
  exact ⟨rfl, below_drewN ((Below.refl _ _).alloc (Nat.le_refl _) _) _⟩

set_option maxHeartbeats 400000 in
theorem count_any (n : Int) (w : World) (h0 : 0 ≤ n) (h1 : n ≤ 9007199254740992) : Calls Try.prog 24 #[.int .i64 n] w fun e w' => e = .returned (.bool true) ∧ w = w' := by
  go_enter Try.func24, Try.ntmps24
  go_wp2_with fail
  go_ret
  exact ⟨rfl, rfl⟩

/-! ### Counts never wrap: no Go in sight -/

theorem addI_bd (a b : Int) : 0 ≤ addI a b ∧ addI a b ≤ 9007199254740992 := cutI_bd _
theorem subI_bd (a b : Int) : 0 ≤ subI a b ∧ subI a b ≤ 9007199254740992 := cutI_bd _
theorem mulI_bd (a b : Int) : 0 ≤ mulI a b ∧ mulI a b ≤ 9007199254740992 := cutI_bd _
theorem scaleI_bd (a b c : Int) : 0 ≤ scaleI a b c ∧ scaleI a b c ≤ 9007199254740992 := by
  unfold scaleI
  split
  · split <;> omega
  · exact cutI_bd _
theorem divI_bd (a b : Int) : 0 ≤ divI a b ∧ divI a b ≤ 9007199254740992 := by rw [← scale_div]; exact scaleI_bd _ _ _

theorem cutI_cases (n : Int) : (n < 0 ∧ cutI n = 0) ∨ (9007199254740992 < n ∧ cutI n = 9007199254740992) ∨ (0 ≤ n ∧ n ≤ 9007199254740992 ∧ cutI n = n) := by
  unfold cutI
  split
  · exact .inl ⟨‹_›, rfl⟩
  · split
    · exact .inr (.inl ⟨‹_›, rfl⟩)
    · exact .inr (.inr ⟨by omega, by omega, rfl⟩)

theorem add_ge (a b : Int) : cutI a ≤ addI a b ∧ cutI b ≤ addI a b := by
  have ha := cutI_bd a; have hb := cutI_bd b
  unfold addI
  rcases cutI_cases (cutI a + cutI b) with h | h | h <;> omega
theorem sub_le (a b : Int) : subI a b ≤ cutI a := by
  have ha := cutI_bd a; have hb := cutI_bd b
  unfold subI
  rcases cutI_cases (cutI a - cutI b) with h | h | h <;> omega
theorem add_comm' (a b : Int) : addI b a = addI a b := by unfold addI; rw [Int.add_comm]
theorem mul_comm' (a b : Int) : mulI b a = mulI a b := by unfold mulI; rw [Int.mul_comm]
theorem cut_cut (n : Int) : cutI (cutI n) = cutI n := cut_id (cutI_bd n).1 (cutI_bd n).2
theorem add_assoc' (a b c : Int) : addI (addI a b) c = addI a (addI b c) := by
  have ha := cutI_bd a; have hb := cutI_bd b; have hc := cutI_bd c
  unfold addI
  rw [cut_cut, cut_cut]
  rcases cutI_cases (cutI a + cutI b) with h | h | h <;> rcases cutI_cases (cutI b + cutI c) with g | g | g <;>
    rcases cutI_cases (cutI (cutI a + cutI b) + cutI c) with k | k | k <;> rcases cutI_cases (cutI a + cutI (cutI b + cutI c)) with m | m | m <;> omega
theorem sub_back (a b : Int) (h : ¬ addI a b = 9007199254740992) : subI (addI a b) b = cutI a := by
  have ha := cutI_bd a; have hb := cutI_bd b
  unfold subI
  rw [show cutI (addI a b) = addI a b from cut_cut _]
  unfold addI at *
  rcases cutI_cases (cutI a + cutI b) with k | k | k <;> rcases cutI_cases (cutI (cutI a + cutI b) - cutI b) with m | m | m <;> omega

theorem mul_ge {x y : Int} (hx : 1 ≤ x) (hy : 1 ≤ y) : x ≤ x * y ∧ y ≤ x * y := by
  have h1 : x * 1 ≤ x * y := Int.mul_le_mul_of_nonneg_left hy (by omega)
  have h2 : 1 * y ≤ x * y := Int.mul_le_mul_of_nonneg_right hx (by omega)
  omega
theorem mulI_ge (a b : Int) (hx : 1 ≤ cutI a) (hy : 1 ≤ cutI b) : cutI a ≤ mulI a b ∧ cutI b ≤ mulI a b := by
  have ha := cutI_bd a; have hb := cutI_bd b
  have hm := mul_ge hx hy
  unfold mulI
  generalize cutI a * cutI b = p at *
  rcases cutI_cases p with h | h | h <;> omega
theorem cut_mul {p z : Int} (hp : 0 ≤ p) (hz : 0 ≤ z) : cutI (cutI p * z) = cutI (p * z) := by
  rcases cutI_cases p with h | h | h
  · omega
  · by_cases h0 : z = 0
    · subst h0; simp
    · rw [h.2]
      have h1 := (mul_ge (x := p) (y := z) (by omega) (by omega)).1
      have h2 := (mul_ge (x := 9007199254740992) (y := z) (by omega) (by omega)).1
      generalize p * z = q at *
      generalize 9007199254740992 * z = r at *
      rcases cutI_cases q with k | k | k <;> rcases cutI_cases r with m | m | m <;> omega
  · rw [h.2.2]
theorem mul_assoc' (a b c : Int) : mulI (mulI a b) c = mulI a (mulI b c) := by
  have ha := cutI_bd a; have hb := cutI_bd b; have hc := cutI_bd c
  unfold mulI
  rw [cut_cut, cut_cut, cut_mul (Int.mul_nonneg ha.1 hb.1) hc.1, Int.mul_comm (cutI a) (cutI (cutI b * cutI c)), cut_mul (Int.mul_nonneg hb.1 hc.1) ha.1]
  congr 1
  rw [Int.mul_assoc, Int.mul_comm (cutI a)]
theorem mul_none (a b : Int) (h : cutI a = 0 ∨ cutI b = 0) : mulI a b = 0 := by
  rcases h with h | h
  · exact mul_zero_l a b h
  · exact mul_zero_r a b h

/-- What is known of the law's numbers. -/
structure Never (a b c S R P Q D K L : Int) : Prop where
  s : addI a b = S
  r : subI a b = R
  p : mulI a b = P
  q : scaleI a b c = Q
  d : divI a b = D
  s2 : addI b a = S
  p2 : mulI b a = P
  k1 : addI S c = K
  k2 : addI a (addI b c) = K
  l1 : mulI P c = L
  l2 : mulI a (mulI b c) = L

set_option maxHeartbeats 1000000 in
theorem never_core (a b c S R P Q D K L x y : Int) (w : World) (hx : cutI a = x) (hy : cutI b = y) (H : Never a b c S R P Q D K L) (x0 : 0 ≤ x) (y0 : 0 ≤ y)
    (s0 : 0 ≤ S) (s1 : S ≤ 9007199254740992) (r0 : 0 ≤ R) (r1 : R ≤ 9007199254740992) (p0 : 0 ≤ P) (p1 : P ≤ 9007199254740992) (q0 : 0 ≤ Q) (q1 : Q ≤ 9007199254740992) (d0 : 0 ≤ D) (d1 : D ≤ 9007199254740992)
    (sx : x ≤ S) (sy : y ≤ S) (rx : R ≤ x) (pxy : 0 < x → 0 < y → x ≤ P ∧ y ≤ P) (pz : x = 0 ∨ y = 0 → P = 0) (hs : S = 9007199254740992 ∨ subI S b = x) :
    Calls Try.prog 7 #[.int .i64 a, .int .i64 b, .int .i64 c] w (YesB w.heap.size w) := by
  obtain ⟨es, er, ep, eq, ed, es2, ep2, ek1, ek2, el1, el2⟩ := H
  by_cases hz : x = 0 ∨ y = 0
  · have hp := pz hz
    subst hp
    clear pxy pz
    by_cases hx0 : x = 0
    · subst hx0
      clear hz
      by_cases hS : S = 9007199254740992
      · subst hS
        clear hs
        go_enter Try.func7, Try.ntmps7
        go_wp2_with (first | (go_at_call 6; refine (known_any _).mono ?_; rintro e w1 ⟨rfl, hbel⟩; have HB := Lib.hid hbel; clear hbel) | (go_at_call 9; refine (satCut_any _ _).mono ?_; rintro e w' ⟨rfl, rfl⟩) | (go_at_call 11; refine (sAdd _ _ _).mono ?_; rintro e w' ⟨rfl, rfl⟩) | (go_at_call 13; refine (sSub _ _ _).mono ?_; rintro e w' ⟨rfl, rfl⟩) | (go_at_call 15; refine (sMul _ _ _).mono ?_; rintro e w' ⟨k, rfl, rfl⟩) | (go_at_call 17; refine (sDiv _ _ _).mono ?_; rintro e w' ⟨k, rfl, rfl⟩) | (go_at_call 20; refine (satScale_any _ _ _ _).mono ?_; rintro e w' ⟨k, rfl, rfl⟩) | (go_at_call 24; refine (count_any _ _ (by omega) (by omega)).mono ?_; rintro e w' ⟨rfl, rfl⟩))
        go_ret
        exact ⟨rfl, below_drewN HB.out _⟩
      · have hs' : subI S b = 0 := by omega
        have eS : (S == 9007199254740992) = false := by simpa using hS
        clear hs hS
        go_enter Try.func7, Try.ntmps7
        go_wp2_with (first | (go_at_call 6; refine (known_any _).mono ?_; rintro e w1 ⟨rfl, hbel⟩; have HB := Lib.hid hbel; clear hbel) | (go_at_call 9; refine (satCut_any _ _).mono ?_; rintro e w' ⟨rfl, rfl⟩) | (go_at_call 11; refine (sAdd _ _ _).mono ?_; rintro e w' ⟨rfl, rfl⟩) | (go_at_call 13; refine (sSub _ _ _).mono ?_; rintro e w' ⟨rfl, rfl⟩) | (go_at_call 15; refine (sMul _ _ _).mono ?_; rintro e w' ⟨k, rfl, rfl⟩) | (go_at_call 17; refine (sDiv _ _ _).mono ?_; rintro e w' ⟨k, rfl, rfl⟩) | (go_at_call 20; refine (satScale_any _ _ _ _).mono ?_; rintro e w' ⟨k, rfl, rfl⟩) | (go_at_call 24; refine (count_any _ _ (by omega) (by omega)).mono ?_; rintro e w' ⟨rfl, rfl⟩))
        go_ret
        exact ⟨rfl, below_drewN HB.out _⟩
    · have hy0 : y = 0 := by omega
      subst hy0
      have ex : (x == 0) = false := by simpa using hx0
      have x1 : 1 ≤ x := by omega
      clear hz hx0
      by_cases hS : S = 9007199254740992
      · subst hS
        clear hs
        go_enter Try.func7, Try.ntmps7
        go_wp2_with (first | (go_at_call 6; refine (known_any _).mono ?_; rintro e w1 ⟨rfl, hbel⟩; have HB := Lib.hid hbel; clear hbel) | (go_at_call 9; refine (satCut_any _ _).mono ?_; rintro e w' ⟨rfl, rfl⟩) | (go_at_call 11; refine (sAdd _ _ _).mono ?_; rintro e w' ⟨rfl, rfl⟩) | (go_at_call 13; refine (sSub _ _ _).mono ?_; rintro e w' ⟨rfl, rfl⟩) | (go_at_call 15; refine (sMul _ _ _).mono ?_; rintro e w' ⟨k, rfl, rfl⟩) | (go_at_call 17; refine (sDiv _ _ _).mono ?_; rintro e w' ⟨k, rfl, rfl⟩) | (go_at_call 20; refine (satScale_any _ _ _ _).mono ?_; rintro e w' ⟨k, rfl, rfl⟩) | (go_at_call 24; refine (count_any _ _ (by omega) (by omega)).mono ?_; rintro e w' ⟨rfl, rfl⟩))
        go_ret
        exact ⟨rfl, below_drewN HB.out _⟩
      · have hs' : subI S b = x := by omega
        have eS : (S == 9007199254740992) = false := by simpa using hS
        clear hs hS
        go_enter Try.func7, Try.ntmps7
        go_wp2_with (first | (go_at_call 6; refine (known_any _).mono ?_; rintro e w1 ⟨rfl, hbel⟩; have HB := Lib.hid hbel; clear hbel) | (go_at_call 9; refine (satCut_any _ _).mono ?_; rintro e w' ⟨rfl, rfl⟩) | (go_at_call 11; refine (sAdd _ _ _).mono ?_; rintro e w' ⟨rfl, rfl⟩) | (go_at_call 13; refine (sSub _ _ _).mono ?_; rintro e w' ⟨rfl, rfl⟩) | (go_at_call 15; refine (sMul _ _ _).mono ?_; rintro e w' ⟨k, rfl, rfl⟩) | (go_at_call 17; refine (sDiv _ _ _).mono ?_; rintro e w' ⟨k, rfl, rfl⟩) | (go_at_call 20; refine (satScale_any _ _ _ _).mono ?_; rintro e w' ⟨k, rfl, rfl⟩) | (go_at_call 24; refine (count_any _ _ (by omega) (by omega)).mono ?_; rintro e w' ⟨rfl, rfl⟩))
        go_ret
        exact ⟨rfl, below_drewN HB.out _⟩
  · have ex : (x == 0) = false := by simp; omega
    have ey : (y == 0) = false := by simp; omega
    have x1 : 1 ≤ x := by omega
    have y1 : 1 ≤ y := by omega
    obtain ⟨px, py⟩ := pxy (by omega) (by omega)
    clear hz pxy pz
    by_cases hS : S = 9007199254740992
    · subst hS
      clear hs
      go_enter Try.func7, Try.ntmps7
      go_wp2_with (first | (go_at_call 6; refine (known_any _).mono ?_; rintro e w1 ⟨rfl, hbel⟩; have HB := Lib.hid hbel; clear hbel) | (go_at_call 9; refine (satCut_any _ _).mono ?_; rintro e w' ⟨rfl, rfl⟩) | (go_at_call 11; refine (sAdd _ _ _).mono ?_; rintro e w' ⟨rfl, rfl⟩) | (go_at_call 13; refine (sSub _ _ _).mono ?_; rintro e w' ⟨rfl, rfl⟩) | (go_at_call 15; refine (sMul _ _ _).mono ?_; rintro e w' ⟨k, rfl, rfl⟩) | (go_at_call 17; refine (sDiv _ _ _).mono ?_; rintro e w' ⟨k, rfl, rfl⟩) | (go_at_call 20; refine (satScale_any _ _ _ _).mono ?_; rintro e w' ⟨k, rfl, rfl⟩) | (go_at_call 24; refine (count_any _ _ (by omega) (by omega)).mono ?_; rintro e w' ⟨rfl, rfl⟩))
      go_ret
      exact ⟨rfl, below_drewN HB.out _⟩
    · have hs' : subI S b = x := by omega
      have eS : (S == 9007199254740992) = false := by simpa using hS
      clear hs hS
      go_enter Try.func7, Try.ntmps7
      go_wp2_with (first | (go_at_call 6; refine (known_any _).mono ?_; rintro e w1 ⟨rfl, hbel⟩; have HB := Lib.hid hbel; clear hbel) | (go_at_call 9; refine (satCut_any _ _).mono ?_; rintro e w' ⟨rfl, rfl⟩) | (go_at_call 11; refine (sAdd _ _ _).mono ?_; rintro e w' ⟨rfl, rfl⟩) | (go_at_call 13; refine (sSub _ _ _).mono ?_; rintro e w' ⟨rfl, rfl⟩) | (go_at_call 15; refine (sMul _ _ _).mono ?_; rintro e w' ⟨k, rfl, rfl⟩) | (go_at_call 17; refine (sDiv _ _ _).mono ?_; rintro e w' ⟨k, rfl, rfl⟩) | (go_at_call 20; refine (satScale_any _ _ _ _).mono ?_; rintro e w' ⟨k, rfl, rfl⟩) | (go_at_call 24; refine (count_any _ _ (by omega) (by omega)).mono ?_; rintro e w' ⟨rfl, rfl⟩))
      go_ret
      exact ⟨rfl, below_drewN HB.out _⟩

theorem never_any (a b c : Int) (w : World) : Calls Try.prog 7 #[.int .i64 a, .int .i64 b, .int .i64 c] w (YesB w.heap.size w) := by
  have h1 := addI_bd a b; have h2 := subI_bd a b; have h3 := mulI_bd a b; have h4 := scaleI_bd a b c; have h5 := divI_bd a b
  have h6 := add_ge a b; have h7 := sub_le a b; have h8 := cutI_bd a; have h9 := cutI_bd b
  exact never_core a b c _ _ _ _ _ _ _ _ _ w rfl rfl ⟨rfl, rfl, rfl, rfl, rfl, add_comm' a b, mul_comm' a b, rfl, (add_assoc' a b c).symm, rfl, (mul_assoc' a b c).symm⟩ h8.1 h9.1
    h1.1 h1.2 h2.1 h2.2 h3.1 h3.2 h4.1 h4.2 h5.1 h5.2 h6.1 h6.2 h7 (fun hx hy => mulI_ge a b (by omega) (by omega)) (mul_none a b)
    (by by_cases h : addI a b = 9007199254740992
        · exact .inl h
        · exact .inr (sub_back a b h))

end Go.Proofs.Ytjlhklijibpbeaa
