/-
  Within, Compare of the program.
-/
import Derived.Test.YtibaeklpgfadpaaTr
namespace Go.Proofs.Ytibaeklpgfadpaa
open Go.RowKit Go.Shelf
set_option linter.unusedVariables false
set_option linter.unusedSimpArgs false

def wthn (n z : List UInt8) : Bool := decide (chk n = 0 ∧ chk z = 0 ∧ (down n).take (down z).length = down z)
def ncmp (a b : List UInt8) : Int := if chk a = 0 ∧ chk b = 0 then cmpL (down a) (down b) else 0

theorem down_len (n : List UInt8) : (down n).length ≤ n.length := by
  unfold down
  rw [List.length_reverse]
  have := labs_len (low n)
  rwa [low_len] at this

set_option maxHeartbeats 1000000 in
theorem within_any (a b : List UInt8) (ha : a.length ≤ 900000) (hb : b.length ≤ 900000) (w : World) : Calls Try.prog 28 #[.string (bs a), .string (bs b)] w (Tells w (.bool (wthn a b))) := by
  have HA := Lib.hid (fun w => is_any a (by omega) w)
  have HB := Lib.hid (fun w => is_any b (by omega) w)
  have HDa := Lib.hid (fun w => down_any a ha w)
  have HDb := Lib.hid (fun w => down_any b hb w)
  have la := down_len a
  have lb := down_len b
  by_cases h1 : chk a = 0
  · by_cases h2 : chk b = 0
    · have e : wthn a b = decide ((down a).take (down b).length = down b) := by unfold wthn; simp [h1, h2]
      rw [e]
      rw [decide_eq_true h1] at HA
      rw [decide_eq_true h2] at HB
      obtain ⟨A, hA⟩ : ∃ A, down a = A := ⟨_, rfl⟩
      obtain ⟨B, hB⟩ : ∃ B, down b = B := ⟨_, rfl⟩
      have HD1 := Lib.hid (fun w => (show Calls Try.prog 41 #[.string (bs a)] w (fun e w' => ∃ v, e = .returned v ∧ St w' w.heap.size w'.heap.size v A ∧ Below w.heap.size w w') from hA ▸ HDa.out w))
      have HD2 := Lib.hid (fun w => (show Calls Try.prog 41 #[.string (bs b)] w (fun e w' => ∃ v, e = .returned v ∧ St w' w.heap.size w'.heap.size v B ∧ Below w.heap.size w w') from hB ▸ HDb.out w))
      rw [hA] at la ⊢
      rw [hB] at lb ⊢
      clear h1 h2 e HDa HDb hA hB
      by_cases hlen : B.length ≤ A.length
      · have t1 : decide (B.length ≤ A.length) = true := by simp; omega
        go_enter Try.func28, Try.ntmps28
        go_wp2_with fail
        refine (HA.out _).mono ?_; rintro e w1 ⟨rfl, hb1⟩; have HBw1 := Lib.hid hb1; clear hb1
        go_wp2_with fail
        refine (HB.out _).mono ?_; rintro e w2 ⟨rfl, hb1⟩; have HBw2 := Lib.hid hb1; clear hb1
        go_wp2_with fail
        refine (HD1.out _).mono ?_; rintro e w3 ⟨v1, rfl, hst, hb1⟩; have HBw3 := Lib.hid hb1; have HSw3 := Lib.hid hst; clear hb1 hst
        go_wp2_with fail
        refine (HD2.out _).mono ?_; rintro e w4 ⟨v2, rfl, hst, hb1⟩; have HBw4 := Lib.hid hb1; have HSw4 := Lib.hid hst; clear hb1 hst
        obtain ⟨a1, c1, rfl, _⟩ := id HSw3.out
        obtain ⟨a2, c2, rfl, _⟩ := id HSw4.out
        have hs1 := HSw3.out.later HBw4.out
        obtain ⟨sv, hsl, hst⟩ := st_to hs1 hlen
        have HST := Lib.hid hst
        have HEQ := Lib.hid (equalT_any hst HSw4.out (by rw [List.length_take]; omega) (by omega))
        clear hs1 hst
        go_wp2_with fail
        refine HEQ.out.mono ?_; rintro e w5 ⟨rfl, hd⟩; have HD5 := Lib.hid hd; clear hd
        go_wp2_with fail
        go_ret
        exact ⟨rfl, bel_call (bel_call (bel_call (bel_call HBw1.out HBw2.out) HBw3.out) HBw4.out) (HD5.out.below _)⟩
      · have t1 : decide (B.length ≤ A.length) = false := by simp; omega
        have hne : ¬ A.take B.length = B := fun e => by
          have := congrArg List.length e
          rw [List.length_take] at this
          omega
        rw [decide_eq_false hne]
        clear hne
        go_enter Try.func28, Try.ntmps28
        go_wp2_with fail
        refine (HA.out _).mono ?_; rintro e w1 ⟨rfl, hb1⟩; have HBw1 := Lib.hid hb1; clear hb1
        go_wp2_with fail
        refine (HB.out _).mono ?_; rintro e w2 ⟨rfl, hb1⟩; have HBw2 := Lib.hid hb1; clear hb1
        go_wp2_with fail
        refine (HD1.out _).mono ?_; rintro e w3 ⟨v1, rfl, hst, hb1⟩; have HBw3 := Lib.hid hb1; have HSw3 := Lib.hid hst; clear hb1 hst
        go_wp2_with fail
        refine (HD2.out _).mono ?_; rintro e w4 ⟨v2, rfl, hst, hb1⟩; have HBw4 := Lib.hid hb1; have HSw4 := Lib.hid hst; clear hb1 hst
        obtain ⟨a1, c1, rfl, _⟩ := id HSw3.out
        obtain ⟨a2, c2, rfl, _⟩ := id HSw4.out
        go_wp2_with fail
        go_ret
        exact ⟨rfl, (bel_call (bel_call (bel_call HBw1.out HBw2.out) HBw3.out) HBw4.out)⟩
    · -- b is none
      have e : wthn a b = false := by unfold wthn; simp [h2]
      rw [e]
      rw [decide_eq_true h1] at HA
      rw [decide_eq_false h2] at HB
      clear h1 h2 e
      go_enter Try.func28, Try.ntmps28
      go_wp2_with fail
      refine (HA.out _).mono ?_; rintro e w1 ⟨rfl, hb1⟩; have HBw1 := Lib.hid hb1; clear hb1
      go_wp2_with fail
      refine (HB.out _).mono ?_; rintro e w2 ⟨rfl, hb1⟩; have HBw2 := Lib.hid hb1; clear hb1
      go_wp2_with fail
      go_ret
      exact ⟨rfl, (bel_call HBw1.out HBw2.out)⟩
  · -- a is none
    have e : wthn a b = false := by unfold wthn; simp [h1]
    rw [e]
    rw [decide_eq_false h1] at HA
    clear h1 e
    go_enter Try.func28, Try.ntmps28
    go_wp2_with fail
    refine (HA.out _).mono ?_; rintro e w1 ⟨rfl, hb1⟩; have HBw1 := Lib.hid hb1; clear hb1
    go_wp2_with fail
    go_ret
    exact ⟨rfl, HBw1.out⟩

set_option maxHeartbeats 1000000 in
theorem compare_any (a b : List UInt8) (ha : a.length ≤ 900000) (hb : b.length ≤ 900000) (w : World) : Calls Try.prog 30 #[.string (bs a), .string (bs b)] w (Tells w (.int .i64 (ncmp a b))) := by
  have HA := Lib.hid (fun w => is_any a (by omega) w)
  have HB := Lib.hid (fun w => is_any b (by omega) w)
  have HDa := Lib.hid (fun w => down_any a ha w)
  have HDb := Lib.hid (fun w => down_any b hb w)
  have la := down_len a
  have lb := down_len b
  by_cases h1 : chk a = 0
  · by_cases h2 : chk b = 0
    · have e : ncmp a b = cmpL (down a) (down b) := by unfold ncmp; rw [if_pos ⟨h1, h2⟩]
      rw [e]
      rw [decide_eq_true h1] at HA
      rw [decide_eq_true h2] at HB
      obtain ⟨A, hA⟩ : ∃ A, down a = A := ⟨_, rfl⟩
      obtain ⟨B, hB⟩ : ∃ B, down b = B := ⟨_, rfl⟩
      have HD1 := Lib.hid (fun w => (show Calls Try.prog 41 #[.string (bs a)] w (fun e w' => ∃ v, e = .returned v ∧ St w' w.heap.size w'.heap.size v A ∧ Below w.heap.size w w') from hA ▸ HDa.out w))
      have HD2 := Lib.hid (fun w => (show Calls Try.prog 41 #[.string (bs b)] w (fun e w' => ∃ v, e = .returned v ∧ St w' w.heap.size w'.heap.size v B ∧ Below w.heap.size w w') from hB ▸ HDb.out w))
      rw [hA] at la ⊢
      rw [hB] at lb ⊢
      clear h1 h2 e HDa HDb hA hB
      go_enter Try.func30, Try.ntmps30
      go_wp2_with fail
      refine (HA.out _).mono ?_; rintro e w1 ⟨rfl, hb1⟩; have HBw1 := Lib.hid hb1; clear hb1
      go_wp2_with fail
      refine (HB.out _).mono ?_; rintro e w2 ⟨rfl, hb1⟩; have HBw2 := Lib.hid hb1; clear hb1
      go_wp2_with fail
      refine (HD1.out _).mono ?_; rintro e w3 ⟨v1, rfl, hst, hb1⟩; have HBw3 := Lib.hid hb1; have HSw3 := Lib.hid hst; clear hb1 hst
      go_wp2_with fail
      refine (HD2.out _).mono ?_; rintro e w4 ⟨v2, rfl, hst, hb1⟩; have HBw4 := Lib.hid hb1; have HSw4 := Lib.hid hst; clear hb1 hst
      have HCM := Lib.hid (cmpL_any (HSw3.out.later HBw4.out) HSw4.out (by omega) (by omega))
      go_wp2_with fail
      refine HCM.out.mono ?_; rintro e w5 ⟨rfl, rfl⟩
      go_wp2_with fail
      go_ret
      exact ⟨rfl, (bel_call (bel_call (bel_call HBw1.out HBw2.out) HBw3.out) HBw4.out)⟩
    · -- b is none
      have e : ncmp a b = 0 := by unfold ncmp; rw [if_neg (fun h => h2 h.2)]
      rw [e]
      rw [decide_eq_true h1] at HA
      rw [decide_eq_false h2] at HB
      clear h1 h2 e
      go_enter Try.func30, Try.ntmps30
      go_wp2_with fail
      refine (HA.out _).mono ?_; rintro e w1 ⟨rfl, hb1⟩; have HBw1 := Lib.hid hb1; clear hb1
      go_wp2_with fail
      refine (HB.out _).mono ?_; rintro e w2 ⟨rfl, hb1⟩; have HBw2 := Lib.hid hb1; clear hb1
      go_wp2_with fail
      go_ret
      exact ⟨rfl, (bel_call HBw1.out HBw2.out)⟩
  · -- a is none
    have e : ncmp a b = 0 := by unfold ncmp; rw [if_neg (fun h => h1 h.1)]
    rw [e]
    rw [decide_eq_false h1] at HA
    clear h1 e
    go_enter Try.func30, Try.ntmps30
    go_wp2_with fail
    refine (HA.out _).mono ?_; rintro e w1 ⟨rfl, hb1⟩; have HBw1 := Lib.hid hb1; clear hb1
    go_wp2_with fail
    go_ret
    exact ⟨rfl, HBw1.out⟩
end Go.Proofs.Ytibaeklpgfadpaa
