/-
  What the document's examples say: faulty, awake.
-/
import Derived.Test.YtibaeklpgfadpaaUb
import Derived.Test.YtibaeklpgfadpaaTt
import Derived.Test.YtibaeklpgfadpaaTs
namespace Go.Proofs.Ytibaeklpgfadpaa
open Go.RowKit Go.Shelf
set_option linter.unusedVariables false
set_option linter.unusedSimpArgs false

/-- Labels that a name may have. -/
def Shorts (l : List (List UInt8)) : Prop := (∀ x ∈ l, 0 < x.length ∧ x.length ≤ 63) ∧ (wire l).length ≤ 254

theorem shorts_chk {l : List (List UInt8)} (h : Shorts l) : chk (wire l ++ [0]) = 0 := chk_of_wire l h.1 h.2
theorem shorts_labs {l : List (List UInt8)} (h : Shorts l) : labs (wire l ++ [0]) = l := (labs_wire l h.1).1
theorem shorts_down {l : List (List UInt8)} (h : Shorts l) : down (wire l ++ [0]) = (l.map low).reverse := by rw [down_eq, shorts_labs h]
theorem shorts_of {n : List UInt8} (h : chk n = 0) : Shorts (labs n) ∧ n = wire (labs n) ++ [0] := ⟨⟨labs_short n, chk_wire_len h⟩, chk_wire h⟩
theorem shorts_wthn {l z : List (List UInt8)} (hl : Shorts l) (hz : Shorts z) : wthn (wire l ++ [0]) (wire z ++ [0]) = decide (((l.map low).reverse).take z.length = (z.map low).reverse) := by
  unfold wthn
  rw [shorts_chk hl, shorts_chk hz, shorts_down hl, shorts_down hz]
  simp
theorem shorts_ncmp {l z : List (List UInt8)} (hl : Shorts l) (hz : Shorts z) : ncmp (wire l ++ [0]) (wire z ++ [0]) = cmpL ((l.map low).reverse) ((z.map low).reverse) := by
  unfold ncmp
  rw [shorts_chk hl, shorts_chk hz, shorts_down hl, shorts_down hz, if_pos ⟨rfl, rfl⟩]

instance (l : List (List UInt8)) : Decidable (Shorts l) := by unfold Shorts; infer_instance

theorem prs_1 : prs [119, 119, 119, 46, 69, 120, 97, 109, 112, 108, 101, 46] = ([3, 119, 119, 119, 7, 69, 120, 97, 109, 112, 108, 101, 0], 0, 0) := by decide
theorem prs_2 : prs [119, 119, 119, 46, 69, 120, 97, 109, 112, 108, 101] = ([3, 119, 119, 119, 7, 69, 120, 97, 109, 112, 108, 101, 0], 0, 0) := by decide
theorem prs_3 : prs [97, 46, 46, 98] = ([], 4, 2) := by decide
theorem wth_1 : wthn [1, 97, 1, 66, 0] [1, 98, 0] = true := (shorts_wthn (l := [[97], [66]]) (z := [[98]]) (by decide) (by decide)).trans (by decide)

theorem faulty_any (t : List UInt8) (e : Int) (a : Nat) (hlen : t.length ≤ 800000) (w : World) : Calls Try.prog 35 #[.string (bs t), .int .i64 e, .int .i64 a] w (Tells w (.bool (decide (prs t = ([], e, a))))) := by
  have HP := Lib.hid (fun w => parse_any t hlen w)
  obtain ⟨⟨n, e1, a1⟩, hX⟩ : ∃ X, prs t = X := ⟨_, rfl⟩
  rw [hX] at HP ⊢
  have hn := bs_eq n []
  have hq : (decide ((n, e1, a1) = (([] : List UInt8), e, a))) = (decide (n = []) && (decide (e1 = e) && decide (a1 = a))) := by
    by_cases h1 : n = [] <;> by_cases h2 : e1 = e <;> by_cases h3 : a1 = a <;> simp [h1, h2, h3]
  rw [hq]
  clear hq hX
  go_enter Try.func35, Try.ntmps35
  go_wp2_with fail
  refine (HP.out _).mono ?_; rintro e w1 ⟨rfl, hb1⟩; have HBw1 := Lib.hid hb1; clear hb1
  go_wp2_with fail
  all_goals
    go_ret
    exact ⟨by simp_all [bs_toList]; try omega, HBw1.out.alloc HBw1.out.size _⟩

theorem awake_any (w : World) : Calls Try.prog 21 #[] w (Tells w (.bool true)) := by
  have HP1 := Lib.hid (fun w => parse_any [119, 119, 119, 46, 69, 120, 97, 109, 112, 108, 101, 46] (by simp) w)
  have HP2 := Lib.hid (fun w => parse_any [119, 119, 119, 46, 69, 120, 97, 109, 112, 108, 101] (by simp) w)
  have HP3 := Lib.hid (fun w => faulty_any [97, 46, 46, 98] 4 2 (by simp) w)
  have HW := Lib.hid (fun w => within_any [1, 97, 1, 66, 0] [1, 98, 0] (by simp) (by simp) w)
  rw [prs_1] at HP1
  rw [prs_2] at HP2
  rw [prs_3] at HP3
  rw [wth_1] at HW
  have hq : ((bs [3, 119, 119, 119, 7, 69, 120, 97, 109, 112, 108, 101, 0]).toList == [3, 119, 119, 119, 7, 69, 120, 97, 109, 112, 108, 101, 0]) = true := by rw [bs_toList]; rfl
  go_enter Try.func21, Try.ntmps21
  go_wp2_with fail
  refine (HP1.out _).mono ?_; rintro e w1 ⟨rfl, hb1⟩; have HBw1 := Lib.hid hb1; clear hb1
  go_wp2_with fail
  refine (HP2.out _).mono ?_; rintro e w2 ⟨rfl, hb1⟩; have HBw2 := Lib.hid hb1; clear hb1
  have g0 : w2.cell? ⟨w1.heap.size, 0, none⟩ = some (.int .i64 0) := (HBw2.out.cell (p := ⟨_, _, _⟩) (by simp)).trans (by simp [go_sem])
  have hl : w1.heap.size < w2.heap.size := by have := HBw2.out.size; simp at this; omega
  go_wp2_with fail
  refine (HP3.out _).mono ?_; rintro e w3 ⟨rfl, hb1⟩; have HBw3 := Lib.hid hb1; clear hb1
  go_wp2_with fail
  refine (HW.out _).mono ?_; rintro e w4 ⟨rfl, hb1⟩; have HBw4 := Lib.hid hb1; clear hb1
  go_wp2_with fail
  go_ret
  refine ⟨rfl, bel_call (bel_call (bel_call HBw1.out ?_) HBw3.out) HBw4.out⟩
  exact (((Below.refl _ w1).alloc (Nat.le_refl _) _).trans (HBw2.out.mono (by simp))).alloc (by omega) _
end Go.Proofs.Ytibaeklpgfadpaa
