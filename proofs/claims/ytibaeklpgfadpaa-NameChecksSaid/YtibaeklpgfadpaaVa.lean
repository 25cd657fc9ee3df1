/-
  The statement about checks.
-/
import Derived.Test.YtibaeklpgfadpaaUc
import Derived.Test.YtibaeklpgfadpaaTq
namespace Go.Proofs.Ytibaeklpgfadpaa
open Go.RowKit Go.Shelf
set_option linter.unusedVariables false
set_option linter.unusedSimpArgs false

theorem wire_lng {l : List (List UInt8)} (h : lng l = false) : (wire l).length ≤ 101 * l.length := by
  induction l with
  | nil => simp [wire]
  | cons x r ih =>
    simp only [lng, List.any_cons, Bool.or_eq_false_iff] at h
    have h1 : x.length ≤ 100 := by simpa using h.1
    have h2 := ih h.2
    simp only [wire, List.cons_append, List.length_cons, List.length_append]
    omega

theorem Aside.of_drawn {G : Nat → Prop} {w w' : World} (h : Drawn w w') : Aside G w w' := h.aside _

set_option maxHeartbeats 2000000 in
theorem checks_any (n : List UInt8) (l : List (List UInt8)) (v : Value) (w : World) {lo hi : Nat} (hst : St w lo hi v l) : Calls Try.prog 3 #[.string (bs n), v] w (Tells w (.bool true)) := by
  have HS := Lib.hid hst
  obtain ⟨a, c, rfl, _⟩ := id hst
  clear hst
  by_cases h1 : 400 < n.length
  · have t1 : decide ((400 : Int) < n.length) = true := by simp; omega
    go_enter Try.func3, Try.ntmps3
    go_wp2
    go_ret
    exact ⟨rfl, Below.refl _ _⟩
  have t1 : decide ((400 : Int) < n.length) = false := by simp; omega
  by_cases h2 : 300 < l.length
  · have t2 : decide ((300 : Int) < l.length) = true := by simp; omega
    go_enter Try.func3, Try.ntmps3
    go_wp2
    go_ret
    exact ⟨rfl, Below.refl _ _⟩
  have t2 : decide ((300 : Int) < l.length) = false := by simp; omega
  have HL := Lib.hid (long_any HS.out (by omega))
  cases hlg : lng l with
  | true =>
    rw [hlg] at HL
    clear hlg
    go_enter Try.func3, Try.ntmps3
    go_wp2_with fail
    refine HL.out.mono ?_; rintro e w1 ⟨rfl, rfl⟩
    go_wp2_with fail
    go_ret
    exact ⟨rfl, Below.refl _ _⟩
  | false =>
    have hwl := wire_lng hlg
    rw [hlg] at HL
    have HLE := Lib.hid (lentT_any HS.out (by omega))
    have HN := Lib.hid (fun w => names_any n (by omega) w)
    have HRN := Lib.hid (fun w => rlabels_any n (by omega) w)
    have HC := Lib.hid (fun w => check_any n (by omega) w)
    have HRC := Lib.hid (fun w => rcheck_any n (by omega) w)
    have HCO := Lib.hid (fun w => count_any n (by omega) w)
    have hcnt : cnt n = (lbs n).length := by unfold cnt lbs; split <;> rfl
    rw [hcnt] at HCO
    have hlb : Hid ((lbs n).length ≤ 400 ∧ ∀ x ∈ lbs n, x.length ≤ 900000) := by
      have := labs_len n
      unfold lbs
      split
      · exact ⟨by omega, fun x hx => by have := labs_short n x hx; omega⟩
      · exact ⟨by simp, by simp⟩
    have HAW := Lib.hid awake_any
    clear hlg hcnt
    go_enter Try.func3, Try.ntmps3
    go_wp2_with fail
    refine HL.out.mono ?_; rintro e w1 ⟨rfl, rfl⟩
    go_wp2_with fail
    refine HLE.out.mono ?_; rintro e w1 ⟨rfl, hb, hr⟩; have HB1 := Lib.hid hb; have HR1 := Lib.hid hr; clear hb hr
    go_wp2_with fail
    refine (HN.out _).mono ?_; rintro e w2 ⟨va, rfl, ho, hb⟩; have HB2 := Lib.hid hb; have HO2 := Lib.hid ho; clear hb ho
    go_wp2_with fail
    refine (HRN.out _).mono ?_; rintro e w3 ⟨vb, rfl, ho, hb⟩; have HB3 := Lib.hid hb; have HO3 := Lib.hid ho; clear hb ho
    obtain ⟨ab, cb, hvb⟩ := HO3.out.shape
    subst hvb
    have HR3 := Lib.hid (((HR1.out.later HB2.out).later HB3.out))
    have HJ := Lib.hid (Join_any l _ _ HR3.out.head (by omega))
    go_wp2_with fail
    refine HJ.out.mono ?_; rintro e w4 ⟨rfl, hb⟩; have HB4 := Lib.hid hb; clear hb
    have HRJ := Lib.hid (rjoin_any l _ _ ((((HS.out.later HB1.out).later HB2.out).later HB3.out).later HB4.out) (by omega))
    go_wp2_with fail
    refine HRJ.out.mono ?_; rintro e w5 ⟨rfl, hb⟩; have HB5 := Lib.hid hb; clear hb
    have HSA := Lib.hid (sameT_any ((((HO2.out.below HB3.out).below HB4.out).below HB5.out).st) ((((HO3.out).below HB4.out).below HB5.out).st) (by have := hlb.out.1; omega) (by have := hlb.out.1; omega))
    rw [decide_eq_true rfl] at HSA
    go_wp2_with fail
    refine HSA.out.mono ?_; rintro e w6 ⟨rfl, hd⟩; have HB6 := Lib.hid ((Aside.of_drawn (G := fun _ => False) hd).below (B := w5.heap.size) fun k hk => ⟨hk, fun h => h⟩); clear hd
    go_wp2_with fail
    refine (HC.out _).mono ?_; rintro e w7 ⟨rfl, hb⟩; have HB7 := Lib.hid hb; clear hb
    go_wp2_with fail
    refine (HRC.out _).mono ?_; rintro e w8 ⟨rfl, hb⟩; have HB8 := Lib.hid hb; clear hb
    go_wp2_with fail
    refine (HCO.out _).mono ?_; rintro e w9 ⟨rfl, hb⟩; have HB9 := Lib.hid hb; clear hb
    have HOV := Lib.hid (overT_any (((((((HO2.out.below HB3.out).below HB4.out).below HB5.out).below HB6.out).below HB7.out).below HB8.out).below HB9.out) hlb.out.2)
    go_wp2_with fail
    refine HOV.out.mono ?_; rintro e w10 ⟨rfl, ha⟩
    have hball : Below w.heap.size w w9 := bel_call (bel_call (bel_call (bel_call (bel_call (bel_call (bel_call (bel_call HB1.out HB2.out) HB3.out) HB4.out) HB5.out) HB6.out) HB7.out) HB8.out) HB9.out
    have hs9 : w1.heap.size ≤ w9.heap.size := (bel_call (bel_call (bel_call (bel_call (bel_call (bel_call (bel_call HB2.out HB3.out) HB4.out) HB5.out) HB6.out) HB7.out) HB8.out) HB9.out).size
    have hlt := HR1.out.lt
    have hb10 : Below w.heap.size w w10 := below_aside hball ha fun b hb => ⟨by omega, by omega⟩
    have hr10 : RowT w10 w.heap.size (lentT l) := ((((((HR3.out.later HB4.out).later HB5.out).later HB6.out).later HB7.out).later HB8.out).later HB9.out).aside ha (by omega)
    have HK := Lib.hid (keptT_any (HS.out.later hb10) (by omega) hr10)
    have HB10 := Lib.hid hb10
    clear hball hs9 hlt hb10 hr10 ha
    go_wp2_with fail
    refine HK.out.mono ?_; rintro e w11 ⟨rfl, hb⟩; have HB11 := Lib.hid hb; clear hb
    go_wp2_with fail
    refine (HAW.out _).mono ?_; rintro e w12 ⟨rfl, hb⟩; have HB12 := Lib.hid hb; clear hb
    go_wp2_with fail
    go_ret
    exact ⟨rfl, bel_call (bel_call HB10.out HB11.out) HB12.out⟩

end Go.Proofs.Ytibaeklpgfadpaa
