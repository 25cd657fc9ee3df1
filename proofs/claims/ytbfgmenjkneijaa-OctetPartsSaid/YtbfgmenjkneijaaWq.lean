/-
  The law OctetGets.
-/
import Derived.Test.YtbfgmenjkneijaaWp
namespace Go.Proofs.Ytbfgmenjkneijaa
open Go.RowKit
set_option linter.unusedVariables false

theorem Sl.top {w : World} {lo hi : Nat} {v : Value} {l : List Int} (h : Sl w lo hi v l) : Sl w 0 w.heap.size v l := by
  obtain ⟨a, c, rfl, hc, hn, hp⟩ := h
  refine ⟨a, c, rfl, hc, hn, fun h0 => ?_⟩
  obtain ⟨b, off, rfl, h1, h2, hx⟩ := hp h0
  exact ⟨b, off, rfl, Nat.zero_le _, World.block_lt_of_cell? w _ (hx 0 h0), hx⟩
theorem LentAt.lt {w : World} {g : Nat} {l : List Int} (h : LentAt w g l) : g < w.heap.size := (Array.getElem?_eq_some_iff.mp h).1
theorem LentAt.only {w w' : World} {g k : Nat} {l : List Int} (h : LentAt w g l) (ho : Only k w w') (hg : g ≠ k) : LentAt w' g l := (ho.2.2.2.2 g hg).trans h
theorem LentAt.later' {w w' : World} {g : Nat} {l : List Int} (h : LentAt w g l) (hb : Below w.heap.size w w') : LentAt w' g l := h.later hb h.lt
/-- What was lent reads as the bytes. -/
theorem LentAt.in_ {w : World} {g : Nat} {l : List Int} (h : LentAt w g l) : Sl w g (g + 1) (.slice (some ⟨g, 0, none⟩) l.length (l.length + 3)) l := by
  obtain ⟨a, c, he, hc, hn, hp⟩ := h.sl
  injection he with e1 e2 e3
  refine ⟨_, _, rfl, by omega, fun h => by simp at h, fun h0 => ?_⟩
  obtain ⟨b, off, e4, h1, h2, hx⟩ := hp (by rw [lentL_len]; omega)
  rw [← e1] at e4
  injection e4 with e4
  injection e4 with e5 e6 e7
  subst e5; subst e6
  refine ⟨g, 0, rfl, h1, h2, fun j hj => ?_⟩
  rw [hx j (by rw [lentL_len]; omega)]
  congr 2
  unfold lentL
  rw [List.getD, List.getD, List.getElem?_append_left hj]

theorem bytL_len (l : List Int) (t n : Int) : (bytL l t n).length ≤ l.length := by
  unfold bytL cutL
  split
  · rw [List.length_take, List.length_drop]; omega
  · simp

set_option maxHeartbeats 8000000 in
theorem gets_any (a : Option Addr) (c : Nat) (l : List Int) (t n : Int) (w : World) (h : Sl w 0 w.heap.size (.slice a l.length c) l) (hb : ByteL l) (hl : l.length ≤ 1000) (hn : n ≤ 9223372036854775807) :
    Calls Try.prog 4 #[.slice a l.length c, .int .i64 t, .int .i64 n] w (YesB w) := by
  have hm : l.length ≤ 1000000 := by omega
  obtain ⟨N2, x1⟩ : ∃ x, x = getF 2 l.length t (nAt2 l t.toNat) := ⟨_, rfl⟩
  obtain ⟨E2, x2⟩ : ∃ x, x = getF 2 l.length t (t + 2) := ⟨_, rfl⟩
  obtain ⟨F2, x3⟩ : ∃ x, x = getE 2 l.length t := ⟨_, rfl⟩
  obtain ⟨A2, x4⟩ : ∃ x, x = getA 2 l.length t := ⟨_, rfl⟩
  obtain ⟨N4, y1⟩ : ∃ x, x = getF 4 l.length t (nAt4 l t.toNat) := ⟨_, rfl⟩
  obtain ⟨E4, y2⟩ : ∃ x, x = getF 4 l.length t (t + 4) := ⟨_, rfl⟩
  obtain ⟨F4, y3⟩ : ∃ x, x = getE 4 l.length t := ⟨_, rfl⟩
  obtain ⟨A4, y4⟩ : ∃ x, x = getA 4 l.length t := ⟨_, rfl⟩
  obtain ⟨LB, z1⟩ : ∃ x, x = bytL l t n := ⟨_, rfl⟩
  obtain ⟨EB, z2⟩ : ∃ x, x = bytF l.length t n := ⟨_, rfl⟩
  obtain ⟨FB, z3⟩ : ∃ x, x = bytE l.length t n := ⟨_, rfl⟩
  obtain ⟨AB, z4⟩ : ∃ x, x = bytA l.length t n := ⟨_, rfl⟩
  have q2 : ∀ wx {lo hi : Nat} {v : Value}, Sl wx lo hi v l → Calls Try.prog 16 #[v, .int .i64 t] wx (GetPost wx N2 E2 F2 A2) := fun wx _ _ _ h => by rw [x1, x2, x3, x4]; exact get16_any h.top hb hm (Nat.le_refl _) t
  have q3 : ∀ wx {lo hi : Nat} {v : Value}, Sl wx lo hi v l → Calls Try.prog 17 #[v, .int .i64 t] wx (GetPost wx N2 E2 F2 A2) := fun wx _ _ _ h => by rw [x1, x2, x3, x4]; exact rget16_any h.top hb hm (Nat.le_refl _) t
  have q4 : ∀ wx {lo hi : Nat} {v : Value}, Sl wx lo hi v l → Calls Try.prog 18 #[v, .int .i64 t] wx (GetPost wx N4 E4 F4 A4) := fun wx _ _ _ h => by rw [y1, y2, y3, y4]; exact get32_any h.top hb hm (Nat.le_refl _) t
  have q5 : ∀ wx {lo hi : Nat} {v : Value}, Sl wx lo hi v l → Calls Try.prog 19 #[v, .int .i64 t] wx (GetPost wx N4 E4 F4 A4) := fun wx _ _ _ h => by rw [y1, y2, y3, y4]; exact rget32_any h.top hb hm (Nat.le_refl _) t
  have q6 : ∀ wx {lo hi : Nat} {v : Value}, Sl wx lo hi v l → Calls Try.prog 20 #[v, .int .i64 t, .int .i64 n] wx (BytesPost wx LB EB FB AB) := fun wx _ _ _ h => by rw [z1, z2, z3, z4]; exact bytes_any h.top hm (Nat.le_refl _) t n hn
  have q7 : ∀ wx {lo hi : Nat} {v : Value}, Sl wx lo hi v l → Calls Try.prog 21 #[v, .int .i64 t, .int .i64 n] wx (RBytesPost wx LB EB FB AB) := fun wx _ _ _ h => by rw [z1, z2, z3, z4]; exact rbytes_any h.top hm (Nat.le_refl _) t n
  have NB : LB.length ≤ 1000000 := by rw [z1]; have := bytL_len l t n; omega
  have Q2 := Lib.hid q2
  have Q3 := Lib.hid q3
  have Q4 := Lib.hid q4
  have Q5 := Lib.hid q5
  have Q6 := Lib.hid q6
  have Q7 := Lib.hid q7
  have SB := Lib.hid h
  clear x1 x2 x3 x4 y1 y2 y3 y4 z1 z2 z3 z4 q2 q3 q4 q5 q6 q7 h hb hm
  go_enter Try.func4, Try.ntmps4
  go_wp2_with fail
  refine (lent_any SB.out hl).mono ?_
  rintro e w1 ⟨rfl, hb, la⟩
  have SB_1 := Lib.hid (SB.out.later hb)
  have SI_1 := Lib.hid (LentAt.in_ la)
  have LA_1 := Lib.hid la
  have HB_1 := Lib.hid hb
  clear la hb SB
  go_wp2_with fail
  refine (Q2.out w1 (SI_1.out.later (Below.refl _ _))).mono ?_
  rintro e w2 ⟨rfl, hb⟩
  have hk : Below w1.heap.size w1 w2 := bel_call (Below.refl _ _) hb
  have SB_2 := Lib.hid (SB_1.out.later hk)
  clear SB_1
  have SI_2 := Lib.hid (SI_1.out.later hk)
  clear SI_1
  have LA_2 := Lib.hid (LA_1.out.later' hk)
  clear LA_1
  have HB_2 := Lib.hid (bel_call HB_1.out hk)
  clear HB_1
  go_wp2_with fail
  refine (Q3.out (w2.alloc (.cells #[.int .i64 F2, .int .i64 A2] 32)) (SB_2.out.later (bel_alloc (Below.refl _ _) _))).mono ?_
  rintro e w3 ⟨rfl, hb⟩
  have hk : Below w2.heap.size w2 w3 := bel_call (bel_alloc (Below.refl _ _) _) hb
  have SB_3 := Lib.hid (SB_2.out.later hk)
  clear SB_2
  have SI_3 := Lib.hid (SI_2.out.later hk)
  clear SI_2
  have LA_3 := Lib.hid (LA_2.out.later' hk)
  clear LA_2
  have C2_3 : Hid (Cl w3 (w2.heap.size) (.int .i64 F2) (.int .i64 A2)) := Lib.hid (by have h := (((Cl.new w2 (.int .i64 F2) (.int .i64 A2) 32).later (Below.refl _ _)).later hb); simpa only [World.size_alloc] using h)
  have HB_3 := Lib.hid (bel_call HB_2.out hk)
  clear HB_2
  go_wp2_with fail
  refine (Q4.out (w3.alloc (.cells #[.int .i64 F2, .int .i64 A2] 32)) (SI_3.out.later (bel_alloc (Below.refl _ _) _))).mono ?_
  rintro e w4 ⟨rfl, hb⟩
  have hk : Below w3.heap.size w3 w4 := bel_call (bel_alloc (Below.refl _ _) _) hb
  have SB_4 := Lib.hid (SB_3.out.later hk)
  clear SB_3
  have SI_4 := Lib.hid (SI_3.out.later hk)
  clear SI_3
  have LA_4 := Lib.hid (LA_3.out.later' hk)
  clear LA_3
  have C2_4 := Lib.hid (C2_3.out.later hk)
  clear C2_3
  have C3_4 : Hid (Cl w4 (w3.heap.size) (.int .i64 F2) (.int .i64 A2)) := Lib.hid (by have h := (((Cl.new w3 (.int .i64 F2) (.int .i64 A2) 32).later (Below.refl _ _)).later hb); simpa only [World.size_alloc] using h)
  have HB_4 := Lib.hid (bel_call HB_3.out hk)
  clear HB_3
  go_wp2_with fail
  refine (Q5.out (w4.alloc (.cells #[.int .i64 F4, .int .i64 A4] 32)) (SB_4.out.later (bel_alloc (Below.refl _ _) _))).mono ?_
  rintro e w5 ⟨rfl, hb⟩
  have hk : Below w4.heap.size w4 w5 := bel_call (bel_alloc (Below.refl _ _) _) hb
  have SB_5 := Lib.hid (SB_4.out.later hk)
  clear SB_4
  have SI_5 := Lib.hid (SI_4.out.later hk)
  clear SI_4
  have LA_5 := Lib.hid (LA_4.out.later' hk)
  clear LA_4
  have C2_5 := Lib.hid (C2_4.out.later hk)
  clear C2_4
  have C3_5 := Lib.hid (C3_4.out.later hk)
  clear C3_4
  have C4_5 : Hid (Cl w5 (w4.heap.size) (.int .i64 F4) (.int .i64 A4)) := Lib.hid (by have h := (((Cl.new w4 (.int .i64 F4) (.int .i64 A4) 32).later (Below.refl _ _)).later hb); simpa only [World.size_alloc] using h)
  have HB_5 := Lib.hid (bel_call HB_4.out hk)
  clear HB_4
  have X5 := Lib.hid LA_5.out.lt
  go_wp2_with fail
  refine (Q6.out (w5.alloc (.cells #[.int .i64 F4, .int .i64 A4] 32)) (SI_5.out.later (bel_alloc (Below.refl _ _) _))).mono ?_
  rintro e w6 ⟨v6, g6, rfl, o6, a6, b6, hb⟩
  have hk : Below w5.heap.size w5 w6 := bel_call (bel_alloc (Below.refl _ _) _) hb
  have SB_6 := Lib.hid (SB_5.out.later hk)
  clear SB_5
  have SI_6 := Lib.hid (SI_5.out.later hk)
  clear SI_5
  have LA_6 := Lib.hid (LA_5.out.later' hk)
  clear LA_5
  have C2_6 := Lib.hid (C2_5.out.later hk)
  clear C2_5
  have C3_6 := Lib.hid (C3_5.out.later hk)
  clear C3_5
  have C4_6 := Lib.hid (C4_5.out.later hk)
  clear C4_5
  have C5_6 : Hid (Cl w6 (w5.heap.size) (.int .i64 F4) (.int .i64 A4)) := Lib.hid (by have h := (((Cl.new w5 (.int .i64 F4) (.int .i64 A4) 32).later (Below.refl _ _)).later hb); simpa only [World.size_alloc] using h)
  have HB_6 := Lib.hid (bel_call HB_5.out hk)
  clear HB_5
  have G6 : Hid (w.heap.size < g6) := Lib.hid (by have := X5.out; simp at a6; omega)
  have M6 := Lib.hid b6
  have O6 := Lib.hid o6
  clear o6 a6 b6
  have O6 := Lib.hid (O6.out.below (bel_alloc (Below.refl _ _) (.cells #[.int .i64 FB, .int .i64 AB] 32)) M6.out)
  go_wp2_with fail
  refine (Q7.out (w6.alloc (.cells #[.int .i64 FB, .int .i64 AB] 32)) (SB_6.out.later (bel_alloc (Below.refl _ _) _))).mono ?_
  rintro e w7 ⟨v7, rfl, o7, hb⟩
  have hk : Below w6.heap.size w6 w7 := bel_call (bel_alloc (Below.refl _ _) _) hb
  have SB_7 := Lib.hid (SB_6.out.later hk)
  clear SB_6
  have SI_7 := Lib.hid (SI_6.out.later hk)
  clear SI_6
  have LA_7 := Lib.hid (LA_6.out.later' hk)
  clear LA_6
  have C2_7 := Lib.hid (C2_6.out.later hk)
  clear C2_6
  have C3_7 := Lib.hid (C3_6.out.later hk)
  clear C3_6
  have C4_7 := Lib.hid (C4_6.out.later hk)
  clear C4_6
  have C5_7 := Lib.hid (C5_6.out.later hk)
  clear C5_6
  have C6_7 : Hid (Cl w7 (w6.heap.size) (.int .i64 FB) (.int .i64 AB)) := Lib.hid (by have h := (((Cl.new w6 (.int .i64 FB) (.int .i64 AB) 32).later (Below.refl _ _)).later hb); simpa only [World.size_alloc] using h)
  have S7_7 := Lib.hid (o7.sl)
  have HB_7 := Lib.hid (bel_call HB_6.out hk)
  clear HB_6
  have O6 := Lib.hid (O6.out.below hb (by have := M6.out; simp; omega))
  have M7 := Lib.hid (Nat.lt_of_lt_of_le M6.out hk.size)
  clear o7
  have O6 := Lib.hid (O6.out.below (bel_alloc (Below.refl _ _) (.cells #[.int .i64 FB, .int .i64 AB] 32)) M7.out)
  obtain ⟨kC2, lC2⟩ := C2_7.out
  have nC2 := C2_7.out.lt
  obtain ⟨kC3, lC3⟩ := C3_7.out
  have nC3 := C3_7.out.lt
  obtain ⟨kC4, lC4⟩ := C4_7.out
  have nC4 := C4_7.out.lt
  obtain ⟨kC5, lC5⟩ := C5_7.out
  have nC5 := C5_7.out.lt
  obtain ⟨kC6, lC6⟩ := C6_7.out
  have nC6 := C6_7.out.lt
  go_wp2_with fail
  refine (same_any O6.out.sl (S7_7.out.later (bel_alloc (Below.refl _ _) _))).mono ?_
  rintro e ww ⟨rfl, rfl⟩
  go_wp2_with fail
  clear kC2 lC2 nC2 kC3 lC3 nC3 kC4 lC4 nC4 kC5 lC5 nC5 kC6 lC6 nC6
  refine (over_own O6.out NB).mono ?_
  rintro e w8 ⟨rfl, o8⟩
  have HB_8 := Lib.hid (Below.trans (bel_alloc HB_7.out _) (o8.below (Nat.le_of_lt G6.out)))
  have SB_8 := Lib.hid (Sl.only (SB_7.out.later (bel_alloc (Below.refl _ _) _)) o8 (.inr (Nat.le_of_lt G6.out)))
  have LA_8 := Lib.hid (LentAt.only (LA_7.out.later' (bel_alloc (Below.refl _ _) _)) o8 (Nat.ne_of_lt G6.out))
  clear o8
  go_wp2_with fail
  refine (kept_any SB_8.out hl LA_8.out LA_8.out.lt).mono ?_
  rintro e w9 ⟨rfl, hb⟩
  have hk : Below w8.heap.size w8 w9 := bel_call (Below.refl _ _) hb
  have SB_9 := Lib.hid (SB_8.out.later hk)
  clear SB_8
  have LA_9 := Lib.hid (LA_8.out.later' hk)
  clear LA_8
  have HB_9 := Lib.hid (bel_call HB_8.out hk)
  clear HB_8
  go_wp2_with fail
  refine (awake_any _).mono ?_
  rintro e w10 ⟨rfl, hb⟩
  have hk : Below w9.heap.size w9 w10 := bel_call (Below.refl _ _) hb
  have SB_10 := Lib.hid (SB_9.out.later hk)
  clear SB_9
  have LA_10 := Lib.hid (LA_9.out.later' hk)
  clear LA_9
  have HB_10 := Lib.hid (bel_call HB_9.out hk)
  clear HB_9
  go_wp2_with fail
  go_ret
  exact ⟨rfl, HB_10.out⟩
end Go.Proofs.Ytbfgmenjkneijaa
