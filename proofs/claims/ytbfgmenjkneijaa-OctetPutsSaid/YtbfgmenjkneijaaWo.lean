/-
  The law OctetKnown.
-/
import Derived.Test.YtbfgmenjkneijaaWn
namespace Go.Proofs.Ytbfgmenjkneijaa
open Go.RowKit
set_option linter.unusedVariables false

theorem get16_lit (w : World) (n : Nat) (hn : n = w.heap.size) (l : List Int) (hb : ByteL l) (hl : l.length ≤ 1000000) (t N E F A : Int) (e1 : getF 2 l.length t (nAt2 l t.toNat) = N) (e2 : getF 2 l.length t (t + 2) = E) (e3 : getE 2 l.length t = F) (e4 : getA 2 l.length t = A) :
    Calls Try.prog 16 #[.slice (some ⟨n, 0, none⟩) l.length l.length, .int .i64 t] (w.alloc (.cells (l.map (Value.int .u8)).toArray 5)) (GetPost (w.alloc (.cells (l.map (Value.int .u8)).toArray 5)) N E F A) := by
  subst hn
  have := get16_any (sl_lit w l) hb hl (by simp) t
  rw [e1, e2, e3, e4] at this
  exact this
theorem get32_lit (w : World) (n : Nat) (hn : n = w.heap.size) (l : List Int) (hb : ByteL l) (hl : l.length ≤ 1000000) (t N E F A : Int) (e1 : getF 4 l.length t (nAt4 l t.toNat) = N) (e2 : getF 4 l.length t (t + 4) = E) (e3 : getE 4 l.length t = F) (e4 : getA 4 l.length t = A) :
    Calls Try.prog 18 #[.slice (some ⟨n, 0, none⟩) l.length l.length, .int .i64 t] (w.alloc (.cells (l.map (Value.int .u8)).toArray 5)) (GetPost (w.alloc (.cells (l.map (Value.int .u8)).toArray 5)) N E F A) := by
  subst hn
  have := get32_any (sl_lit w l) hb hl (by simp) t
  rw [e1, e2, e3, e4] at this
  exact this
theorem bytes_lit (w : World) (n : Nat) (hn : n = w.heap.size) (l : List Int) (hl : l.length ≤ 1000000) (t m : Int) (L : List Int) (E F A : Int) (e1 : bytL l t m = L) (e2 : bytF l.length t m = E) (e3 : bytE l.length t m = F) (e4 : bytA l.length t m = A) (hm : m ≤ 9223372036854775807) :
    Calls Try.prog 20 #[.slice (some ⟨n, 0, none⟩) l.length l.length, .int .i64 t, .int .i64 m] (w.alloc (.cells (l.map (Value.int .u8)).toArray 5)) (BytesPost (w.alloc (.cells (l.map (Value.int .u8)).toArray 5)) L E F A) := by
  subst hn
  have := bytes_any (sl_lit w l) hl (by simp) t m hm
  rw [e1, e2, e3, e4] at this
  exact this

set_option maxHeartbeats 4000000 in
theorem known_any (w : World) : Calls Try.prog 7 #[] w (YesB w) := by
  go_enter Try.func7, Try.ntmps7
  have c1 : Calls Try.prog 8 #[.int .i64 65536] w (PutPost w 5 []) := put16_any 65536 w
  go_wp2_with fail
  refine (c1).mono ?_
  rintro e w1 ⟨v1, g1, rfl, h1, h2, h3, hb⟩
  have hk : Below w.heap.size w w1 := bel_call (Below.refl _ _) hb
  have HB_1 := Lib.hid hk
  have c2 : Calls Try.prog 10 #[.int .i64 65536] w1 (PutPost w1 0 [0, 1, 0, 0]) := put32_any 65536 w1
  go_wp2_with fail
  refine (c2).mono ?_
  rintro e w2 ⟨v2, g2, rfl, h4, h5, h6, hb⟩
  have hk : Below w1.heap.size w1 w2 := bel_call (Below.refl _ _) hb
  have S2_2 := Lib.hid (h4.sl)
  have HB_2 := Lib.hid (bel_call HB_1.out hk)
  clear HB_1
  have c3 : Calls Try.prog 16 #[.slice (some ⟨w2.heap.size, 0, none⟩) 3 3, .int .i64 2] (w2.alloc (.cells #[.int .u8 9, .int .u8 1, .int .u8 2] 5)) (GetPost (w2.alloc (.cells #[.int .u8 9, .int .u8 1, .int .u8 2] 5)) 0 0 4 3) := get16_lit w2 _ (by simp) [9, 1, 2] (by unfold ByteL; decide) (by decide) 2 _ _ _ _ (by decide) (by decide) (by decide) (by decide)
  go_wp2_with fail
  refine (c3).mono ?_
  rintro e w3 ⟨rfl, hb⟩
  have hk : Below w2.heap.size w2 w3 := bel_call (bel_alloc (Below.refl _ _) _) hb
  have S2_3 := Lib.hid (S2_2.out.later hk)
  clear S2_2
  have HB_3 := Lib.hid (bel_call HB_2.out hk)
  clear HB_2
  have c4 : Calls Try.prog 18 #[.slice (some ⟨w3.heap.size + 1, 0, none⟩) 1 1, .int .i64 2] ((w3.alloc (.cells #[.int .i64 4, .int .i64 3] 32)).alloc (.cells #[.int .u8 9] 5)) (GetPost ((w3.alloc (.cells #[.int .i64 4, .int .i64 3] 32)).alloc (.cells #[.int .u8 9] 5)) 0 0 5 0) := get32_lit (w3.alloc (.cells #[.int .i64 4, .int .i64 3] 32)) _ (by simp) [9] (by unfold ByteL; decide) (by decide) 2 _ _ _ _ (by decide) (by decide) (by decide) (by decide)
  go_wp2_with fail
  refine (c4).mono ?_
  rintro e w4 ⟨rfl, hb⟩
  have hk : Below w3.heap.size w3 w4 := bel_call (bel_alloc (bel_alloc (Below.refl _ _) _) _) hb
  have S2_4 := Lib.hid (S2_3.out.later hk)
  clear S2_3
  have F3_4 : Hid (Cl w4 (w3.heap.size) (.int .i64 4) (.int .i64 3)) := Lib.hid (by have h := (((Cl.new w3 (.int .i64 4) (.int .i64 3) 32).later (bel_alloc (Below.refl _ _) _)).later hb); simpa only [World.size_alloc] using h)
  have HB_4 := Lib.hid (bel_call HB_3.out hk)
  clear HB_3
  have c5 : Calls Try.prog 20 #[.slice (some ⟨w4.heap.size + 1, 0, none⟩) 3 3, .int .i64 1, .int .i64 (2)] ((w4.alloc (.cells #[.int .i64 5, .int .i64 0] 32)).alloc (.cells #[.int .u8 1, .int .u8 2, .int .u8 3] 5)) (BytesPost ((w4.alloc (.cells #[.int .i64 5, .int .i64 0] 32)).alloc (.cells #[.int .u8 1, .int .u8 2, .int .u8 3] 5)) [2, 3] 3 0 0) := bytes_lit (w4.alloc (.cells #[.int .i64 5, .int .i64 0] 32)) _ (by simp) [1, 2, 3] (by decide) 1 (2) _ _ _ _ (by decide) (by decide) (by decide) (by decide) (by decide)
  go_wp2_with fail
  refine (c5).mono ?_
  rintro e w5 ⟨v5, g5, rfl, p5, q5, r5, hb⟩
  have hk : Below w4.heap.size w4 w5 := bel_call (bel_alloc (bel_alloc (Below.refl _ _) _) _) hb
  have S2_5 := Lib.hid (S2_4.out.later hk)
  clear S2_4
  have F3_5 := Lib.hid (F3_4.out.later hk)
  clear F3_4
  have F4_5 : Hid (Cl w5 (w4.heap.size) (.int .i64 5) (.int .i64 0)) := Lib.hid (by have h := (((Cl.new w4 (.int .i64 5) (.int .i64 0) 32).later (bel_alloc (Below.refl _ _) _)).later hb); simpa only [World.size_alloc] using h)
  have S5_5 := Lib.hid (p5.sl)
  have HB_5 := Lib.hid (bel_call HB_4.out hk)
  clear HB_4
  have c6 : Calls Try.prog 20 #[.slice (some ⟨w5.heap.size + 1, 0, none⟩) 3 3, .int .i64 3, .int .i64 (0)] ((w5.alloc (.cells #[.int .i64 0, .int .i64 0] 32)).alloc (.cells #[.int .u8 1, .int .u8 2, .int .u8 3] 5)) (BytesPost ((w5.alloc (.cells #[.int .i64 0, .int .i64 0] 32)).alloc (.cells #[.int .u8 1, .int .u8 2, .int .u8 3] 5)) [] 3 0 0) := bytes_lit (w5.alloc (.cells #[.int .i64 0, .int .i64 0] 32)) _ (by simp) [1, 2, 3] (by decide) 3 (0) _ _ _ _ (by decide) (by decide) (by decide) (by decide) (by decide)
  go_wp2_with fail
  refine (c6).mono ?_
  rintro e w6 ⟨v6, g6, rfl, p6, q6, r6, hb⟩
  have hk : Below w5.heap.size w5 w6 := bel_call (bel_alloc (bel_alloc (Below.refl _ _) _) _) hb
  have S2_6 := Lib.hid (S2_5.out.later hk)
  clear S2_5
  have F3_6 := Lib.hid (F3_5.out.later hk)
  clear F3_5
  have F4_6 := Lib.hid (F4_5.out.later hk)
  clear F4_5
  have S5_6 := Lib.hid (S5_5.out.later hk)
  clear S5_5
  have F5_6 : Hid (Cl w6 (w5.heap.size) (.int .i64 0) (.int .i64 0)) := Lib.hid (by have h := (((Cl.new w5 (.int .i64 0) (.int .i64 0) 32).later (bel_alloc (Below.refl _ _) _)).later hb); simpa only [World.size_alloc] using h)
  have HB_6 := Lib.hid (bel_call HB_5.out hk)
  clear HB_5
  obtain ⟨a6, rfl⟩ := p6.empty
  have c7 : Calls Try.prog 20 #[.slice (some ⟨w6.heap.size + 1, 0, none⟩) 1 1, .int .i64 0, .int .i64 (-1)] ((w6.alloc (.cells #[.int .i64 0, .int .i64 0] 32)).alloc (.cells #[.int .u8 1] 5)) (BytesPost ((w6.alloc (.cells #[.int .i64 0, .int .i64 0] 32)).alloc (.cells #[.int .u8 1] 5)) [] 0 2 0) := bytes_lit (w6.alloc (.cells #[.int .i64 0, .int .i64 0] 32)) _ (by simp) [1] (by decide) 0 (-1) _ _ _ _ (by decide) (by decide) (by decide) (by decide) (by decide)
  go_wp2_with fail
  refine (c7).mono ?_
  rintro e w7 ⟨v7, g7, rfl, p7, q7, r7, hb⟩
  have hk : Below w6.heap.size w6 w7 := bel_call (bel_alloc (bel_alloc (Below.refl _ _) _) _) hb
  have S2_7 := Lib.hid (S2_6.out.later hk)
  clear S2_6
  have F3_7 := Lib.hid (F3_6.out.later hk)
  clear F3_6
  have F4_7 := Lib.hid (F4_6.out.later hk)
  clear F4_6
  have S5_7 := Lib.hid (S5_6.out.later hk)
  clear S5_6
  have F5_7 := Lib.hid (F5_6.out.later hk)
  clear F5_6
  have F6_7 : Hid (Cl w7 (w6.heap.size) (.int .i64 0) (.int .i64 0)) := Lib.hid (by have h := (((Cl.new w6 (.int .i64 0) (.int .i64 0) 32).later (bel_alloc (Below.refl _ _) _)).later hb); simpa only [World.size_alloc] using h)
  have HB_7 := Lib.hid (bel_call HB_6.out hk)
  clear HB_6
  obtain ⟨kF3, lF3⟩ := F3_7.out
  have nF3 := F3_7.out.lt
  obtain ⟨kF4, lF4⟩ := F4_7.out
  have nF4 := F4_7.out.lt
  have s8 : Sl ((w7.alloc (.cells #[.int .i64 2, .int .i64 0] 32)).alloc (.cells #[.int .u8 0, .int .u8 1, .int .u8 0, .int .u8 0] 5)) g2 (g2 + 1) v2 [0, 1, 0, 0] := S2_7.out.later (bel_alloc (bel_alloc (Below.refl _ _) _) _)
  have t8 : Sl ((w7.alloc (.cells #[.int .i64 2, .int .i64 0] 32)).alloc (.cells #[.int .u8 0, .int .u8 1, .int .u8 0, .int .u8 0] 5)) (w7.heap.size + 1) (w7.heap.size + 1 + 1) (.slice (some ⟨w7.heap.size + 1, 0, none⟩) 4 4) [0, 1, 0, 0] := by have h := sl_lit (w7.alloc (.cells #[.int .i64 2, .int .i64 0] 32)) [0, 1, 0, 0]; first | exact h | (simp only [World.size_alloc] at h; exact h)
  go_wp2_with fail
  refine (same_any s8 t8).mono ?_
  rintro e ww ⟨rfl, rfl⟩
  clear s8 t8
  go_wp2_with fail
  clear kF3 lF3 nF3 kF4 lF4 nF4
  go_wp2_with fail
  refine (awake_any ((w7.alloc (.cells #[.int .i64 2, .int .i64 0] 32)).alloc (.cells #[.int .u8 0, .int .u8 1, .int .u8 0, .int .u8 0] 5))).mono ?_
  rintro e w8 ⟨rfl, hb⟩
  have hk : Below w7.heap.size w7 w8 := bel_call (bel_alloc (bel_alloc (Below.refl _ _) _) _) hb
  have S5_8 := Lib.hid (S5_7.out.later hk)
  clear S5_7
  have F5_8 := Lib.hid (F5_7.out.later hk)
  clear F5_7
  have F6_8 := Lib.hid (F6_7.out.later hk)
  clear F6_7
  have F7_8 : Hid (Cl w8 (w7.heap.size) (.int .i64 2) (.int .i64 0)) := Lib.hid (by have h := (((Cl.new w7 (.int .i64 2) (.int .i64 0) 32).later (bel_alloc (Below.refl _ _) _)).later hb); simpa only [World.size_alloc] using h)
  have HB_8 := Lib.hid (bel_call HB_7.out hk)
  clear HB_7
  obtain ⟨kF5, lF5⟩ := F5_8.out
  have nF5 := F5_8.out.lt
  obtain ⟨kF6, lF6⟩ := F6_8.out
  have nF6 := F6_8.out.lt
  obtain ⟨kF7, lF7⟩ := F7_8.out
  have nF7 := F7_8.out.lt
  have s9 : Sl (w8.alloc (.cells #[.int .u8 2, .int .u8 3] 5)) g5 (g5 + 1) v5 [2, 3] := S5_8.out.later (bel_alloc (Below.refl _ _) _)
  have t9 : Sl (w8.alloc (.cells #[.int .u8 2, .int .u8 3] 5)) (w8.heap.size) (w8.heap.size + 1) (.slice (some ⟨w8.heap.size, 0, none⟩) 2 2) [2, 3] := by have h := sl_lit w8 [2, 3]; first | exact h | (simp only [World.size_alloc] at h; exact h)
  go_wp2_with fail
  refine (same_any s9 t9).mono ?_
  rintro e ww ⟨rfl, rfl⟩
  clear s9 t9
  go_wp2_with fail
  go_ret
  exact ⟨rfl, bel_call HB_8.out (bel_alloc (Below.refl _ _) _)⟩
end Go.Proofs.Ytbfgmenjkneijaa
