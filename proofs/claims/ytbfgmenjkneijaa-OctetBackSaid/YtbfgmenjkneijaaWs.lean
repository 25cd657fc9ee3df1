/-
  The law OctetBack.
-/
import Derived.Test.YtbfgmenjkneijaaWr
namespace Go.Proofs.Ytbfgmenjkneijaa
open Go.RowKit
set_option linter.unusedVariables false

theorem slice_head {w : World} {lo hi c : Nat} {a : Option Addr} {l : List Int} (h : Sl w lo hi (.slice a l.length c) l) (hm : 4 ≤ l.length) :
    ∃ sv, (∀ wx, (Instr.slice 22 (.slice a l.length c) none (some (.int .i64 4)) none).run Try.prog wx = .ok sv wx) ∧ Sl w lo hi sv (l.take 4) := by
  have hlen : (l.take 4).length = 4 := by rw [List.length_take]; omega
  obtain ⟨a', c', he, hc, hn, hq⟩ := h
  injection he with e1 e2 e3
  subst e1; subst e3
  refine ⟨sliced a 0 4 c 1, fun wx => ?_, ?_⟩
  · rw [run_slice_h (P := Try.prog) wx 22 a l.length c Try.underlying22 .i64 4 (by omega) (by omega), size5]
    rfl
  · obtain ⟨b, off, rfl, h1, h2, hx⟩ := hq (by omega)
    refine ⟨some ⟨b, off, none⟩, c, ?_, by omega, fun h => by simp at h, fun _ => ⟨b, off, rfl, h1, h2, fun j hj => ?_⟩⟩
    · unfold sliced
      rw [hlen, if_neg (by omega)]
      simp [Addr.add]
    · rw [hlen] at hj
      rw [hx j (by omega), List.getD, List.getD, List.getElem?_take, if_pos hj]

/-- A row of the call's own, of so many bytes. -/
def OwnN (k : Nat) (w : World) (g : Nat) (v : Value) (l : List Int) : Prop := Own w g v l ∧ v = .slice (some ⟨g, 0, none⟩) k k
theorem OwnN.two {w : World} {g : Nat} {v : Value} {l : List Int} (h : OwnN 2 w g v l) : v = .slice (some ⟨g, 0, none⟩) 2 2 := h.2
theorem OwnN.four {w : World} {g : Nat} {v : Value} {l : List Int} (h : OwnN 4 w g v l) : v = .slice (some ⟨g, 0, none⟩) 4 4 := h.2
theorem OwnN.sl {k : Nat} {w : World} {g : Nat} {v : Value} {l : List Int} (h : OwnN k w g v l) : Sl w g (g + 1) v l := h.1.sl
theorem PutPost.of {k : Nat} {w : World} {l : List Int} {e : Ending} {w' : World} (h : PutPost w 0 l e w') (hl : l.length = k) (hk : 0 < k) :
    ∃ v g, e = .returned (.tuple #[v, .int .i64 0]) ∧ OwnN k w' g v l ∧ w.heap.size ≤ g ∧ g < w'.heap.size ∧ Below w.heap.size w w' := by
  obtain ⟨v, g, h1, h2, h3, h4, h5⟩ := h
  refine ⟨v, g, h1, ⟨h2, ?_⟩, h3, h4, h5⟩
  rcases h2 with ⟨_, h6⟩ | ⟨h6, _⟩
  · subst h6; simp at hl; omega
  · rw [h6, hl]

/-- Put that is fine, of two, of four bytes. -/
def PutTwo (w : World) (L : List Int) (e : Ending) (w' : World) : Prop :=
  ∃ v g, e = .returned (.tuple #[v, .int .i64 0]) ∧ OwnN 2 w' g v L ∧ w.heap.size ≤ g ∧ g < w'.heap.size ∧ Below w.heap.size w w'
def PutFour (w : World) (L : List Int) (e : Ending) (w' : World) : Prop :=
  ∃ v g, e = .returned (.tuple #[v, .int .i64 0]) ∧ OwnN 4 w' g v L ∧ w.heap.size ≤ g ∧ g < w'.heap.size ∧ Below w.heap.size w w'

set_option maxRecDepth 100000 in
set_option maxHeartbeats 8000000 in
theorem back_in16_short (n : Int) (a a' : Option Addr) (c c' : Nat) (al bl : List Int) (w : World) (SA : Hid (Sl w 0 w.heap.size (.slice a al.length c) al)) (SB : Hid (Sl w 0 w.heap.size (.slice a' bl.length c') bl)) (hla : al.length ≤ 1000) (ha : al.length ≤ 100) (hb0 : bl.length ≤ 100) (h0 : 0 ≤ n) (h1 : n ≤ 65535) (e3 : decide (n < 65536) = true)
    (L2 L4 : List Int) (hL2 : L2.length = 2) (hL4 : L4.length = 4) (P16 : Hid (∀ wx, Calls Try.prog 8 #[.int .i64 n] wx (PutTwo wx L2))) (P32 : Hid (∀ wx, Calls Try.prog 10 #[.int .i64 n] wx (PutFour wx L4)))
    (G16 : Hid (∀ wx {lo hi : Nat} {v : Value}, Sl wx lo hi v (al ++ (L2 ++ bl)) → Calls Try.prog 16 #[v, .int .i64 al.length] wx (GetPost wx n (al.length + 2) 0 0)))
    (G32 : Hid (∀ wx {lo hi : Nat} {v : Value}, Sl wx lo hi v (al ++ (L4 ++ bl)) → Calls Try.prog 18 #[v, .int .i64 al.length] wx (GetPost wx n (al.length + 4) 0 0)))
    (F A : Int) (hF : ¬ F = 0) (e1 : (F == 0) = false) (e2 : (F != 0) = true) (T32 : Hid (∀ wx {lo hi : Nat} {v : Value}, Sl wx lo hi v bl → Calls Try.prog 18 #[v, .int .i64 0] wx (GetPost wx 0 0 F A))) :
    Calls Try.prog 5 #[.int .i64 n, .slice a al.length c, .slice a' bl.length c'] w (YesB w) := by
  go_enter Try.func5, Try.ntmps5
  go_wp2_with fail
  refine (awake_any _).mono ?_
  rintro e w1 ⟨rfl, hb⟩
  have hk : Below w.heap.size w w1 := bel_call (Below.refl _ _) hb
  have SA_1 := Lib.hid (SA.out.later hk)
  clear SA
  have SB_1 := Lib.hid (SB.out.later hk)
  clear SB
  have HB_1 := Lib.hid hk
  have HBP0 := Lib.hid HB_1.out
  go_wp2_with fail
  refine (P16.out w1).mono ?_
  rintro e w2 ⟨v, g, rfl, o, a1, b1, hb⟩
  have hk : Below w1.heap.size w1 w2 := bel_call (Below.refl _ _) hb
  have SA_2 := Lib.hid (SA_1.out.later hk)
  clear SA_1
  have SB_2 := Lib.hid (SB_1.out.later hk)
  clear SB_1
  have HB_2 := Lib.hid (bel_call HB_1.out hk)
  clear HB_1
  obtain rfl := o.two
  have SV_2 := Lib.hid o.sl.top
  clear o a1 b1
  have SA_t1 := Lib.hid SA_2.out.top
  have SB_t1 := Lib.hid SB_2.out.top
  have HBP1 := Lib.hid HB_2.out
  go_wp2_with fail
  refine (copy_any (SA_t1.out.later (Below.refl _ _)) hla).mono ?_
  rintro e w3 ⟨v101, rfl, o, hb⟩
  have hk : Below w2.heap.size w2 w3 := bel_call (Below.refl _ _) hb
  have SA_3 := Lib.hid (SA_t1.out.later hk)
  clear SA_t1
  have SB_3 := Lib.hid (SB_t1.out.later hk)
  clear SB_t1
  have SV_3 := Lib.hid (SV_2.out.later hk)
  clear SV_2
  have HB_3 := Lib.hid (bel_call HB_2.out hk)
  clear HB_2
  have OC := Lib.hid o
  have ZC := Lib.hid hb.size
  clear o
  go_wp2_with (at_builtin; refine wpList_app rfl (.tmp 56) (.tmp 57) rfl w2.heap.size 0 w2.heap.size v101 _ al L2 rfl rfl OC.out SV_3.out ?p1 ?q1 ?_)
  case p1 => rw [hL2]; omega
  case q1 => exact ZC.out
  intro x1 wa1 HO HX
  have SA_a1 := Lib.hid (SA_3.out.below HX.out (Nat.le_refl _))
  have SB_a1 := Lib.hid (SB_3.out.below HX.out (Nat.le_refl _))
  have HB_a1 := Lib.hid (HB_3.out.trans (HX.out.mono (HBP1).out.size))
  have ZA := Lib.hid (Nat.le_trans ZC.out HX.out.size)
  clear HX OC
  go_wp2_with (at_builtin; refine wpList_app rfl (.tmp 58) (.tmp 59) rfl w2.heap.size 0 w2.heap.size x1 _ (al ++ L2) bl rfl rfl HO.out SB_a1.out ?r1 ?s1 ?_)
  case r1 => rw [List.length_append, hL2]; omega
  case s1 => exact ZA.out
  intro y1 wb1 HO2 HX
  have SA_b1 := Lib.hid (SA_a1.out.below HX.out (Nat.le_refl _))
  have SB_b1 := Lib.hid (SB_a1.out.below HX.out (Nat.le_refl _))
  have HB_b1 := Lib.hid (HB_a1.out.trans (HX.out.mono (HBP1).out.size))
  clear HX HO ZA ZC SA_a1 SB_a1 HB_a1
  go_wp2_with fail
  refine (G16.out _ HO2.out.sl).mono ?_
  rintro e w4 ⟨rfl, hb⟩
  have hk : Below wb1.heap.size wb1 w4 := bel_call (Below.refl _ _) hb
  have SA_4 := Lib.hid (SA_b1.out.later hk)
  clear SA_b1
  have SB_4 := Lib.hid (SB_b1.out.later hk)
  clear SB_b1
  have HB_4 := Lib.hid (bel_call HB_b1.out hk)
  clear HB_b1
  clear HO2
  go_wp2_with fail
  refine (P32.out (w4.alloc (.cells #[.int .i64 0, .int .i64 0] 32))).mono ?_
  rintro e w5 ⟨v, g, rfl, o, a1, b1, hb⟩
  have hk : Below w4.heap.size w4 w5 := bel_call (bel_alloc (Below.refl _ _) _) hb
  have SA_5 := Lib.hid (SA_4.out.later hk)
  clear SA_4
  have SB_5 := Lib.hid (SB_4.out.later hk)
  clear SB_4
  have HB_5 := Lib.hid (bel_call HB_4.out hk)
  clear HB_4
  obtain rfl := o.four
  have SV_5 := Lib.hid o.sl.top
  clear o a1 b1
  have SA_t2 := Lib.hid SA_5.out.top
  have SB_t2 := Lib.hid SB_5.out.top
  have HBP2 := Lib.hid HB_5.out
  go_wp2_with fail
  refine (copy_any (SA_t2.out.later (Below.refl _ _)) hla).mono ?_
  rintro e w6 ⟨v102, rfl, o, hb⟩
  have hk : Below w5.heap.size w5 w6 := bel_call (Below.refl _ _) hb
  have SA_6 := Lib.hid (SA_t2.out.later hk)
  clear SA_t2
  have SB_6 := Lib.hid (SB_t2.out.later hk)
  clear SB_t2
  have SV_6 := Lib.hid (SV_5.out.later hk)
  clear SV_5
  have HB_6 := Lib.hid (bel_call HB_5.out hk)
  clear HB_5
  have OC := Lib.hid o
  have ZC := Lib.hid hb.size
  clear o
  go_wp2_with (at_builtin; refine wpList_app rfl (.tmp 96) (.tmp 97) rfl w5.heap.size 0 w5.heap.size v102 _ al L4 rfl rfl OC.out SV_6.out ?p2 ?q2 ?_)
  case p2 => rw [hL4]; omega
  case q2 => exact ZC.out
  intro x2 wa2 HO HX
  have SA_a2 := Lib.hid (SA_6.out.below HX.out (Nat.le_refl _))
  have SB_a2 := Lib.hid (SB_6.out.below HX.out (Nat.le_refl _))
  have HB_a2 := Lib.hid (HB_6.out.trans (HX.out.mono (HBP2).out.size))
  have ZA := Lib.hid (Nat.le_trans ZC.out HX.out.size)
  clear HX OC
  go_wp2_with (at_builtin; refine wpList_app rfl (.tmp 98) (.tmp 99) rfl w5.heap.size 0 w5.heap.size x2 _ (al ++ L4) bl rfl rfl HO.out SB_a2.out ?r2 ?s2 ?_)
  case r2 => rw [List.length_append, hL4]; omega
  case s2 => exact ZA.out
  intro y2 wb2 HO2 HX
  have SA_b2 := Lib.hid (SA_a2.out.below HX.out (Nat.le_refl _))
  have SB_b2 := Lib.hid (SB_a2.out.below HX.out (Nat.le_refl _))
  have HB_b2 := Lib.hid (HB_a2.out.trans (HX.out.mono (HBP2).out.size))
  clear HX HO ZA ZC SA_a2 SB_a2 HB_a2
  go_wp2_with fail
  refine (G32.out _ HO2.out.sl).mono ?_
  rintro e w7 ⟨rfl, hb⟩
  have hk : Below wb2.heap.size wb2 w7 := bel_call (Below.refl _ _) hb
  have SA_7 := Lib.hid (SA_b2.out.later hk)
  clear SA_b2
  have SB_7 := Lib.hid (SB_b2.out.later hk)
  clear SB_b2
  have HB_7 := Lib.hid (bel_call HB_b2.out hk)
  clear HB_b2
  clear HO2
  go_wp2_with fail
  refine (T32.out (w7.alloc (.cells #[.int .i64 0, .int .i64 0] 32)) (SB_7.out.later (bel_alloc (Below.refl _ _) _))).mono ?_
  rintro e w8 ⟨rfl, hb⟩
  have hk : Below w7.heap.size w7 w8 := bel_call (bel_alloc (Below.refl _ _) _) hb
  have SA_8 := Lib.hid (SA_7.out.later hk)
  clear SA_7
  have SB_8 := Lib.hid (SB_7.out.later hk)
  clear SB_7
  have HB_8 := Lib.hid (bel_call HB_7.out hk)
  clear HB_7
  go_wp2_with fail
  go_ret
  exact ⟨rfl, bel_call HB_8.out (bel_alloc (Below.refl _ _) _)⟩

set_option maxRecDepth 100000 in
set_option maxHeartbeats 8000000 in
theorem back_in16_long (n : Int) (a a' : Option Addr) (c c' : Nat) (al bl : List Int) (w : World) (SA : Hid (Sl w 0 w.heap.size (.slice a al.length c) al)) (SB : Hid (Sl w 0 w.heap.size (.slice a' bl.length c') bl)) (hla : al.length ≤ 1000) (ha : al.length ≤ 100) (hb0 : bl.length ≤ 100) (h0 : 0 ≤ n) (h1 : n ≤ 65535) (e3 : decide (n < 65536) = true)
    (L2 L4 : List Int) (hL2 : L2.length = 2) (hL4 : L4.length = 4) (P16 : Hid (∀ wx, Calls Try.prog 8 #[.int .i64 n] wx (PutTwo wx L2))) (P32 : Hid (∀ wx, Calls Try.prog 10 #[.int .i64 n] wx (PutFour wx L4)))
    (G16 : Hid (∀ wx {lo hi : Nat} {v : Value}, Sl wx lo hi v (al ++ (L2 ++ bl)) → Calls Try.prog 16 #[v, .int .i64 al.length] wx (GetPost wx n (al.length + 2) 0 0)))
    (G32 : Hid (∀ wx {lo hi : Nat} {v : Value}, Sl wx lo hi v (al ++ (L4 ++ bl)) → Calls Try.prog 18 #[v, .int .i64 al.length] wx (GetPost wx n (al.length + 4) 0 0)))
    (hb4 : 4 ≤ bl.length) (H K : Int) (u0 : 0 ≤ H) (u1 : H ≤ 65535) (u2 : 0 ≤ K) (u3 : K ≤ 65535) (T32 : Hid (∀ wx {lo hi : Nat} {v : Value}, Sl wx lo hi v bl → Calls Try.prog 18 #[v, .int .i64 0] wx (GetPost wx (65536 * H + K) 4 0 0)))
    (PT : Hid (∀ wx, Calls Try.prog 10 #[.int .i64 (65536 * H + K)] wx (PutPost wx 0 (bl.take 4))))
    (T16a : Hid (∀ wx {lo hi : Nat} {v : Value}, Sl wx lo hi v bl → Calls Try.prog 16 #[v, .int .i64 0] wx (GetPost wx H 2 0 0)))
    (T16b : Hid (∀ wx {lo hi : Nat} {v : Value}, Sl wx lo hi v bl → Calls Try.prog 16 #[v, .int .i64 2] wx (GetPost wx K 4 0 0))) :
    Calls Try.prog 5 #[.int .i64 n, .slice a al.length c, .slice a' bl.length c'] w (YesB w) := by
  go_enter Try.func5, Try.ntmps5
  go_wp2_with fail
  refine (awake_any _).mono ?_
  rintro e w1 ⟨rfl, hb⟩
  have hk : Below w.heap.size w w1 := bel_call (Below.refl _ _) hb
  have SA_1 := Lib.hid (SA.out.later hk)
  clear SA
  have SB_1 := Lib.hid (SB.out.later hk)
  clear SB
  have HB_1 := Lib.hid hk
  have HBP0 := Lib.hid HB_1.out
  go_wp2_with fail
  refine (P16.out w1).mono ?_
  rintro e w2 ⟨v, g, rfl, o, a1, b1, hb⟩
  have hk : Below w1.heap.size w1 w2 := bel_call (Below.refl _ _) hb
  have SA_2 := Lib.hid (SA_1.out.later hk)
  clear SA_1
  have SB_2 := Lib.hid (SB_1.out.later hk)
  clear SB_1
  have HB_2 := Lib.hid (bel_call HB_1.out hk)
  clear HB_1
  obtain rfl := o.two
  have SV_2 := Lib.hid o.sl.top
  clear o a1 b1
  have SA_t1 := Lib.hid SA_2.out.top
  have SB_t1 := Lib.hid SB_2.out.top
  have HBP1 := Lib.hid HB_2.out
  go_wp2_with fail
  refine (copy_any (SA_t1.out.later (Below.refl _ _)) hla).mono ?_
  rintro e w3 ⟨v101, rfl, o, hb⟩
  have hk : Below w2.heap.size w2 w3 := bel_call (Below.refl _ _) hb
  have SA_3 := Lib.hid (SA_t1.out.later hk)
  clear SA_t1
  have SB_3 := Lib.hid (SB_t1.out.later hk)
  clear SB_t1
  have SV_3 := Lib.hid (SV_2.out.later hk)
  clear SV_2
  have HB_3 := Lib.hid (bel_call HB_2.out hk)
  clear HB_2
  have OC := Lib.hid o
  have ZC := Lib.hid hb.size
  clear o
  go_wp2_with (at_builtin; refine wpList_app rfl (.tmp 56) (.tmp 57) rfl w2.heap.size 0 w2.heap.size v101 _ al L2 rfl rfl OC.out SV_3.out ?p1 ?q1 ?_)
  case p1 => rw [hL2]; omega
  case q1 => exact ZC.out
  intro x1 wa1 HO HX
  have SA_a1 := Lib.hid (SA_3.out.below HX.out (Nat.le_refl _))
  have SB_a1 := Lib.hid (SB_3.out.below HX.out (Nat.le_refl _))
  have HB_a1 := Lib.hid (HB_3.out.trans (HX.out.mono (HBP1).out.size))
  have ZA := Lib.hid (Nat.le_trans ZC.out HX.out.size)
  clear HX OC
  go_wp2_with (at_builtin; refine wpList_app rfl (.tmp 58) (.tmp 59) rfl w2.heap.size 0 w2.heap.size x1 _ (al ++ L2) bl rfl rfl HO.out SB_a1.out ?r1 ?s1 ?_)
  case r1 => rw [List.length_append, hL2]; omega
  case s1 => exact ZA.out
  intro y1 wb1 HO2 HX
  have SA_b1 := Lib.hid (SA_a1.out.below HX.out (Nat.le_refl _))
  have SB_b1 := Lib.hid (SB_a1.out.below HX.out (Nat.le_refl _))
  have HB_b1 := Lib.hid (HB_a1.out.trans (HX.out.mono (HBP1).out.size))
  clear HX HO ZA ZC SA_a1 SB_a1 HB_a1
  go_wp2_with fail
  refine (G16.out _ HO2.out.sl).mono ?_
  rintro e w4 ⟨rfl, hb⟩
  have hk : Below wb1.heap.size wb1 w4 := bel_call (Below.refl _ _) hb
  have SA_4 := Lib.hid (SA_b1.out.later hk)
  clear SA_b1
  have SB_4 := Lib.hid (SB_b1.out.later hk)
  clear SB_b1
  have HB_4 := Lib.hid (bel_call HB_b1.out hk)
  clear HB_b1
  clear HO2
  go_wp2_with fail
  refine (P32.out (w4.alloc (.cells #[.int .i64 0, .int .i64 0] 32))).mono ?_
  rintro e w5 ⟨v, g, rfl, o, a1, b1, hb⟩
  have hk : Below w4.heap.size w4 w5 := bel_call (bel_alloc (Below.refl _ _) _) hb
  have SA_5 := Lib.hid (SA_4.out.later hk)
  clear SA_4
  have SB_5 := Lib.hid (SB_4.out.later hk)
  clear SB_4
  have HB_5 := Lib.hid (bel_call HB_4.out hk)
  clear HB_4
  obtain rfl := o.four
  have SV_5 := Lib.hid o.sl.top
  clear o a1 b1
  have SA_t2 := Lib.hid SA_5.out.top
  have SB_t2 := Lib.hid SB_5.out.top
  have HBP2 := Lib.hid HB_5.out
  go_wp2_with fail
  refine (copy_any (SA_t2.out.later (Below.refl _ _)) hla).mono ?_
  rintro e w6 ⟨v102, rfl, o, hb⟩
  have hk : Below w5.heap.size w5 w6 := bel_call (Below.refl _ _) hb
  have SA_6 := Lib.hid (SA_t2.out.later hk)
  clear SA_t2
  have SB_6 := Lib.hid (SB_t2.out.later hk)
  clear SB_t2
  have SV_6 := Lib.hid (SV_5.out.later hk)
  clear SV_5
  have HB_6 := Lib.hid (bel_call HB_5.out hk)
  clear HB_5
  have OC := Lib.hid o
  have ZC := Lib.hid hb.size
  clear o
  go_wp2_with (at_builtin; refine wpList_app rfl (.tmp 96) (.tmp 97) rfl w5.heap.size 0 w5.heap.size v102 _ al L4 rfl rfl OC.out SV_6.out ?p2 ?q2 ?_)
  case p2 => rw [hL4]; omega
  case q2 => exact ZC.out
  intro x2 wa2 HO HX
  have SA_a2 := Lib.hid (SA_6.out.below HX.out (Nat.le_refl _))
  have SB_a2 := Lib.hid (SB_6.out.below HX.out (Nat.le_refl _))
  have HB_a2 := Lib.hid (HB_6.out.trans (HX.out.mono (HBP2).out.size))
  have ZA := Lib.hid (Nat.le_trans ZC.out HX.out.size)
  clear HX OC
  go_wp2_with (at_builtin; refine wpList_app rfl (.tmp 98) (.tmp 99) rfl w5.heap.size 0 w5.heap.size x2 _ (al ++ L4) bl rfl rfl HO.out SB_a2.out ?r2 ?s2 ?_)
  case r2 => rw [List.length_append, hL4]; omega
  case s2 => exact ZA.out
  intro y2 wb2 HO2 HX
  have SA_b2 := Lib.hid (SA_a2.out.below HX.out (Nat.le_refl _))
  have SB_b2 := Lib.hid (SB_a2.out.below HX.out (Nat.le_refl _))
  have HB_b2 := Lib.hid (HB_a2.out.trans (HX.out.mono (HBP2).out.size))
  clear HX HO ZA ZC SA_a2 SB_a2 HB_a2
  go_wp2_with fail
  refine (G32.out _ HO2.out.sl).mono ?_
  rintro e w7 ⟨rfl, hb⟩
  have hk : Below wb2.heap.size wb2 w7 := bel_call (Below.refl _ _) hb
  have SA_7 := Lib.hid (SA_b2.out.later hk)
  clear SA_b2
  have SB_7 := Lib.hid (SB_b2.out.later hk)
  clear SB_b2
  have HB_7 := Lib.hid (bel_call HB_b2.out hk)
  clear HB_b2
  clear HO2
  go_wp2_with fail
  refine (T32.out (w7.alloc (.cells #[.int .i64 0, .int .i64 0] 32)) (SB_7.out.later (bel_alloc (Below.refl _ _) _))).mono ?_
  rintro e w8 ⟨rfl, hb⟩
  have hk : Below w7.heap.size w7 w8 := bel_call (bel_alloc (Below.refl _ _) _) hb
  have SA_8 := Lib.hid (SA_7.out.later hk)
  clear SA_7
  have SB_8 := Lib.hid (SB_7.out.later hk)
  clear SB_7
  have HB_8 := Lib.hid (bel_call HB_7.out hk)
  clear HB_7
  go_wp2_with fail
  refine (PT.out (w8.alloc (.cells #[.int .i64 0, .int .i64 0] 32))).mono ?_
  rintro e w9 ⟨vt, gt, rfl, o, a1, b1, hb⟩
  have hk : Below w8.heap.size w8 w9 := bel_call (bel_alloc (Below.refl _ _) _) hb
  have SA_9 := Lib.hid (SA_8.out.later hk)
  clear SA_8
  have SB_9 := Lib.hid (SB_8.out.later hk)
  clear SB_8
  have ST_9 := Lib.hid (o.sl)
  have HB_9 := Lib.hid (bel_call HB_8.out hk)
  clear HB_8
  clear o a1 b1
  go_wp2_with fail
  refine (T16a.out w9 (SB_9.out.later (Below.refl _ _))).mono ?_
  rintro e w10 ⟨rfl, hb⟩
  have hk : Below w9.heap.size w9 w10 := bel_call (Below.refl _ _) hb
  have SA_10 := Lib.hid (SA_9.out.later hk)
  clear SA_9
  have SB_10 := Lib.hid (SB_9.out.later hk)
  clear SB_9
  have ST_10 := Lib.hid (ST_9.out.later hk)
  clear ST_9
  have HB_10 := Lib.hid (bel_call HB_9.out hk)
  clear HB_9
  go_wp2_with fail
  refine (T16b.out (w10.alloc (.cells #[.int .i64 0, .int .i64 0] 32)) (SB_10.out.later (bel_alloc (Below.refl _ _) _))).mono ?_
  rintro e w11 ⟨rfl, hb⟩
  have hk : Below w10.heap.size w10 w11 := bel_call (bel_alloc (Below.refl _ _) _) hb
  have SA_11 := Lib.hid (SA_10.out.later hk)
  clear SA_10
  have SB_11 := Lib.hid (SB_10.out.later hk)
  clear SB_10
  have ST_11 := Lib.hid (ST_10.out.later hk)
  clear ST_10
  have HB_11 := Lib.hid (bel_call HB_10.out hk)
  clear HB_10
  obtain ⟨sv, hrun, hsl⟩ := slice_head (SB_11.out.later (bel_alloc (Below.refl _ _) _)) hb4
  have HS := Lib.hid hsl
  clear hsl
  go_wp2_with fail
  refine (same_any (ST_11.out.later (bel_alloc (Below.refl _ _) _)) HS.out).mono ?_
  rintro e ww ⟨rfl, rfl⟩
  go_wp2_with fail
  go_ret
  exact ⟨rfl, bel_call HB_11.out (bel_alloc (Below.refl _ _) _)⟩

set_option maxRecDepth 100000 in
set_option maxHeartbeats 8000000 in
theorem back_in32_short (n : Int) (a a' : Option Addr) (c c' : Nat) (al bl : List Int) (w : World) (SA : Hid (Sl w 0 w.heap.size (.slice a al.length c) al)) (SB : Hid (Sl w 0 w.heap.size (.slice a' bl.length c') bl)) (hla : al.length ≤ 1000) (ha : al.length ≤ 100) (hb0 : bl.length ≤ 100) (h0 : 65535 < n) (h1 : n ≤ 4294967295)
    (L4 : List Int) (hL4 : L4.length = 4) (P16 : Hid (∀ wx, Calls Try.prog 8 #[.int .i64 n] wx (PutPost wx 5 []))) (P32 : Hid (∀ wx, Calls Try.prog 10 #[.int .i64 n] wx (PutFour wx L4)))
    (G32 : Hid (∀ wx {lo hi : Nat} {v : Value}, Sl wx lo hi v (al ++ (L4 ++ bl)) → Calls Try.prog 18 #[v, .int .i64 al.length] wx (GetPost wx n (al.length + 4) 0 0)))
    (F A : Int) (hF : ¬ F = 0) (e1 : (F == 0) = false) (e2 : (F != 0) = true) (T32 : Hid (∀ wx {lo hi : Nat} {v : Value}, Sl wx lo hi v bl → Calls Try.prog 18 #[v, .int .i64 0] wx (GetPost wx 0 0 F A))) :
    Calls Try.prog 5 #[.int .i64 n, .slice a al.length c, .slice a' bl.length c'] w (YesB w) := by
  go_enter Try.func5, Try.ntmps5
  go_wp2_with fail
  refine (awake_any _).mono ?_
  rintro e w1 ⟨rfl, hb⟩
  have hk : Below w.heap.size w w1 := bel_call (Below.refl _ _) hb
  have SA_1 := Lib.hid (SA.out.later hk)
  clear SA
  have SB_1 := Lib.hid (SB.out.later hk)
  clear SB
  have HB_1 := Lib.hid hk
  go_wp2_with fail
  refine (P16.out w1).mono ?_
  rintro e w2 ⟨v, g, rfl, o, a1, b1, hb⟩
  have hk : Below w1.heap.size w1 w2 := bel_call (Below.refl _ _) hb
  have SA_2 := Lib.hid (SA_1.out.later hk)
  clear SA_1
  have SB_2 := Lib.hid (SB_1.out.later hk)
  clear SB_1
  have HB_2 := Lib.hid (bel_call HB_1.out hk)
  clear HB_1
  clear o a1 b1
  go_wp2_with fail
  refine (P32.out w2).mono ?_
  rintro e w3 ⟨v, g, rfl, o, a1, b1, hb⟩
  have hk : Below w2.heap.size w2 w3 := bel_call (Below.refl _ _) hb
  have SA_3 := Lib.hid (SA_2.out.later hk)
  clear SA_2
  have SB_3 := Lib.hid (SB_2.out.later hk)
  clear SB_2
  have HB_3 := Lib.hid (bel_call HB_2.out hk)
  clear HB_2
  obtain rfl := o.four
  have SV_3 := Lib.hid o.sl.top
  clear o a1 b1
  have SA_t1 := Lib.hid SA_3.out.top
  have SB_t1 := Lib.hid SB_3.out.top
  have HBP1 := Lib.hid HB_3.out
  go_wp2_with fail
  refine (copy_any (SA_t1.out.later (Below.refl _ _)) hla).mono ?_
  rintro e w4 ⟨v101, rfl, o, hb⟩
  have hk : Below w3.heap.size w3 w4 := bel_call (Below.refl _ _) hb
  have SA_4 := Lib.hid (SA_t1.out.later hk)
  clear SA_t1
  have SB_4 := Lib.hid (SB_t1.out.later hk)
  clear SB_t1
  have SV_4 := Lib.hid (SV_3.out.later hk)
  clear SV_3
  have HB_4 := Lib.hid (bel_call HB_3.out hk)
  clear HB_3
  have OC := Lib.hid o
  have ZC := Lib.hid hb.size
  clear o
  go_wp2_with (at_builtin; refine wpList_app rfl (.tmp 96) (.tmp 97) rfl w3.heap.size 0 w3.heap.size v101 _ al L4 rfl rfl OC.out SV_4.out ?p1 ?q1 ?_)
  case p1 => rw [hL4]; omega
  case q1 => exact ZC.out
  intro x1 wa1 HO HX
  have SA_a1 := Lib.hid (SA_4.out.below HX.out (Nat.le_refl _))
  have SB_a1 := Lib.hid (SB_4.out.below HX.out (Nat.le_refl _))
  have HB_a1 := Lib.hid (HB_4.out.trans (HX.out.mono (HBP1).out.size))
  have ZA := Lib.hid (Nat.le_trans ZC.out HX.out.size)
  clear HX OC
  go_wp2_with (at_builtin; refine wpList_app rfl (.tmp 98) (.tmp 99) rfl w3.heap.size 0 w3.heap.size x1 _ (al ++ L4) bl rfl rfl HO.out SB_a1.out ?r1 ?s1 ?_)
  case r1 => rw [List.length_append, hL4]; omega
  case s1 => exact ZA.out
  intro y1 wb1 HO2 HX
  have SA_b1 := Lib.hid (SA_a1.out.below HX.out (Nat.le_refl _))
  have SB_b1 := Lib.hid (SB_a1.out.below HX.out (Nat.le_refl _))
  have HB_b1 := Lib.hid (HB_a1.out.trans (HX.out.mono (HBP1).out.size))
  clear HX HO ZA ZC SA_a1 SB_a1 HB_a1
  go_wp2_with fail
  refine (G32.out _ HO2.out.sl).mono ?_
  rintro e w5 ⟨rfl, hb⟩
  have hk : Below wb1.heap.size wb1 w5 := bel_call (Below.refl _ _) hb
  have SA_5 := Lib.hid (SA_b1.out.later hk)
  clear SA_b1
  have SB_5 := Lib.hid (SB_b1.out.later hk)
  clear SB_b1
  have HB_5 := Lib.hid (bel_call HB_b1.out hk)
  clear HB_b1
  clear HO2
  go_wp2_with fail
  refine (T32.out (w5.alloc (.cells #[.int .i64 0, .int .i64 0] 32)) (SB_5.out.later (bel_alloc (Below.refl _ _) _))).mono ?_
  rintro e w6 ⟨rfl, hb⟩
  have hk : Below w5.heap.size w5 w6 := bel_call (bel_alloc (Below.refl _ _) _) hb
  have SA_6 := Lib.hid (SA_5.out.later hk)
  clear SA_5
  have SB_6 := Lib.hid (SB_5.out.later hk)
  clear SB_5
  have HB_6 := Lib.hid (bel_call HB_5.out hk)
  clear HB_5
  go_wp2_with fail
  go_ret
  exact ⟨rfl, bel_call HB_6.out (bel_alloc (Below.refl _ _) _)⟩

set_option maxRecDepth 100000 in
set_option maxHeartbeats 8000000 in
theorem back_in32_long (n : Int) (a a' : Option Addr) (c c' : Nat) (al bl : List Int) (w : World) (SA : Hid (Sl w 0 w.heap.size (.slice a al.length c) al)) (SB : Hid (Sl w 0 w.heap.size (.slice a' bl.length c') bl)) (hla : al.length ≤ 1000) (ha : al.length ≤ 100) (hb0 : bl.length ≤ 100) (h0 : 65535 < n) (h1 : n ≤ 4294967295)
    (L4 : List Int) (hL4 : L4.length = 4) (P16 : Hid (∀ wx, Calls Try.prog 8 #[.int .i64 n] wx (PutPost wx 5 []))) (P32 : Hid (∀ wx, Calls Try.prog 10 #[.int .i64 n] wx (PutFour wx L4)))
    (G32 : Hid (∀ wx {lo hi : Nat} {v : Value}, Sl wx lo hi v (al ++ (L4 ++ bl)) → Calls Try.prog 18 #[v, .int .i64 al.length] wx (GetPost wx n (al.length + 4) 0 0)))
    (hb4 : 4 ≤ bl.length) (H K : Int) (u0 : 0 ≤ H) (u1 : H ≤ 65535) (u2 : 0 ≤ K) (u3 : K ≤ 65535) (T32 : Hid (∀ wx {lo hi : Nat} {v : Value}, Sl wx lo hi v bl → Calls Try.prog 18 #[v, .int .i64 0] wx (GetPost wx (65536 * H + K) 4 0 0)))
    (PT : Hid (∀ wx, Calls Try.prog 10 #[.int .i64 (65536 * H + K)] wx (PutPost wx 0 (bl.take 4))))
    (T16a : Hid (∀ wx {lo hi : Nat} {v : Value}, Sl wx lo hi v bl → Calls Try.prog 16 #[v, .int .i64 0] wx (GetPost wx H 2 0 0)))
    (T16b : Hid (∀ wx {lo hi : Nat} {v : Value}, Sl wx lo hi v bl → Calls Try.prog 16 #[v, .int .i64 2] wx (GetPost wx K 4 0 0))) :
    Calls Try.prog 5 #[.int .i64 n, .slice a al.length c, .slice a' bl.length c'] w (YesB w) := by
  go_enter Try.func5, Try.ntmps5
  go_wp2_with fail
  refine (awake_any _).mono ?_
  rintro e w1 ⟨rfl, hb⟩
  have hk : Below w.heap.size w w1 := bel_call (Below.refl _ _) hb
  have SA_1 := Lib.hid (SA.out.later hk)
  clear SA
  have SB_1 := Lib.hid (SB.out.later hk)
  clear SB
  have HB_1 := Lib.hid hk
  go_wp2_with fail
  refine (P16.out w1).mono ?_
  rintro e w2 ⟨v, g, rfl, o, a1, b1, hb⟩
  have hk : Below w1.heap.size w1 w2 := bel_call (Below.refl _ _) hb
  have SA_2 := Lib.hid (SA_1.out.later hk)
  clear SA_1
  have SB_2 := Lib.hid (SB_1.out.later hk)
  clear SB_1
  have HB_2 := Lib.hid (bel_call HB_1.out hk)
  clear HB_1
  clear o a1 b1
  go_wp2_with fail
  refine (P32.out w2).mono ?_
  rintro e w3 ⟨v, g, rfl, o, a1, b1, hb⟩
  have hk : Below w2.heap.size w2 w3 := bel_call (Below.refl _ _) hb
  have SA_3 := Lib.hid (SA_2.out.later hk)
  clear SA_2
  have SB_3 := Lib.hid (SB_2.out.later hk)
  clear SB_2
  have HB_3 := Lib.hid (bel_call HB_2.out hk)
  clear HB_2
  obtain rfl := o.four
  have SV_3 := Lib.hid o.sl.top
  clear o a1 b1
  have SA_t1 := Lib.hid SA_3.out.top
  have SB_t1 := Lib.hid SB_3.out.top
  have HBP1 := Lib.hid HB_3.out
  go_wp2_with fail
  refine (copy_any (SA_t1.out.later (Below.refl _ _)) hla).mono ?_
  rintro e w4 ⟨v101, rfl, o, hb⟩
  have hk : Below w3.heap.size w3 w4 := bel_call (Below.refl _ _) hb
  have SA_4 := Lib.hid (SA_t1.out.later hk)
  clear SA_t1
  have SB_4 := Lib.hid (SB_t1.out.later hk)
  clear SB_t1
  have SV_4 := Lib.hid (SV_3.out.later hk)
  clear SV_3
  have HB_4 := Lib.hid (bel_call HB_3.out hk)
  clear HB_3
  have OC := Lib.hid o
  have ZC := Lib.hid hb.size
  clear o
  go_wp2_with (at_builtin; refine wpList_app rfl (.tmp 96) (.tmp 97) rfl w3.heap.size 0 w3.heap.size v101 _ al L4 rfl rfl OC.out SV_4.out ?p1 ?q1 ?_)
  case p1 => rw [hL4]; omega
  case q1 => exact ZC.out
  intro x1 wa1 HO HX
  have SA_a1 := Lib.hid (SA_4.out.below HX.out (Nat.le_refl _))
  have SB_a1 := Lib.hid (SB_4.out.below HX.out (Nat.le_refl _))
  have HB_a1 := Lib.hid (HB_4.out.trans (HX.out.mono (HBP1).out.size))
  have ZA := Lib.hid (Nat.le_trans ZC.out HX.out.size)
  clear HX OC
  go_wp2_with (at_builtin; refine wpList_app rfl (.tmp 98) (.tmp 99) rfl w3.heap.size 0 w3.heap.size x1 _ (al ++ L4) bl rfl rfl HO.out SB_a1.out ?r1 ?s1 ?_)
  case r1 => rw [List.length_append, hL4]; omega
  case s1 => exact ZA.out
  intro y1 wb1 HO2 HX
  have SA_b1 := Lib.hid (SA_a1.out.below HX.out (Nat.le_refl _))
  have SB_b1 := Lib.hid (SB_a1.out.below HX.out (Nat.le_refl _))
  have HB_b1 := Lib.hid (HB_a1.out.trans (HX.out.mono (HBP1).out.size))
  clear HX HO ZA ZC SA_a1 SB_a1 HB_a1
  go_wp2_with fail
  refine (G32.out _ HO2.out.sl).mono ?_
  rintro e w5 ⟨rfl, hb⟩
  have hk : Below wb1.heap.size wb1 w5 := bel_call (Below.refl _ _) hb
  have SA_5 := Lib.hid (SA_b1.out.later hk)
  clear SA_b1
  have SB_5 := Lib.hid (SB_b1.out.later hk)
  clear SB_b1
  have HB_5 := Lib.hid (bel_call HB_b1.out hk)
  clear HB_b1
  clear HO2
  go_wp2_with fail
  refine (T32.out (w5.alloc (.cells #[.int .i64 0, .int .i64 0] 32)) (SB_5.out.later (bel_alloc (Below.refl _ _) _))).mono ?_
  rintro e w6 ⟨rfl, hb⟩
  have hk : Below w5.heap.size w5 w6 := bel_call (bel_alloc (Below.refl _ _) _) hb
  have SA_6 := Lib.hid (SA_5.out.later hk)
  clear SA_5
  have SB_6 := Lib.hid (SB_5.out.later hk)
  clear SB_5
  have HB_6 := Lib.hid (bel_call HB_5.out hk)
  clear HB_5
  go_wp2_with fail
  refine (PT.out (w6.alloc (.cells #[.int .i64 0, .int .i64 0] 32))).mono ?_
  rintro e w7 ⟨vt, gt, rfl, o, a1, b1, hb⟩
  have hk : Below w6.heap.size w6 w7 := bel_call (bel_alloc (Below.refl _ _) _) hb
  have SA_7 := Lib.hid (SA_6.out.later hk)
  clear SA_6
  have SB_7 := Lib.hid (SB_6.out.later hk)
  clear SB_6
  have ST_7 := Lib.hid (o.sl)
  have HB_7 := Lib.hid (bel_call HB_6.out hk)
  clear HB_6
  clear o a1 b1
  go_wp2_with fail
  refine (T16a.out w7 (SB_7.out.later (Below.refl _ _))).mono ?_
  rintro e w8 ⟨rfl, hb⟩
  have hk : Below w7.heap.size w7 w8 := bel_call (Below.refl _ _) hb
  have SA_8 := Lib.hid (SA_7.out.later hk)
  clear SA_7
  have SB_8 := Lib.hid (SB_7.out.later hk)
  clear SB_7
  have ST_8 := Lib.hid (ST_7.out.later hk)
  clear ST_7
  have HB_8 := Lib.hid (bel_call HB_7.out hk)
  clear HB_7
  go_wp2_with fail
  refine (T16b.out (w8.alloc (.cells #[.int .i64 0, .int .i64 0] 32)) (SB_8.out.later (bel_alloc (Below.refl _ _) _))).mono ?_
  rintro e w9 ⟨rfl, hb⟩
  have hk : Below w8.heap.size w8 w9 := bel_call (bel_alloc (Below.refl _ _) _) hb
  have SA_9 := Lib.hid (SA_8.out.later hk)
  clear SA_8
  have SB_9 := Lib.hid (SB_8.out.later hk)
  clear SB_8
  have ST_9 := Lib.hid (ST_8.out.later hk)
  clear ST_8
  have HB_9 := Lib.hid (bel_call HB_8.out hk)
  clear HB_8
  obtain ⟨sv, hrun, hsl⟩ := slice_head (SB_9.out.later (bel_alloc (Below.refl _ _) _)) hb4
  have HS := Lib.hid hsl
  clear hsl
  go_wp2_with fail
  refine (same_any (ST_9.out.later (bel_alloc (Below.refl _ _) _)) HS.out).mono ?_
  rintro e ww ⟨rfl, rfl⟩
  go_wp2_with fail
  go_ret
  exact ⟨rfl, bel_call HB_9.out (bel_alloc (Below.refl _ _) _)⟩

set_option maxRecDepth 100000 in
set_option maxHeartbeats 8000000 in
theorem back_low_short (n : Int) (a a' : Option Addr) (c c' : Nat) (al bl : List Int) (w : World) (SA : Hid (Sl w 0 w.heap.size (.slice a al.length c) al)) (SB : Hid (Sl w 0 w.heap.size (.slice a' bl.length c') bl)) (hla : al.length ≤ 1000) (ha : al.length ≤ 100) (hb0 : bl.length ≤ 100) (h0 : n < 0)
    (P16 : Hid (∀ wx, Calls Try.prog 8 #[.int .i64 n] wx (PutPost wx 5 []))) (P32 : Hid (∀ wx, Calls Try.prog 10 #[.int .i64 n] wx (PutPost wx 5 [])))
    (F A : Int) (hF : ¬ F = 0) (e1 : (F == 0) = false) (e2 : (F != 0) = true) (T32 : Hid (∀ wx {lo hi : Nat} {v : Value}, Sl wx lo hi v bl → Calls Try.prog 18 #[v, .int .i64 0] wx (GetPost wx 0 0 F A))) :
    Calls Try.prog 5 #[.int .i64 n, .slice a al.length c, .slice a' bl.length c'] w (YesB w) := by
  go_enter Try.func5, Try.ntmps5
  go_wp2_with fail
  refine (awake_any _).mono ?_
  rintro e w1 ⟨rfl, hb⟩
  have hk : Below w.heap.size w w1 := bel_call (Below.refl _ _) hb
  have SA_1 := Lib.hid (SA.out.later hk)
  clear SA
  have SB_1 := Lib.hid (SB.out.later hk)
  clear SB
  have HB_1 := Lib.hid hk
  go_wp2_with fail
  refine (P16.out w1).mono ?_
  rintro e w2 ⟨v, g, rfl, o, a1, b1, hb⟩
  have hk : Below w1.heap.size w1 w2 := bel_call (Below.refl _ _) hb
  have SA_2 := Lib.hid (SA_1.out.later hk)
  clear SA_1
  have SB_2 := Lib.hid (SB_1.out.later hk)
  clear SB_1
  have HB_2 := Lib.hid (bel_call HB_1.out hk)
  clear HB_1
  clear o a1 b1
  go_wp2_with fail
  refine (P32.out w2).mono ?_
  rintro e w3 ⟨v', g', rfl, o, a1, b1, hb⟩
  have hk : Below w2.heap.size w2 w3 := bel_call (Below.refl _ _) hb
  have SA_3 := Lib.hid (SA_2.out.later hk)
  clear SA_2
  have SB_3 := Lib.hid (SB_2.out.later hk)
  clear SB_2
  have HB_3 := Lib.hid (bel_call HB_2.out hk)
  clear HB_2
  clear o a1 b1
  go_wp2_with fail
  refine (T32.out w3 (SB_3.out.later (Below.refl _ _))).mono ?_
  rintro e w4 ⟨rfl, hb⟩
  have hk : Below w3.heap.size w3 w4 := bel_call (Below.refl _ _) hb
  have SA_4 := Lib.hid (SA_3.out.later hk)
  clear SA_3
  have SB_4 := Lib.hid (SB_3.out.later hk)
  clear SB_3
  have HB_4 := Lib.hid (bel_call HB_3.out hk)
  clear HB_3
  go_wp2_with fail
  go_ret
  exact ⟨rfl, bel_call HB_4.out (bel_alloc (Below.refl _ _) _)⟩

set_option maxRecDepth 100000 in
set_option maxHeartbeats 8000000 in
theorem back_low_long (n : Int) (a a' : Option Addr) (c c' : Nat) (al bl : List Int) (w : World) (SA : Hid (Sl w 0 w.heap.size (.slice a al.length c) al)) (SB : Hid (Sl w 0 w.heap.size (.slice a' bl.length c') bl)) (hla : al.length ≤ 1000) (ha : al.length ≤ 100) (hb0 : bl.length ≤ 100) (h0 : n < 0)
    (P16 : Hid (∀ wx, Calls Try.prog 8 #[.int .i64 n] wx (PutPost wx 5 []))) (P32 : Hid (∀ wx, Calls Try.prog 10 #[.int .i64 n] wx (PutPost wx 5 [])))
    (hb4 : 4 ≤ bl.length) (H K : Int) (u0 : 0 ≤ H) (u1 : H ≤ 65535) (u2 : 0 ≤ K) (u3 : K ≤ 65535) (T32 : Hid (∀ wx {lo hi : Nat} {v : Value}, Sl wx lo hi v bl → Calls Try.prog 18 #[v, .int .i64 0] wx (GetPost wx (65536 * H + K) 4 0 0)))
    (PT : Hid (∀ wx, Calls Try.prog 10 #[.int .i64 (65536 * H + K)] wx (PutPost wx 0 (bl.take 4))))
    (T16a : Hid (∀ wx {lo hi : Nat} {v : Value}, Sl wx lo hi v bl → Calls Try.prog 16 #[v, .int .i64 0] wx (GetPost wx H 2 0 0)))
    (T16b : Hid (∀ wx {lo hi : Nat} {v : Value}, Sl wx lo hi v bl → Calls Try.prog 16 #[v, .int .i64 2] wx (GetPost wx K 4 0 0))) :
    Calls Try.prog 5 #[.int .i64 n, .slice a al.length c, .slice a' bl.length c'] w (YesB w) := by
  go_enter Try.func5, Try.ntmps5
  go_wp2_with fail
  refine (awake_any _).mono ?_
  rintro e w1 ⟨rfl, hb⟩
  have hk : Below w.heap.size w w1 := bel_call (Below.refl _ _) hb
  have SA_1 := Lib.hid (SA.out.later hk)
  clear SA
  have SB_1 := Lib.hid (SB.out.later hk)
  clear SB
  have HB_1 := Lib.hid hk
  go_wp2_with fail
  refine (P16.out w1).mono ?_
  rintro e w2 ⟨v, g, rfl, o, a1, b1, hb⟩
  have hk : Below w1.heap.size w1 w2 := bel_call (Below.refl _ _) hb
  have SA_2 := Lib.hid (SA_1.out.later hk)
  clear SA_1
  have SB_2 := Lib.hid (SB_1.out.later hk)
  clear SB_1
  have HB_2 := Lib.hid (bel_call HB_1.out hk)
  clear HB_1
  clear o a1 b1
  go_wp2_with fail
  refine (P32.out w2).mono ?_
  rintro e w3 ⟨v', g', rfl, o, a1, b1, hb⟩
  have hk : Below w2.heap.size w2 w3 := bel_call (Below.refl _ _) hb
  have SA_3 := Lib.hid (SA_2.out.later hk)
  clear SA_2
  have SB_3 := Lib.hid (SB_2.out.later hk)
  clear SB_2
  have HB_3 := Lib.hid (bel_call HB_2.out hk)
  clear HB_2
  clear o a1 b1
  go_wp2_with fail
  refine (T32.out w3 (SB_3.out.later (Below.refl _ _))).mono ?_
  rintro e w4 ⟨rfl, hb⟩
  have hk : Below w3.heap.size w3 w4 := bel_call (Below.refl _ _) hb
  have SA_4 := Lib.hid (SA_3.out.later hk)
  clear SA_3
  have SB_4 := Lib.hid (SB_3.out.later hk)
  clear SB_3
  have HB_4 := Lib.hid (bel_call HB_3.out hk)
  clear HB_3
  go_wp2_with fail
  refine (PT.out (w4.alloc (.cells #[.int .i64 0, .int .i64 0] 32))).mono ?_
  rintro e w5 ⟨vt, gt, rfl, o, a1, b1, hb⟩
  have hk : Below w4.heap.size w4 w5 := bel_call (bel_alloc (Below.refl _ _) _) hb
  have SA_5 := Lib.hid (SA_4.out.later hk)
  clear SA_4
  have SB_5 := Lib.hid (SB_4.out.later hk)
  clear SB_4
  have ST_5 := Lib.hid (o.sl)
  have HB_5 := Lib.hid (bel_call HB_4.out hk)
  clear HB_4
  clear o a1 b1
  go_wp2_with fail
  refine (T16a.out w5 (SB_5.out.later (Below.refl _ _))).mono ?_
  rintro e w6 ⟨rfl, hb⟩
  have hk : Below w5.heap.size w5 w6 := bel_call (Below.refl _ _) hb
  have SA_6 := Lib.hid (SA_5.out.later hk)
  clear SA_5
  have SB_6 := Lib.hid (SB_5.out.later hk)
  clear SB_5
  have ST_6 := Lib.hid (ST_5.out.later hk)
  clear ST_5
  have HB_6 := Lib.hid (bel_call HB_5.out hk)
  clear HB_5
  go_wp2_with fail
  refine (T16b.out (w6.alloc (.cells #[.int .i64 0, .int .i64 0] 32)) (SB_6.out.later (bel_alloc (Below.refl _ _) _))).mono ?_
  rintro e w7 ⟨rfl, hb⟩
  have hk : Below w6.heap.size w6 w7 := bel_call (bel_alloc (Below.refl _ _) _) hb
  have SA_7 := Lib.hid (SA_6.out.later hk)
  clear SA_6
  have SB_7 := Lib.hid (SB_6.out.later hk)
  clear SB_6
  have ST_7 := Lib.hid (ST_6.out.later hk)
  clear ST_6
  have HB_7 := Lib.hid (bel_call HB_6.out hk)
  clear HB_6
  obtain ⟨sv, hrun, hsl⟩ := slice_head (SB_7.out.later (bel_alloc (Below.refl _ _) _)) hb4
  have HS := Lib.hid hsl
  clear hsl
  go_wp2_with fail
  refine (same_any (ST_7.out.later (bel_alloc (Below.refl _ _) _)) HS.out).mono ?_
  rintro e ww ⟨rfl, rfl⟩
  go_wp2_with fail
  go_ret
  exact ⟨rfl, bel_call HB_7.out (bel_alloc (Below.refl _ _) _)⟩

set_option maxRecDepth 100000 in
set_option maxHeartbeats 8000000 in
theorem back_high_short (n : Int) (a a' : Option Addr) (c c' : Nat) (al bl : List Int) (w : World) (SA : Hid (Sl w 0 w.heap.size (.slice a al.length c) al)) (SB : Hid (Sl w 0 w.heap.size (.slice a' bl.length c') bl)) (hla : al.length ≤ 1000) (ha : al.length ≤ 100) (hb0 : bl.length ≤ 100) (h0 : 4294967295 < n)
    (P16 : Hid (∀ wx, Calls Try.prog 8 #[.int .i64 n] wx (PutPost wx 5 []))) (P32 : Hid (∀ wx, Calls Try.prog 10 #[.int .i64 n] wx (PutPost wx 5 [])))
    (F A : Int) (hF : ¬ F = 0) (e1 : (F == 0) = false) (e2 : (F != 0) = true) (T32 : Hid (∀ wx {lo hi : Nat} {v : Value}, Sl wx lo hi v bl → Calls Try.prog 18 #[v, .int .i64 0] wx (GetPost wx 0 0 F A))) :
    Calls Try.prog 5 #[.int .i64 n, .slice a al.length c, .slice a' bl.length c'] w (YesB w) := by
  go_enter Try.func5, Try.ntmps5
  go_wp2_with fail
  refine (awake_any _).mono ?_
  rintro e w1 ⟨rfl, hb⟩
  have hk : Below w.heap.size w w1 := bel_call (Below.refl _ _) hb
  have SA_1 := Lib.hid (SA.out.later hk)
  clear SA
  have SB_1 := Lib.hid (SB.out.later hk)
  clear SB
  have HB_1 := Lib.hid hk
  go_wp2_with fail
  refine (P16.out w1).mono ?_
  rintro e w2 ⟨v, g, rfl, o, a1, b1, hb⟩
  have hk : Below w1.heap.size w1 w2 := bel_call (Below.refl _ _) hb
  have SA_2 := Lib.hid (SA_1.out.later hk)
  clear SA_1
  have SB_2 := Lib.hid (SB_1.out.later hk)
  clear SB_1
  have HB_2 := Lib.hid (bel_call HB_1.out hk)
  clear HB_1
  clear o a1 b1
  go_wp2_with fail
  refine (P32.out w2).mono ?_
  rintro e w3 ⟨v', g', rfl, o, a1, b1, hb⟩
  have hk : Below w2.heap.size w2 w3 := bel_call (Below.refl _ _) hb
  have SA_3 := Lib.hid (SA_2.out.later hk)
  clear SA_2
  have SB_3 := Lib.hid (SB_2.out.later hk)
  clear SB_2
  have HB_3 := Lib.hid (bel_call HB_2.out hk)
  clear HB_2
  clear o a1 b1
  go_wp2_with fail
  refine (T32.out w3 (SB_3.out.later (Below.refl _ _))).mono ?_
  rintro e w4 ⟨rfl, hb⟩
  have hk : Below w3.heap.size w3 w4 := bel_call (Below.refl _ _) hb
  have SA_4 := Lib.hid (SA_3.out.later hk)
  clear SA_3
  have SB_4 := Lib.hid (SB_3.out.later hk)
  clear SB_3
  have HB_4 := Lib.hid (bel_call HB_3.out hk)
  clear HB_3
  go_wp2_with fail
  go_ret
  exact ⟨rfl, bel_call HB_4.out (bel_alloc (Below.refl _ _) _)⟩

set_option maxRecDepth 100000 in
set_option maxHeartbeats 8000000 in
theorem back_high_long (n : Int) (a a' : Option Addr) (c c' : Nat) (al bl : List Int) (w : World) (SA : Hid (Sl w 0 w.heap.size (.slice a al.length c) al)) (SB : Hid (Sl w 0 w.heap.size (.slice a' bl.length c') bl)) (hla : al.length ≤ 1000) (ha : al.length ≤ 100) (hb0 : bl.length ≤ 100) (h0 : 4294967295 < n)
    (P16 : Hid (∀ wx, Calls Try.prog 8 #[.int .i64 n] wx (PutPost wx 5 []))) (P32 : Hid (∀ wx, Calls Try.prog 10 #[.int .i64 n] wx (PutPost wx 5 [])))
    (hb4 : 4 ≤ bl.length) (H K : Int) (u0 : 0 ≤ H) (u1 : H ≤ 65535) (u2 : 0 ≤ K) (u3 : K ≤ 65535) (T32 : Hid (∀ wx {lo hi : Nat} {v : Value}, Sl wx lo hi v bl → Calls Try.prog 18 #[v, .int .i64 0] wx (GetPost wx (65536 * H + K) 4 0 0)))
    (PT : Hid (∀ wx, Calls Try.prog 10 #[.int .i64 (65536 * H + K)] wx (PutPost wx 0 (bl.take 4))))
    (T16a : Hid (∀ wx {lo hi : Nat} {v : Value}, Sl wx lo hi v bl → Calls Try.prog 16 #[v, .int .i64 0] wx (GetPost wx H 2 0 0)))
    (T16b : Hid (∀ wx {lo hi : Nat} {v : Value}, Sl wx lo hi v bl → Calls Try.prog 16 #[v, .int .i64 2] wx (GetPost wx K 4 0 0))) :
    Calls Try.prog 5 #[.int .i64 n, .slice a al.length c, .slice a' bl.length c'] w (YesB w) := by
  go_enter Try.func5, Try.ntmps5
  go_wp2_with fail
  refine (awake_any _).mono ?_
  rintro e w1 ⟨rfl, hb⟩
  have hk : Below w.heap.size w w1 := bel_call (Below.refl _ _) hb
  have SA_1 := Lib.hid (SA.out.later hk)
  clear SA
  have SB_1 := Lib.hid (SB.out.later hk)
  clear SB
  have HB_1 := Lib.hid hk
  go_wp2_with fail
  refine (P16.out w1).mono ?_
  rintro e w2 ⟨v, g, rfl, o, a1, b1, hb⟩
  have hk : Below w1.heap.size w1 w2 := bel_call (Below.refl _ _) hb
  have SA_2 := Lib.hid (SA_1.out.later hk)
  clear SA_1
  have SB_2 := Lib.hid (SB_1.out.later hk)
  clear SB_1
  have HB_2 := Lib.hid (bel_call HB_1.out hk)
  clear HB_1
  clear o a1 b1
  go_wp2_with fail
  refine (P32.out w2).mono ?_
  rintro e w3 ⟨v', g', rfl, o, a1, b1, hb⟩
  have hk : Below w2.heap.size w2 w3 := bel_call (Below.refl _ _) hb
  have SA_3 := Lib.hid (SA_2.out.later hk)
  clear SA_2
  have SB_3 := Lib.hid (SB_2.out.later hk)
  clear SB_2
  have HB_3 := Lib.hid (bel_call HB_2.out hk)
  clear HB_2
  clear o a1 b1
  go_wp2_with fail
  refine (T32.out w3 (SB_3.out.later (Below.refl _ _))).mono ?_
  rintro e w4 ⟨rfl, hb⟩
  have hk : Below w3.heap.size w3 w4 := bel_call (Below.refl _ _) hb
  have SA_4 := Lib.hid (SA_3.out.later hk)
  clear SA_3
  have SB_4 := Lib.hid (SB_3.out.later hk)
  clear SB_3
  have HB_4 := Lib.hid (bel_call HB_3.out hk)
  clear HB_3
  go_wp2_with fail
  refine (PT.out (w4.alloc (.cells #[.int .i64 0, .int .i64 0] 32))).mono ?_
  rintro e w5 ⟨vt, gt, rfl, o, a1, b1, hb⟩
  have hk : Below w4.heap.size w4 w5 := bel_call (bel_alloc (Below.refl _ _) _) hb
  have SA_5 := Lib.hid (SA_4.out.later hk)
  clear SA_4
  have SB_5 := Lib.hid (SB_4.out.later hk)
  clear SB_4
  have ST_5 := Lib.hid (o.sl)
  have HB_5 := Lib.hid (bel_call HB_4.out hk)
  clear HB_4
  clear o a1 b1
  go_wp2_with fail
  refine (T16a.out w5 (SB_5.out.later (Below.refl _ _))).mono ?_
  rintro e w6 ⟨rfl, hb⟩
  have hk : Below w5.heap.size w5 w6 := bel_call (Below.refl _ _) hb
  have SA_6 := Lib.hid (SA_5.out.later hk)
  clear SA_5
  have SB_6 := Lib.hid (SB_5.out.later hk)
  clear SB_5
  have ST_6 := Lib.hid (ST_5.out.later hk)
  clear ST_5
  have HB_6 := Lib.hid (bel_call HB_5.out hk)
  clear HB_5
  go_wp2_with fail
  refine (T16b.out (w6.alloc (.cells #[.int .i64 0, .int .i64 0] 32)) (SB_6.out.later (bel_alloc (Below.refl _ _) _))).mono ?_
  rintro e w7 ⟨rfl, hb⟩
  have hk : Below w6.heap.size w6 w7 := bel_call (bel_alloc (Below.refl _ _) _) hb
  have SA_7 := Lib.hid (SA_6.out.later hk)
  clear SA_6
  have SB_7 := Lib.hid (SB_6.out.later hk)
  clear SB_6
  have ST_7 := Lib.hid (ST_6.out.later hk)
  clear ST_6
  have HB_7 := Lib.hid (bel_call HB_6.out hk)
  clear HB_6
  obtain ⟨sv, hrun, hsl⟩ := slice_head (SB_7.out.later (bel_alloc (Below.refl _ _) _)) hb4
  have HS := Lib.hid hsl
  clear hsl
  go_wp2_with fail
  refine (same_any (ST_7.out.later (bel_alloc (Below.refl _ _) _)) HS.out).mono ?_
  rintro e ww ⟨rfl, rfl⟩
  go_wp2_with fail
  go_ret
  exact ⟨rfl, bel_call HB_7.out (bel_alloc (Below.refl _ _) _)⟩

end Go.Proofs.Ytbfgmenjkneijaa
