/-
  The law OctetParts.
-/
import Derived.Test.YtbfgmenjkneijaaWq
namespace Go.Proofs.Ytbfgmenjkneijaa
open Go.RowKit
set_option linter.unusedVariables false

theorem bytes_at (l : List Int) (p k : Nat) (hl : l.length ≤ 1000000) (h : p + k ≤ l.length) :
    ∀ wx {lo hi : Nat} {v : Value}, Sl wx lo hi v l → Calls Try.prog 20 #[v, .int .i64 p, .int .i64 k] wx (BytesPost wx (cutL l p k) (p + k) 0 0) := fun wx _ _ _ hs => by
  have e1 : bytL l p k = cutL l p k := by unfold bytL; rw [if_pos (by omega), Int.toNat_natCast, Int.toNat_natCast]
  have e2 : bytF l.length p k = p + k := by unfold bytF; rw [if_pos (by omega)]
  have e3 : bytE l.length p k = 0 := by unfold bytE; rw [if_neg (by omega), if_neg (by omega), if_neg (by omega)]
  have e4 : bytA l.length p k = 0 := by unfold bytA; rw [if_neg (by omega)]
  have := bytes_any hs.top hl (Nat.le_refl _) p k (by omega)
  rw [e1, e2, e3, e4] at this
  exact this
theorem bytes_at_no (l : List Int) (p k : Nat) (hl : l.length ≤ 1000000) (h : p ≤ l.length) (h1 : l.length < p + k) (h2 : k ≤ 1000000 := by omega) :
    ∀ wx {lo hi : Nat} {v : Value}, Sl wx lo hi v l → Calls Try.prog 20 #[v, .int .i64 p, .int .i64 k] wx (BytesPost wx [] 0 4 l.length) := fun wx _ _ _ hs => by
  have e1 : bytL l p k = [] := by unfold bytL; rw [if_neg (by omega)]
  have e2 : bytF l.length p k = 0 := by unfold bytF; rw [if_neg (by omega)]
  have e3 : bytE l.length p k = 4 := by unfold bytE; rw [if_neg (by omega), if_neg (by omega), if_pos (by omega)]
  have e4 : bytA l.length p k = l.length := by unfold bytA; rw [if_pos (by omega)]
  have := bytes_any hs.top hl (Nat.le_refl _) p k (by omega)
  rw [e1, e2, e3, e4] at this
  exact this

/-- append onto a row of the call's own, under a guard that holds. -/
theorem wpList_app_g {w : World} {ops : Array Oper} {rest : List Oper} {o : Oper} {a : Act} {Q : Exit → Act → World → Prop} (hw : Region.wanted o (yielded ops a.tmps) = true) (s x : Operand)
    (ho : o.op = .call { callee := .builtin .append, args := #[s, x], argTypes := #[22, 22] })
    (B lo hi : Nat) (v xv : Value) (l l' : List Int) (hs : a.eval s = v) (hx : a.eval x = xv) (hown : OwnR w B v l) (hsl : Sl w lo hi xv l') (hb : l.length + l'.length ≤ 1000000) (hB : B ≤ w.heap.size)
    (h : ∀ v' w', Hid (OwnR w' B v' (l ++ l')) → Hid (Below B w w') → wpList Try.prog ops Q rest (a.put o.dst v') w') : wpList Try.prog ops Q (o :: rest) a w := by
  obtain ⟨i0, hi, hz0, hz1, hz2⟩ := info_parts Try.info5
  have hown' : w.ownsRow B 5 1 v l.length (l.map (Value.int .u8)) := hown
  obtain ⟨ad, c, rfl, hc, hn, hp⟩ := hsl
  have hrow : ∀ k, v.ownBlock = some k → B ≤ k := fun k hk => (World.ownsRow.lt hown k hk).1
  refine wpList_step fun K hK => ?_
  rw [if_pos hw]
  rcases ad with _ | ad
  · have hc0 := hn rfl
    subst hc0
    have h0 : l' = [] := List.eq_nil_of_length_eq_zero (by omega)
    subst h0
    have hrun := run_append_owned_none (P := Try.prog) (w := w) B 22 o.type 5 i0 1 Try.underlying22 hi v l.length (l.map (Value.int .u8)) hown'
    unfold Oper.wp
    simp [execOp, ho, resolve, invoke, builtin, hs, hx, hrun, Result.andThen]
    exact hK _ _ (h v w (by rw [List.append_nil]; exact hown) (Below.refl _ _))
  · refine wp_append_own w s x 22 ho B 5 i0 (.int .u8 0) 1 1 Try.underlying22 hi hz0 hz1 hz2 rfl (by decide) v l.length (l.map (Value.int .u8)) hs hown' ad l'.length c (l'.map (Value.int .u8)) hx (by simp) ?_ (ints_oneCell _ _) (by unfold maxLen; omega) (by omega) hB ?_
    · intro j u hu
      rw [List.getElem?_map] at hu
      obtain ⟨n, hq, rfl⟩ := Option.map_eq_some_iff.mp hu
      have hj : j < l'.length := (List.getElem?_eq_some_iff.mp hq).1
      obtain ⟨b, off, he, _, _, hcell⟩ := hp (by omega)
      injection he with he
      subst he
      rw [WideShapes.add_plain, hcell j hj, List.getD, hq]; rfl
    · intro v' w' h1 h2 _
      refine hK _ _ (h v' w' ?_ ((Below.refl _ _).grown h2 hB hrow))
      show w'.ownsRow B 5 1 v' (l ++ l').length ((l ++ l').map (Value.int .u8))
      rw [List.length_append, List.map_append]
      exact h1

theorem cutL_join (l : List Int) (p k m : Nat) : cutL l p k ++ cutL l (p + k) m = cutL l p (k + m) := by
  unfold cutL
  rw [List.take_add, List.drop_drop]

set_option maxHeartbeats 8000000 in
theorem parts_any (a : Option Addr) (c : Nat) (l : List Int) (t n n2 : Int) (w : World) (h : Sl w 0 w.heap.size (.slice a l.length c) l) (hl : l.length ≤ 1000) :
    Calls Try.prog 6 #[.slice a l.length c, .int .i64 t, .int .i64 n, .int .i64 n2] w (YesB w) := by
  have hlm : l.length ≤ 1000000 := by omega
  have SB := Lib.hid h
  clear h
  go_enter Try.func6, Try.ntmps6
  go_wp2_with fail
  refine (awake_any _).mono ?_
  rintro e w1 ⟨rfl, hb⟩
  have hk : Below w.heap.size w w1 := bel_call (Below.refl _ _) hb
  have SB_1 := Lib.hid (SB.out.later hk)
  clear SB
  have HB_1 := Lib.hid hk
  go_wp2_with fail
  refine (pick_any _ _ _ (by omega) (by omega)).mono ?_
  rintro e wx ⟨p, hp, rfl, rfl⟩
  go_wp2_with fail
  refine (pick_any _ _ _ (by omega) (by omega)).mono ?_
  rintro e wx ⟨k, hk0, rfl, rfl⟩
  go_wp2_with fail
  refine (pick_any _ _ _ (by omega) (by omega)).mono ?_
  rintro e wx ⟨m, hm0, rfl, rfl⟩
  by_cases hA : p + k ≤ l.length
  · by_cases hC : p + k + m ≤ l.length
    · have q1 := bytes_at l p k hlm (by omega)
      have q2 := bytes_at l p (k + m) hlm (by omega)
      have e0 : ((k + m : Nat) : Int) = (k : Int) + (m : Int) := by omega
      have e1 : ((p : Int) + ((k + m : Nat) : Int)) = (p : Int) + ((k : Int) + (m : Int)) := by omega
      rw [e0] at q2
      have Q1 := Lib.hid q1
      have Q2 := Lib.hid q2
      clear q1 q2 e0 e1
      go_wp2_with fail
      refine (Q1.out w1 (SB_1.out.later (Below.refl _ _))).mono ?_
      rintro e w2 ⟨x1, g1, rfl, o1, a1, b1, hb⟩
      have hk : Below w1.heap.size w1 w2 := bel_call (Below.refl _ _) hb
      have SB_2 := Lib.hid (SB_1.out.later hk)
      clear SB_1
      have S1_2 := Lib.hid (o1.sl)
      have HB_2 := Lib.hid (bel_call HB_1.out hk)
      clear HB_1
      clear o1 a1 b1
      go_wp2_with fail
      refine (Q2.out (w2.alloc (.cells #[.int .i64 0, .int .i64 0] 32)) (SB_2.out.later (bel_alloc (Below.refl _ _) _))).mono ?_
      rintro e w3 ⟨x2, g2, rfl, o2, a2, b2, hb⟩
      have hk : Below w2.heap.size w2 w3 := bel_call (bel_alloc (Below.refl _ _) _) hb
      have SB_3 := Lib.hid (SB_2.out.later hk)
      clear SB_2
      have S1_3 := Lib.hid (S1_2.out.later hk)
      clear S1_2
      have C1_3 : Hid (Cl w3 (w2.heap.size) (.int .i64 0) (.int .i64 0)) := Lib.hid (by have h := (((Cl.new w2 (.int .i64 0) (.int .i64 0) 32).later (Below.refl _ _)).later hb); simpa only [World.size_alloc] using h)
      have S2_3 := Lib.hid (o2.sl)
      have HB_3 := Lib.hid (bel_call HB_2.out hk)
      clear HB_2
      have S2Y := Lib.hid b2
      clear o2 a2 b2
      obtain ⟨kC1, lC1⟩ := C1_3.out
      have nC1 := C1_3.out.lt
      have q3 := bytes_at l (p + k) m hlm (by omega)
      have e0 : ((p + k : Nat) : Int) = (p : Int) + (k : Int) := by omega
      rw [e0] at q3
      have Q3 := Lib.hid q3
      clear q3 e0
      go_wp2_with fail
      clear kC1 lC1 nC1
      go_wp2_with fail
      refine (Q3.out (w3.alloc (.cells #[.int .i64 0, .int .i64 0] 32)) (SB_3.out.later (bel_alloc (Below.refl _ _) _))).mono ?_
      rintro e w4 ⟨x3, g3, rfl, o3, a3, b3, hb⟩
      have hk : Below w3.heap.size w3 w4 := bel_call (bel_alloc (Below.refl _ _) _) hb
      have SB_4 := Lib.hid (SB_3.out.later hk)
      clear SB_3
      have S1_4 := Lib.hid (S1_3.out.later hk)
      clear S1_3
      have C1_4 := Lib.hid (C1_3.out.later hk)
      clear C1_3
      have S2_4 := Lib.hid (S2_3.out.later hk)
      clear S2_3
      have C2_4 : Hid (Cl w4 (w3.heap.size) (.int .i64 0) (.int .i64 0)) := Lib.hid (by have h := (((Cl.new w3 (.int .i64 0) (.int .i64 0) 32).later (Below.refl _ _)).later hb); simpa only [World.size_alloc] using h)
      have S3_4 := Lib.hid (o3.sl)
      have HB_4 := Lib.hid (bel_call HB_3.out hk)
      clear HB_3
      have H34 := Lib.hid hk.size
      clear o3 a3 b3
      obtain ⟨kC2, lC2⟩ := C2_4.out
      have nC2 := C2_4.out.lt
      have e2 : (p : Int) + (k : Int) + (m : Int) = (p : Int) + ((k : Int) + (m : Int)) := by omega
      go_wp2_with fail
      clear kC2 lC2 nC2
      have S2Z := Lib.hid (Nat.lt_of_lt_of_le S2Y.out H34.out)
      have Z0 := Lib.hid HB_4.out.size
      go_wp2_with fail
      refine (copy_any (S1_4.out.later (bel_alloc (Below.refl _ _) _)) (by rw [cutL_len l p k (by omega)]; omega)).mono ?_
      rintro e w5 ⟨v4, rfl, o4, hb⟩
      have hk : Below w4.heap.size w4 w5 := bel_call (bel_alloc (Below.refl _ _) _) hb
      have SB_5 := Lib.hid (SB_4.out.later hk)
      clear SB_4
      have S1_5 := Lib.hid (S1_4.out.later hk)
      clear S1_4
      have S2_5 := Lib.hid (S2_4.out.later hk)
      clear S2_4
      have S3_5 := Lib.hid (S3_4.out.later hk)
      clear S3_4
      have HB_5 := Lib.hid (bel_call HB_4.out hk)
      clear HB_4
      have O4 : Hid (OwnR w5 w4.heap.size v4 (cutL l p k)) := Lib.hid (o4.mono (by simp))
      have Z4 := Lib.hid hk.size
      clear o4
      go_wp2_with (at_builtin; refine wpList_app_g rfl (.tmp 95) (.tmp 96) rfl w4.heap.size 0 w5.heap.size v4 x3 (cutL l p k) (cutL l (p + k) m) rfl rfl O4.out S3_5.out.top ?b1 ?b2 ?_)
      case b1 => rw [cutL_len l p k (by omega), cutL_len l (p + k) m (by omega)]; omega
      case b2 => exact Z4.out
      intro v5 w6 HO HX
      rw [cutL_join] at HO
      have S2_6 := Lib.hid (S2_5.out.below HX.out S2Z.out)
      have HB_6 := Lib.hid (HB_5.out.trans (HX.out.mono Z0.out))
      clear HX
      go_wp2_with fail
      refine (same_any HO.out.sl S2_6.out).mono ?_
      rintro e ww ⟨rfl, rfl⟩
      go_wp2_with fail
      go_ret
      exact ⟨rfl, HB_6.out⟩
    · have q1 := bytes_at l p k hlm (by omega)
      have q2 := bytes_at_no l p (k + m) hlm (by omega) (by omega)
      have e0 : ((k + m : Nat) : Int) = (k : Int) + (m : Int) := by omega
      rw [e0] at q2
      have Q1 := Lib.hid q1
      have Q2 := Lib.hid q2
      clear q1 q2 e0
      go_wp2_with fail
      refine (Q1.out w1 (SB_1.out.later (Below.refl _ _))).mono ?_
      rintro e w2 ⟨x1, g1, rfl, o1, a1, b1, hb⟩
      have hk : Below w1.heap.size w1 w2 := bel_call (Below.refl _ _) hb
      have SB_2 := Lib.hid (SB_1.out.later hk)
      clear SB_1
      have S1_2 := Lib.hid (o1.sl)
      have HB_2 := Lib.hid (bel_call HB_1.out hk)
      clear HB_1
      clear o1 a1 b1
      go_wp2_with fail
      refine (Q2.out (w2.alloc (.cells #[.int .i64 0, .int .i64 0] 32)) (SB_2.out.later (bel_alloc (Below.refl _ _) _))).mono ?_
      rintro e w3 ⟨x2, g2, rfl, o2, a2, b2, hb⟩
      have hk : Below w2.heap.size w2 w3 := bel_call (bel_alloc (Below.refl _ _) _) hb
      have SB_3 := Lib.hid (SB_2.out.later hk)
      clear SB_2
      have S1_3 := Lib.hid (S1_2.out.later hk)
      clear S1_2
      have C1_3 : Hid (Cl w3 (w2.heap.size) (.int .i64 0) (.int .i64 0)) := Lib.hid (by have h := (((Cl.new w2 (.int .i64 0) (.int .i64 0) 32).later (Below.refl _ _)).later hb); simpa only [World.size_alloc] using h)
      have S2_3 := Lib.hid (o2.sl)
      have HB_3 := Lib.hid (bel_call HB_2.out hk)
      clear HB_2
      have S2Y := Lib.hid b2
      clear o2 a2 b2
      obtain ⟨kC1, lC1⟩ := C1_3.out
      have nC1 := C1_3.out.lt
      have q3 := bytes_at_no l (p + k) m hlm (by omega) (by omega)
      have e0 : ((p + k : Nat) : Int) = (p : Int) + (k : Int) := by omega
      rw [e0] at q3
      have Q3 := Lib.hid q3
      clear q3 e0
      go_wp2_with fail
      clear kC1 lC1 nC1
      go_wp2_with fail
      refine (Q3.out (w3.alloc (.cells #[.int .i64 4, .int .i64 l.length] 32)) (SB_3.out.later (bel_alloc (Below.refl _ _) _))).mono ?_
      rintro e w4 ⟨x3, g3, rfl, o3, a3, b3, hb⟩
      have hk : Below w3.heap.size w3 w4 := bel_call (bel_alloc (Below.refl _ _) _) hb
      have SB_4 := Lib.hid (SB_3.out.later hk)
      clear SB_3
      have S1_4 := Lib.hid (S1_3.out.later hk)
      clear S1_3
      have C1_4 := Lib.hid (C1_3.out.later hk)
      clear C1_3
      have S2_4 := Lib.hid (S2_3.out.later hk)
      clear S2_3
      have C2_4 : Hid (Cl w4 (w3.heap.size) (.int .i64 4) (.int .i64 l.length)) := Lib.hid (by have h := (((Cl.new w3 (.int .i64 4) (.int .i64 l.length) 32).later (Below.refl _ _)).later hb); simpa only [World.size_alloc] using h)
      have S3_4 := Lib.hid (o3.sl)
      have HB_4 := Lib.hid (bel_call HB_3.out hk)
      clear HB_3
      have H34 := Lib.hid hk.size
      clear o3 a3 b3
      obtain ⟨kC2, lC2⟩ := C2_4.out
      have nC2 := C2_4.out.lt
      go_wp2_with fail
      go_ret
      exact ⟨rfl, bel_call HB_4.out (bel_alloc (Below.refl _ _) _)⟩
  · have q1 := bytes_at_no l p k hlm (by omega) (by omega)
    have q2 := bytes_at_no l p (k + m) hlm (by omega) (by omega)
    have e0 : ((k + m : Nat) : Int) = (k : Int) + (m : Int) := by omega
    rw [e0] at q2
    have Q1 := Lib.hid q1
    have Q2 := Lib.hid q2
    clear q1 q2 e0
    go_wp2_with fail
    refine (Q1.out w1 (SB_1.out.later (Below.refl _ _))).mono ?_
    rintro e w2 ⟨x1, g1, rfl, o1, a1, b1, hb⟩
    have hk : Below w1.heap.size w1 w2 := bel_call (Below.refl _ _) hb
    have SB_2 := Lib.hid (SB_1.out.later hk)
    clear SB_1
    have S1_2 := Lib.hid (o1.sl)
    have HB_2 := Lib.hid (bel_call HB_1.out hk)
    clear HB_1
    clear o1 a1 b1
    go_wp2_with fail
    refine (Q2.out (w2.alloc (.cells #[.int .i64 4, .int .i64 l.length] 32)) (SB_2.out.later (bel_alloc (Below.refl _ _) _))).mono ?_
    rintro e w3 ⟨x2, g2, rfl, o2, a2, b2, hb⟩
    have hk : Below w2.heap.size w2 w3 := bel_call (bel_alloc (Below.refl _ _) _) hb
    have SB_3 := Lib.hid (SB_2.out.later hk)
    clear SB_2
    have S1_3 := Lib.hid (S1_2.out.later hk)
    clear S1_2
    have C1_3 : Hid (Cl w3 (w2.heap.size) (.int .i64 4) (.int .i64 l.length)) := Lib.hid (by have h := (((Cl.new w2 (.int .i64 4) (.int .i64 l.length) 32).later (Below.refl _ _)).later hb); simpa only [World.size_alloc] using h)
    have S2_3 := Lib.hid (o2.sl)
    have HB_3 := Lib.hid (bel_call HB_2.out hk)
    clear HB_2
    have S2Y := Lib.hid b2
    clear o2 a2 b2
    obtain ⟨kC1, lC1⟩ := C1_3.out
    have nC1 := C1_3.out.lt
    go_wp2_with fail
    go_ret
    exact ⟨rfl, bel_call HB_3.out (bel_alloc (Below.refl _ _) _)⟩
end Go.Proofs.Ytbfgmenjkneijaa
