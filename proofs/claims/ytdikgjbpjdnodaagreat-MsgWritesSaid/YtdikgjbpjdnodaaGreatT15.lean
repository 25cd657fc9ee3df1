/-
  A record's bytes.
-/
import Derived.Test.YtdikgjbpjdnodaaGreatT14
import Derived.Test.YtdikgjbpjdnodaaGreatT11
import Derived.Test.YtdikgjbpjdnodaaGreatT02
import Derived.Test.YtdikgjbpjdnodaaGreatT13
namespace Go.Proofs.YtdikgjbpjdnodaaGreat
open Go.RowKit Go.Shelf
set_option linter.unusedVariables false
set_option linter.unusedSimpArgs false
set_option maxRecDepth 100000

/-- What stands behind a record's name and ahead of its data. -/
def headB (t c l : Int) (k : Nat) : List UInt8 := two t ++ (two c ++ (four l ++ two k))

/-- A record's bytes, the head known. -/
def wrT (T : List UInt8) (t c l : Int) (R : WR) : WR := if R.code ≠ 0 then ⟨[], R.code, R.K, R.e⟩ else ⟨T ++ (headB t c l R.out.length ++ R.out), 0, R.K, R.e⟩

/-- A record's bytes, or the error. -/
def wrC (a : Int) (x : Rc) (K : KK) (e : Nat) : WR :=
  if chkC x ≠ 0 then ⟨[], chkC x, K, e⟩ else if pkE e a x.n ≠ 0 then ⟨[], pkE e a x.n, K, e⟩
  else wrT (nameB K e a x.n) x.t x.c x.l (wrR (a + (nameB K e a x.n).length + 10) x.t x.d (nameK K e a x.n) (nameE K e a x.n))

theorem wrL_len (a : Int) : ∀ (L : List Pc) (K : KK) (e : Nat) (acc : List UInt8), GoodK K → (wrL a L K e acc).out.length ≤ acc.length + (joined L).length
  | [], K, e, acc, _ => by rw [wrL]; show acc.length ≤ _; omega
  | x :: L, K, e, acc, hG => by
    rw [wrL, joined_cons, List.length_append]
    split
    · split
      · exact Nat.zero_le _
      · rename_i h1
        have h2 := nameK_good (e := e) (a := wrap64 (a + acc.length)) (n := x.1) hG
        have h3 := (nameB_len (e := e) (a := wrap64 (a + acc.length)) (n := x.1) hG).2 (by simpa using h1)
        have h4 := wrL_len a L (nameK K e (wrap64 (a + acc.length)) x.1) (nameE K e (wrap64 (a + acc.length)) x.1) (acc ++ nameB K e (wrap64 (a + acc.length)) x.1) h2.1
        rw [List.length_append] at h4
        omega
    · have h4 := wrL_len a L K e (acc ++ x.1) hG
      rw [List.length_append] at h4
      omega

theorem wrR_len (a t : Int) (d : List UInt8) (K : KK) (e : Nat) (hG : GoodK K) (h : (spl t d).code = 0) : (wrR a t d K e).out.length ≤ d.length ∧ d.length ≤ 65535 := by
  obtain ⟨L, hL⟩ := code_ok h
  obtain ⟨_, _, h6, _, hj⟩ := spl_ok hL
  unfold wrR
  rw [hL]
  have := wrL_len a L K e [] hG
  rw [hj] at this
  exact ⟨by simpa using this, h6⟩

theorem chkC_ok {x : Rc} (h : chkC x = 0) : askE x.n x.t x.c = 0 ∧ 0 ≤ x.l ∧ x.l ≤ 2147483647 ∧ (spl x.t x.d).code = 0 := by
  unfold chkC at h
  split at h
  · rename_i h1; exact absurd h h1
  · rename_i h1
    split at h
    · exact absurd h (by decide)
    · exact ⟨by simpa using h1, by omega, by omega, h⟩

set_option maxHeartbeats 16000000 in
theorem writeC_any {w : World} {p bm e : Nat} {K : KK} (h : Pk w p bm K e) (hG : GoodK K) (hK : K.length ≤ 700000) (he : e ≤ 900000) (a : Int) (n : List UInt8) (t c l : Int) (d : List UInt8) (hn : n.length ≤ 1000000) (hd : d.length ≤ 1000000) :
    Calls Tryz.prog 130 #[.pointer (some ⟨p, 0, none⟩), .int .i64 a, .agg #[.string (bs n), .int .i64 t, .int .i64 c, .int .i64 l, .string (bs d)]] w (WrPost w p bm (wrC a ⟨n, t, c, l, d⟩ K e)) := by
  obtain ⟨W0, hW0⟩ : ∃ W0, w.alloc (.cells #[.string (bs n), .int .i64 t, .int .i64 c, .int .i64 l, .string (bs d)] 78) = W0 := ⟨_, rfl⟩
  have hb0 : Below w.heap.size w W0 := by rw [← hW0]; exact (Below.refl _ _).alloc (Nat.le_refl _) _
  have hx : Cel W0 w.heap.size [.string (bs n), .int .i64 t, .int .i64 c, .int .i64 l, .string (bs d)] := by rw [← hW0]; exact cel_new w _ _ _ _ _ _
  have HM := Lib.hid (made_any (h.later hb0) hG (by omega) (by omega))
  have hpl := h.lt
  have hml := h.map.lt
  have HA0 := Lib.hid (Aside.of_all hb0 : Aside (fun b => b = p ∨ b = bm) w W0)
  have HAk := Lib.hid (fun wx => checkC_any n t c l d hn hd wx)
  obtain ⟨g, hg⟩ : ∃ g, w.heap.size = g := ⟨_, rfl⟩
  have HX := Lib.hid hx
  rw [hg] at HX
  have hgp : ¬ (g = p ∨ g = bm) := by omega
  clear h hx hb0
  obtain ⟨X, hX⟩ : ∃ X, wrC a ⟨n, t, c, l, d⟩ K e = X := ⟨_, rfl⟩
  rw [hX]
  have HXv := Lib.hid hX
  clear hX
  unfold wrC at HXv
  by_cases hA : chkC ⟨n, t, c, l, d⟩ = 0
  · obtain ⟨hak, hl0, hl1, hsp⟩ := chkC_ok hA
    simp only at hak hl0 hl1 hsp
    obtain ⟨hch, ht0, ht1, hc0, hc1⟩ := askE_ok hak
    have hn255 := (chk_pos hch).2
    have HNm := Lib.hid (fun (wx : World) (hp : Pk wx p bm K e) => name_any hp hG (by omega) (by omega) a n (by omega))
    unfold NamePost at HNm
    rw [hA] at HAk
    rw [if_neg (by simpa using hA)] at HXv
    simp only at HXv
    have hnb := (nameB_len (e := e) (a := a) (n := n) hG).1
    have hng := nameK_good (e := e) (a := a) (n := n) hG
    have hpc := fun h => pkE_chk (e := e) (a := a) (n := n) h
    obtain ⟨E, hE⟩ : ∃ E, pkE e a n = E := ⟨_, rfl⟩
    obtain ⟨T, hT⟩ : ∃ T, nameB K e a n = T := ⟨_, rfl⟩
    obtain ⟨K2, hK2⟩ : ∃ K2, nameK K e a n = K2 := ⟨_, rfl⟩
    obtain ⟨e2, he2⟩ : ∃ e2, nameE K e a n = e2 := ⟨_, rfl⟩
    have hKE : E ≠ 0 → K2 = K ∧ e2 = e := fun hne => by rw [← hK2, ← he2]; unfold nameK nameE; rw [hE, if_neg hne, if_neg hne]; exact ⟨rfl, rfl⟩
    rw [hE, hT, hK2, he2] at HNm HXv
    rw [hE] at hpc
    rw [hT] at hnb
    rw [hK2, he2] at hng
    obtain ⟨hG2, hK22, he22⟩ := hng
    obtain ⟨m, hm⟩ : ∃ m, T.length = m := ⟨_, rfl⟩
    rw [hm] at HXv hnb
    obtain ⟨Y, hY⟩ : ∃ Y : Int, a + m + 10 = Y := ⟨_, rfl⟩
    rw [hY] at HXv
    have hlen := wrR_len Y t d K2 e2 hG2 hsp
    have HWt := Lib.hid (fun (wx : World) (hp : Pk wx p bm K2 e2) => write_any hp hG2 (by omega) (by omega) Y t d hd)
    unfold WrPost at HWt
    obtain ⟨R, hR⟩ : ∃ R, wrR Y t d K2 e2 = R := ⟨_, rfl⟩
    rw [hR] at HWt HXv hlen
    obtain ⟨O, C, K3, e3⟩ := R
    simp only at HWt hlen
    obtain ⟨q, hq⟩ : ∃ q, O.length = q := ⟨_, rfl⟩
    rw [hq] at hlen
    have HT2 := Lib.hid (fun wx => two_any t ht0 ht1 wx)
    have HC2 := Lib.hid (fun wx => two_any c hc0 hc1 wx)
    have HL4 := Lib.hid (fun wx => four_any l hl0 (by omega) wx)
    have HQ2 := Lib.hid (fun wx => two_any (q : Int) (by omega) (by omega) wx)
    have HM1 := Lib.hid hm
    have HQ1 := Lib.hid hq
    have hql : q ≤ 65535 := by omega
    clear hE hT hK2 he2 hA hch ht0 ht1 hc0 hc1 hG hn255 hG2 hK22 he22 hR hlen hsp hak hl0 hl1 hm hq
    go_enter Tryz.func130, Tryz.ntmps130
    go_wp2_with fail
    refine HM.out.mono ?_; rintro e0 w1 ⟨rfl, hp1, ha1⟩
    replace HX := Lib.hid (HX.out.aside (by simp) ha1 hgp)
    have HPk := Lib.hid hp1
    have HAs := Lib.hid (HA0.out.trans ha1)
    obtain ⟨c0, c1, c2, c3, c4⟩ := HX.out.five
    clear hp1 ha1 HM HA0
    go_wp2_with fail
    refine (HAk.out _).mono ?_; rintro e0 w2 ⟨rfl, hb⟩
    replace HX := Lib.hid (HX.out.below (by simp) hb)
    replace HPk := Lib.hid (HPk.out.later hb)
    replace HAs := Lib.hid (HAs.out.trans (Aside.of_all hb))
    clear hb c0 c1 c2 c3 c4
    have c0 : w2.cell? ⟨g, 0, none⟩ = some (.string (bs n)) := HX.out.c 0 (by simp)
    go_wp2_with fail
    refine (HNm.out _ HPk.out).mono ?_; rintro e0 w3 ⟨v3, rfl, ho, hp3, ha3⟩
    replace HX := Lib.hid (HX.out.aside (by simp) ha3 hgp)
    replace HPk := Lib.hid hp3
    have HSz := Lib.hid HAs.out.size
    replace HAs := Lib.hid (HAs.out.trans ha3)
    have HS0 := Lib.hid ho
    obtain ⟨a0, k0, rfl⟩ := ho.shape
    rw [HM1.out] at HS0 ⊢
    have hw2 : g ≤ w2.heap.size := by rw [← hg]; exact HSz.out
    obtain ⟨z2, hz2⟩ : ∃ z2, w2.heap.size = z2 := ⟨_, rfl⟩
    rw [hz2] at HS0 hw2
    clear hp3 ha3 ho c0 hz2 HSz
    by_cases hE0 : E = 0
    · subst hE0
      rw [if_neg (by simp)] at HXv
      obtain ⟨_, hp0, hp1, hp2⟩ := hpc rfl
      have hY1 : wrap64 (a + (m : Int)) = a + m := IntWalk.wrap64_in _ ⟨by omega, by omega⟩
      have hY3 : wrap64 Y = Y := IntWalk.wrap64_in _ ⟨by omega, by omega⟩
      obtain ⟨c0, c1, c2, c3, c4⟩ := HX.out.five
      clear hKE hpc hp0 hp1 hp2
      go_wp2_with fail
      rw [hY3]
      refine (HWt.out _ HPk.out).mono ?_; rintro e0 w4 ⟨v4, rfl, hoD, hp4, ha4⟩
      replace HX := Lib.hid (HX.out.aside (by simp) ha4 hgp)
      replace HPk := Lib.hid hp4
      replace HAs := Lib.hid (HAs.out.trans ha4)
      replace HS0 := Lib.hid (HS0.out.aside ha4 fun b hb hg2 => by have := (HS0.out.lt b hb).1; rcases hg2 with rfl | rfl <;> omega)
      have HSD := Lib.hid hoD
      obtain ⟨a6, k6, rfl⟩ := hoD.shape
      rw [HQ1.out] at HSD ⊢
      clear hp4 ha4 hoD c0 c1 c2 c3 c4 HWt hY hY1 hY3
      by_cases hC0 : C = 0
      · subst hC0
        have hXR : (⟨T ++ (headB t c l q ++ O), 0, K3, e3⟩ : WR) = X := by rw [← HXv.out]; unfold wrT; rw [if_neg (by simp)]; simp only [HQ1.out]
        have HXR := Lib.hid hXR
        clear HXv hXR
        have HXD := Lib.hid (Below.refl w4.heap.size w4).drew
        replace HX := Lib.hid (HX.out.below (by simp) HXD.out)
        replace HPk := Lib.hid (HPk.out.later HXD.out)
        replace HAs := Lib.hid (HAs.out.trans (Aside.of_all HXD.out))
        replace HS0 := Lib.hid (HS0.out.below HXD.out).sl.top
        replace HSD := Lib.hid (HSD.out.below HXD.out).sl.top
        clear HXD
        go_wp2_with fail
        refine wp_region_held_drew (S := (fun wx => wx.cell? ⟨g, 1, none⟩ = some (.int .i64 t) ∧ wx.cell? ⟨g, 2, none⟩ = some (.int .i64 c) ∧ wx.cell? ⟨g, 3, none⟩ = some (.int .i64 l))) (by kernel_rfl) ⟨HX.out.c 1 (by simp), HX.out.c 2 (by simp), HX.out.c 3 (by simp)⟩ (fun hHeld => ?_)
        refine wpAnyH_take (i := 0) (oi := { dst := some 48, op := Op.move (Operand.tmp 9), type := 28, pos := "rec.go:74", after := #[], guard := none }) (v := ?_) rfl (by kernel_rfl) (by kernel_rfl) (by kernel_rfl) (fun _ _ _ h => h) (Or.inl ⟨by rfl, ?_⟩) (by assumption) ?_
        rotate_left 1
        · intro w hSw; (try dsimp only at hSw); go_simp; try (with_reducible rfl)
        try simp only [Act.put, List.setIfInBounds_toArray, List.set_cons_zero, List.set_cons_succ]
        refine wpAnyH_take (i := 1) (oi := { dst := some 49, op := Op.fieldAddr 78 (Operand.tmp 5) 1, type := 0, pos := "rec.go:74", after := #[], guard := none }) (v := ?_) rfl (by kernel_rfl) (by kernel_rfl) (by kernel_rfl) (fun _ _ _ h => h) (Or.inl ⟨by rfl, ?_⟩) (by assumption) ?_
        rotate_left 1
        · intro w hSw; (try dsimp only at hSw); go_simp; try (with_reducible rfl)
        try simp only [Act.put, List.setIfInBounds_toArray, List.set_cons_zero, List.set_cons_succ]
        refine wpAnyH_take (i := 2) (oi := { dst := some 50, op := Op.load 3 (Operand.tmp 49), type := 3, pos := "rec.go:74", after := #[{ on := 1, ground := Ground.data }], guard := none }) (v := ?_) rfl (by kernel_rfl) (by kernel_rfl) (by kernel_rfl) (fun _ _ _ h => h) (Or.inl ⟨by rfl, ?_⟩) (by assumption) ?_
        rotate_left 1
        · intro w hSw; (try dsimp only at hSw); go_simp; try (with_reducible rfl)
        try simp only [Act.put, List.setIfInBounds_toArray, List.set_cons_zero, List.set_cons_succ]
        refine wpAnyH_take (i := 4) (oi := { dst := some 52, op := Op.fieldAddr 78 (Operand.tmp 5) 2, type := 0, pos := "rec.go:74", after := #[], guard := none }) (v := ?_) rfl (by kernel_rfl) (by kernel_rfl) (by kernel_rfl) (fun _ _ _ h => h) (Or.inl ⟨by rfl, ?_⟩) (by assumption) ?_
        rotate_left 1
        · intro w hSw; (try dsimp only at hSw); go_simp; try (with_reducible rfl)
        try simp only [Act.put, List.setIfInBounds_toArray, List.set_cons_zero, List.set_cons_succ]
        refine wpAnyH_take (i := 5) (oi := { dst := some 53, op := Op.load 3 (Operand.tmp 52), type := 3, pos := "rec.go:74", after := #[{ on := 4, ground := Ground.data }], guard := none }) (v := ?_) rfl (by kernel_rfl) (by kernel_rfl) (by kernel_rfl) (fun _ _ _ h => h) (Or.inl ⟨by rfl, ?_⟩) (by assumption) ?_
        rotate_left 1
        · intro w hSw; (try dsimp only at hSw); go_simp; try (with_reducible rfl)
        try simp only [Act.put, List.setIfInBounds_toArray, List.set_cons_zero, List.set_cons_succ]
        refine wpAnyH_take (i := 7) (oi := { dst := some 55, op := Op.fieldAddr 78 (Operand.tmp 5) 3, type := 0, pos := "rec.go:74", after := #[], guard := none }) (v := ?_) rfl (by kernel_rfl) (by kernel_rfl) (by kernel_rfl) (fun _ _ _ h => h) (Or.inl ⟨by rfl, ?_⟩) (by assumption) ?_
        rotate_left 1
        · intro w hSw; (try dsimp only at hSw); go_simp; try (with_reducible rfl)
        try simp only [Act.put, List.setIfInBounds_toArray, List.set_cons_zero, List.set_cons_succ]
        refine wpAnyH_take (i := 8) (oi := { dst := some 56, op := Op.load 3 (Operand.tmp 55), type := 3, pos := "rec.go:74", after := #[{ on := 7, ground := Ground.data }], guard := none }) (v := ?_) rfl (by kernel_rfl) (by kernel_rfl) (by kernel_rfl) (fun _ _ _ h => h) (Or.inl ⟨by rfl, ?_⟩) (by assumption) ?_
        rotate_left 1
        · intro w hSw; (try dsimp only at hSw); go_simp; try (with_reducible rfl)
        try simp only [Act.put, List.setIfInBounds_toArray, List.set_cons_zero, List.set_cons_succ]
        refine wpAnyH_take (i := 10) (oi := { dst := some 58, op := Op.move (Operand.tmp 11), type := 28, pos := "rec.go:74", after := #[], guard := none }) (v := ?_) rfl (by kernel_rfl) (by kernel_rfl) (by kernel_rfl) (fun _ _ _ h => h) (Or.inl ⟨by rfl, ?_⟩) (by assumption) ?_
        rotate_left 1
        · intro w hSw; (try dsimp only at hSw); go_simp; try (with_reducible rfl)
        try simp only [Act.put, List.setIfInBounds_toArray, List.set_cons_zero, List.set_cons_succ]
        refine wpAnyH_take (i := 11) (oi := { dst := some 59, op := Op.call { callee := Callee.builtin Builtin.len, args := #[Operand.tmp 58], argTypes := #[28] }, type := 3, pos := "rec.go:74", after := #[{ on := 10, ground := Ground.data }], guard := none }) (v := ?_) rfl (by kernel_rfl) (by kernel_rfl) (by kernel_rfl) (fun _ _ _ h => h) (Or.inl ⟨by rfl, ?_⟩) (by assumption) ?_
        rotate_left 1
        · intro w hSw; (try dsimp only at hSw); go_simp; try (with_reducible rfl)
        try simp only [Act.put, List.setIfInBounds_toArray, List.set_cons_zero, List.set_cons_succ]
        refine wpAnyH_take (i := 13) (oi := { dst := some 61, op := Op.move (Operand.tmp 11), type := 28, pos := "rec.go:74", after := #[], guard := none }) (v := ?_) rfl (by kernel_rfl) (by kernel_rfl) (by kernel_rfl) (fun _ _ _ h => h) (Or.inl ⟨by rfl, ?_⟩) (by assumption) ?_
        rotate_left 1
        · intro w hSw; (try dsimp only at hSw); go_simp; try (with_reducible rfl)
        try simp only [Act.put, List.setIfInBounds_toArray, List.set_cons_zero, List.set_cons_succ]
        refine wpAnyH_ready (rs := [3]) (by kernel_rfl) (by simp) ?_
        refine AllReadyH.cons (o := { dst := some 51, op := Op.call { callee := Callee.value (Operand.func 105), args := #[Operand.tmp 50], argTypes := #[3] }, type := 28, pos := "rec.go:74", after := #[{ on := 2, ground := Ground.data }], guard := none }) rfl (fun K hK => ?_) (AllReadyH.nil)
        go_simp
        refine (HT2.out _).mono ?_; rintro e0 w5 ⟨a1, k1, rfl, hs1, hb⟩
        have HS1 := Lib.hid hs1
        clear hs1
        replace HX := Lib.hid (HX.out.below (by simp) hb)
        replace HPk := Lib.hid (HPk.out.later hb)
        replace HAs := Lib.hid (HAs.out.trans (Aside.of_all hb))
        replace HS0 := Lib.hid (sl_keep HS0.out hb)
        replace HSD := Lib.hid (sl_keep HSD.out hb)
        clear hb
        try go_wp2_with fail
        refine hK.out _ _ ⟨HX.out.c 1 (by simp), HX.out.c 2 (by simp), HX.out.c 3 (by simp)⟩ (fun hHeld => ?_)
        clear hK K
        try simp only [Act.put, List.setIfInBounds_toArray, List.set_cons_zero, List.set_cons_succ]
        refine wpAnyH_ready (rs := [6]) (by kernel_rfl) (by simp) ?_
        refine AllReadyH.cons (o := { dst := some 54, op := Op.call { callee := Callee.value (Operand.func 105), args := #[Operand.tmp 53], argTypes := #[3] }, type := 28, pos := "rec.go:74", after := #[{ on := 5, ground := Ground.data }, { on := 3, ground := Ground.chain }], guard := none }) rfl (fun K hK => ?_) (AllReadyH.nil)
        go_simp
        refine (HC2.out _).mono ?_; rintro e0 w6 ⟨a2, k2, rfl, hs1, hb⟩
        have HS2 := Lib.hid hs1
        clear hs1
        replace HX := Lib.hid (HX.out.below (by simp) hb)
        replace HPk := Lib.hid (HPk.out.later hb)
        replace HAs := Lib.hid (HAs.out.trans (Aside.of_all hb))
        replace HS0 := Lib.hid (sl_keep HS0.out hb)
        replace HSD := Lib.hid (sl_keep HSD.out hb)
        replace HS1 := Lib.hid (sl_keep HS1.out hb)
        clear hb
        try go_wp2_with fail
        refine hK.out _ _ ⟨HX.out.c 1 (by simp), HX.out.c 2 (by simp), HX.out.c 3 (by simp)⟩ (fun hHeld => ?_)
        clear hK K
        try simp only [Act.put, List.setIfInBounds_toArray, List.set_cons_zero, List.set_cons_succ]
        refine wpAnyH_ready (rs := [9]) (by kernel_rfl) (by simp) ?_
        refine AllReadyH.cons (o := { dst := some 57, op := Op.call { callee := Callee.value (Operand.func 135), args := #[Operand.tmp 56], argTypes := #[3] }, type := 28, pos := "rec.go:74", after := #[{ on := 8, ground := Ground.data }, { on := 6, ground := Ground.chain }], guard := none }) rfl (fun K hK => ?_) (AllReadyH.nil)
        go_simp
        refine (HL4.out _).mono ?_; rintro e0 w7 ⟨a3, k3, rfl, hs1, hb⟩
        have HS3 := Lib.hid hs1
        clear hs1
        replace HX := Lib.hid (HX.out.below (by simp) hb)
        replace HPk := Lib.hid (HPk.out.later hb)
        replace HAs := Lib.hid (HAs.out.trans (Aside.of_all hb))
        replace HS0 := Lib.hid (sl_keep HS0.out hb)
        replace HSD := Lib.hid (sl_keep HSD.out hb)
        replace HS1 := Lib.hid (sl_keep HS1.out hb)
        replace HS2 := Lib.hid (sl_keep HS2.out hb)
        clear hb
        try go_wp2_with fail
        refine hK.out _ _ ⟨HX.out.c 1 (by simp), HX.out.c 2 (by simp), HX.out.c 3 (by simp)⟩ (fun hHeld => ?_)
        clear hK K
        try simp only [Act.put, List.setIfInBounds_toArray, List.set_cons_zero, List.set_cons_succ]
        refine wpAnyH_ready (rs := [12]) (by kernel_rfl) (by simp) ?_
        refine AllReadyH.cons (o := { dst := some 60, op := Op.call { callee := Callee.value (Operand.func 105), args := #[Operand.tmp 59], argTypes := #[3] }, type := 28, pos := "rec.go:74", after := #[{ on := 11, ground := Ground.data }, { on := 9, ground := Ground.chain }], guard := none }) rfl (fun K hK => ?_) (AllReadyH.nil)
        go_simp
        refine (HQ2.out _).mono ?_; rintro e0 w8 ⟨a4, k4, rfl, hs1, hb⟩
        have HS4 := Lib.hid hs1
        clear hs1
        replace HX := Lib.hid (HX.out.below (by simp) hb)
        replace HPk := Lib.hid (HPk.out.later hb)
        replace HAs := Lib.hid (HAs.out.trans (Aside.of_all hb))
        replace HS0 := Lib.hid (sl_keep HS0.out hb)
        replace HSD := Lib.hid (sl_keep HSD.out hb)
        replace HS1 := Lib.hid (sl_keep HS1.out hb)
        replace HS2 := Lib.hid (sl_keep HS2.out hb)
        replace HS3 := Lib.hid (sl_keep HS3.out hb)
        clear hb
        try go_wp2_with fail
        refine hK.out _ _ ⟨HX.out.c 1 (by simp), HX.out.c 2 (by simp), HX.out.c 3 (by simp)⟩ (fun hHeld => ?_)
        clear hK K
        try simp only [Act.put, List.setIfInBounds_toArray, List.set_cons_zero, List.set_cons_succ]
        refine wpAnyH_ready (rs := [14]) (by kernel_rfl) (by simp) ?_
        refine AllReadyH.cons (o := { dst := some 62, op := Op.buildSlice 161 6 #[(0, Operand.tmp 48), (1, Operand.tmp 51), (2, Operand.tmp 54), (3, Operand.tmp 57), (4, Operand.tmp 60), (5, Operand.tmp 61)], type := 161, pos := "rec.go:74", after := #[{ on := 0, ground := Ground.data }, { on := 3, ground := Ground.data }, { on := 6, ground := Ground.data }, { on := 9, ground := Ground.data }, { on := 12, ground := Ground.data }, { on := 13, ground := Ground.data }], guard := none }) rfl (fun K hK => ?_) (AllReadyH.nil)
        go_simp
        have hb : Below w8.heap.size w8 (w8.alloc (.cells #[.slice a0 m k0, .slice a1 2 k1, .slice a2 2 k2, .slice a3 4 k3, .slice a4 2 k4, .slice a6 q k6] 28)) := (Below.refl _ _).alloc (Nat.le_refl _) _
        replace HX := Lib.hid (HX.out.below (by simp) hb)
        replace HPk := Lib.hid (HPk.out.later hb)
        replace HAs := Lib.hid (HAs.out.trans (Aside.of_all hb))
        replace HS0 := Lib.hid (sl_keep HS0.out hb)
        replace HSD := Lib.hid (sl_keep HSD.out hb)
        replace HS1 := Lib.hid (sl_keep HS1.out hb)
        replace HS2 := Lib.hid (sl_keep HS2.out hb)
        replace HS3 := Lib.hid (sl_keep HS3.out hb)
        replace HS4 := Lib.hid (sl_keep HS4.out hb)
        clear hb
        have HCc := Lib.hid (concat_any (w := (w8.alloc (.cells #[.slice a0 m k0, .slice a1 2 k1, .slice a2 2 k2, .slice a3 4 k3, .slice a4 2 k4, .slice a6 q k6] 28))) (g := w8.heap.size) (lo := 0) (hi := (w8.alloc (.cells #[.slice a0 m k0, .slice a1 2 k1, .slice a2 2 k2, .slice a3 4 k3, .slice a4 2 k4, .slice a6 q k6] 28)).heap.size) (n := 6) (c0 := 6) (ls := [T, two t, two c, four l, two q, O]) rfl (by decide) (by simp) (Nat.le_refl _) (by simp [two, four, HM1.out, HQ1.out]; omega) (fun j hj => by
          match j, hj with
          | 0, _ => exact ⟨a0, k0, by simp [go_sem, HM1.out], by have h := HS0.out; simpa [HM1.out] using h⟩
          | 1, _ => exact ⟨a1, k1, by simp [go_sem, two], HS1.out⟩
          | 2, _ => exact ⟨a2, k2, by simp [go_sem, two], HS2.out⟩
          | 3, _ => exact ⟨a3, k3, by simp [go_sem, four], HS3.out⟩
          | 4, _ => exact ⟨a4, k4, by simp [go_sem, two], HS4.out⟩
          | 5, _ => exact ⟨a6, k6, by simp [go_sem, HQ1.out], by have h := HSD.out; simpa [HQ1.out] using h⟩))
        rw [show [T, two t, two c, four l, two q, O].flatten = T ++ (headB t c l q ++ O) by simp [headB]] at HCc
        refine hK.out _ _ ⟨HX.out.c 1 (by simp), HX.out.c 2 (by simp), HX.out.c 3 (by simp)⟩ (fun hHeld => ?_)
        clear hK K
        try simp only [Act.put, List.setIfInBounds_toArray, List.set_cons_zero, List.set_cons_succ]
        refine wpAnyH_ready (rs := [15]) (by kernel_rfl) (by simp) ?_
        refine AllReadyH.cons (o := { dst := some 63, op := Op.call { callee := Callee.value (Operand.func 104), args := #[Operand.tmp 62], argTypes := #[161] }, type := 28, pos := "rec.go:74", after := #[{ on := 14, ground := Ground.data }, { on := 12, ground := Ground.chain }], guard := none }) rfl (fun K hK => ?_) (AllReadyH.nil)
        go_simp
        refine HCc.out.mono ?_; rintro e0 w9 ⟨v9, rfl, ho, hb⟩
        have HO := Lib.hid ho
        have HAs0 := Lib.hid HAs.out
        clear ho HCc HS0 HS1 HS2 HS3 HS4 HSD
        replace HX := Lib.hid (HX.out.below (by simp) hb)
        replace HPk := Lib.hid (HPk.out.later hb)
        replace HAs := Lib.hid (HAs.out.trans (Aside.of_all hb))
        clear hb
        try go_wp2_with fail
        refine hK.out _ _ ⟨HX.out.c 1 (by simp), HX.out.c 2 (by simp), HX.out.c 3 (by simp)⟩ (fun hHeld => ?_)
        clear hK K
        try simp only [Act.put, List.setIfInBounds_toArray, List.set_cons_zero, List.set_cons_succ]
        refine wpAnyH_take (i := 16) (oi := { dst := some 6, op := Op.assign (Operand.tmp 63), type := 28, pos := "rec.go:74", after := #[{ on := 15, ground := Ground.data }, { on := 15, ground := Ground.chain }, { on := 0, ground := Ground.phase }, { on := 1, ground := Ground.phase }, { on := 2, ground := Ground.phase }, { on := 3, ground := Ground.phase }, { on := 4, ground := Ground.phase }, { on := 5, ground := Ground.phase }, { on := 6, ground := Ground.phase }, { on := 7, ground := Ground.phase }, { on := 8, ground := Ground.phase }, { on := 9, ground := Ground.phase }, { on := 10, ground := Ground.phase }, { on := 11, ground := Ground.phase }, { on := 12, ground := Ground.phase }, { on := 13, ground := Ground.phase }, { on := 14, ground := Ground.phase }, { on := 15, ground := Ground.phase }], guard := none }) (v := ?_) rfl (by kernel_rfl) (by kernel_rfl) (by kernel_rfl) (fun _ _ _ h => h) (Or.inl ⟨by rfl, ?_⟩) (by assumption) ?_
        rotate_left 1
        · intro w hSw; (try dsimp only at hSw); go_simp; try (with_reducible rfl)
        try simp only [Act.put, List.setIfInBounds_toArray, List.set_cons_zero, List.set_cons_succ]
        refine wpAnyH_take (i := 17) (oi := { dst := some 7, op := Op.assign (Operand.const (Value.int IntKind.i64 0)), type := 29, pos := "rec.go:74", after := #[{ on := 16, ground := Ground.chain }, { on := 0, ground := Ground.phase }, { on := 1, ground := Ground.phase }, { on := 2, ground := Ground.phase }, { on := 3, ground := Ground.phase }, { on := 4, ground := Ground.phase }, { on := 5, ground := Ground.phase }, { on := 6, ground := Ground.phase }, { on := 7, ground := Ground.phase }, { on := 8, ground := Ground.phase }, { on := 9, ground := Ground.phase }, { on := 10, ground := Ground.phase }, { on := 11, ground := Ground.phase }, { on := 12, ground := Ground.phase }, { on := 13, ground := Ground.phase }, { on := 14, ground := Ground.phase }, { on := 15, ground := Ground.phase }, { on := 16, ground := Ground.phase }], guard := none }) (v := ?_) rfl (by kernel_rfl) (by kernel_rfl) (by kernel_rfl) (fun _ _ _ h => h) (Or.inl ⟨by rfl, ?_⟩) (by assumption) ?_
        rotate_left 1
        · intro w hSw; (try dsimp only at hSw); go_simp; try (with_reducible rfl)
        try simp only [Act.put, List.setIfInBounds_toArray, List.set_cons_zero, List.set_cons_succ]
        refine wpAnyH_done (by kernel_rfl) ?_ _
        clear hHeld
        go_wp2_with fail
        go_ret2
        rw [← HXR.out]
        exact ⟨_, rfl, HO.out.mono HAs0.out.size, HPk.out, HAs.out⟩
      · have tC : (C != 0) = true := by simpa using hC0
        have hXR : (⟨[], C, K3, e3⟩ : WR) = X := by rw [← HXv.out]; unfold wrT; rw [if_pos hC0]
        have HXR := Lib.hid hXR
        clear HXv hXR
        go_wp2_with fail
        go_ret2
        rw [← HXR.out]
        exact ⟨_, rfl, OwnB.nil _ _, HPk.out, HAs.out⟩
    · have tE : (E != 0) = true := by simpa using hE0
      rw [if_pos hE0] at HXv
      obtain ⟨rfl, rfl⟩ := hKE hE0
      clear HWt hpc
      go_wp2_with fail
      go_ret2
      rw [← HXv.out]
      exact ⟨_, rfl, OwnB.nil _ _, HPk.out, HAs.out⟩
  · obtain ⟨E, hE⟩ : ∃ E, chkC ⟨n, t, c, l, d⟩ = E := ⟨_, rfl⟩
    rw [hE] at HAk HXv hA
    rw [if_pos hA] at HXv
    have tE : (E != 0) = true := by simpa using hA
    clear hE hA
    go_enter Tryz.func130, Tryz.ntmps130
    go_wp2_with fail
    refine HM.out.mono ?_; rintro e0 w1 ⟨rfl, hp1, ha1⟩
    replace HX := Lib.hid (HX.out.aside (by simp) ha1 hgp)
    have HPk := Lib.hid hp1
    have HAs := Lib.hid (HA0.out.trans ha1)
    obtain ⟨c0, c1, c2, c3, c4⟩ := HX.out.five
    clear hp1 ha1 HM HA0
    go_wp2_with fail
    refine (HAk.out _).mono ?_; rintro e0 w2 ⟨rfl, hb⟩
    replace HPk := Lib.hid (HPk.out.later hb)
    replace HAs := Lib.hid (HAs.out.trans (Aside.of_all hb))
    clear hb c0 c1 c2 c3 c4
    go_wp2_with fail
    go_ret2
    rw [← HXv.out]
    exact ⟨_, rfl, OwnB.nil _ _, HPk.out, HAs.out⟩
end Go.Proofs.YtdikgjbpjdnodaaGreat

/-
  The statements about what is read of any bytes, and about lower form.
-/
namespace Go.Proofs.YtdikgjbpjdnodaaGreat
open Go.RowKit Go.Shelf
set_option linter.unusedVariables false
set_option linter.unusedSimpArgs false
set_option maxRecDepth 100000

theorem go_bad {F : Nat → Got} {b : List UInt8} {s e : Nat} (hs : s ≤ b.length) (hF : ∀ p, (F p).2.2.2 ≤ b.length) : ∀ (ks : List PK) (p : Nat) (acc : List Pc) (c : Int) (a : Nat), goP F b s e ks p acc = .bad c a → a ≤ b.length ∧ c ≠ 0
  | [], p, acc, c, a, h => by
    rw [goP] at h
    split at h
    · injection h with h1 h2; subst h1; subst h2; exact ⟨hs, by decide⟩
    · simp at h
  | k :: ks, p, acc, c, a, h => by
    rw [goP] at h
    split at h
    · exact go_bad hs hF ks _ _ c a h
    · rename_i c' a' hx
      injection h with h1 h2
      subst h1; subst h2
      have hcut : ∀ q', cutP b s e p q' = .bad c' a' → a' ≤ b.length ∧ c' ≠ 0 := by
        intro q' hq
        unfold cutP at hq
        split at hq
        · injection hq with h1 h2; subst h1; subst h2; exact ⟨hs, by decide⟩
        · simp at hq
      cases k with
      | fix n => exact hcut _ hx
      | nam =>
        simp only [stepP] at hx
        split at hx
        · injection hx with h1 h2; subst h1; subst h2; exact ⟨hs, by decide⟩
        · split at hx
          · rename_i h0
            injection hx with h1 h2; subst h1; subst h2; exact ⟨hF p, h0⟩
          · split at hx
            · injection hx with h1 h2; subst h1; subst h2; exact ⟨hs, by decide⟩
            · simp at hx
      | txt =>
        rw [txR_step] at hx
        cases hy : txE b e (e + 1) p with
        | none => rw [hy] at hx; injection hx with h1 h2; subst h1; subst h2; exact ⟨hs, by decide⟩
        | some y => rw [hy] at hx; exact hcut _ hx
      | rst => exact hcut _ hx

theorem rdR_bad {b : List UInt8} {a size t : Int} {c : Int} {p : Nat} (h : rdR b a size t = .bad c p) : p ≤ b.length ∧ c ≠ 0 := by
  unfold rdR at h
  split at h
  · injection h with h1 h2; subst h1; subst h2; exact ⟨Nat.zero_le _, by decide⟩
  · split at h
    · injection h with h1 h2; subst h1; subst h2; exact ⟨Nat.zero_le _, by decide⟩
    · split at h
      · injection h with h1 h2; subst h1; subst h2; exact ⟨Nat.le_refl _, by decide⟩
      · exact go_bad (by omega) (fun p => rda_place b p) _ _ _ _ _ h

theorem rdR_ok {b : List UInt8} {a size t : Int} {L : List Pc} (h : rdR b a size t = .ok L) : 0 ≤ t ∧ t ≤ 65535 ∧ Fits (kinds t) L ∧ (joined L).length ≤ 3 * (b.length + 255) ∧ 0 ≤ a ∧ 0 ≤ size ∧ a + size ≤ b.length ∧ goP (fun p => rda b p) b a.toNat (a.toNat + size.toNat) (kinds t) a.toNat [] = .ok L := by
  unfold rdR at h
  split at h
  · simp at h
  · split at h
    · simp at h
    · split at h
      · simp at h
      · obtain ⟨M, h1, h2⟩ := go_fits (F := fun p => rda b p) (e := a.toNat + size.toNat) (by omega) (fun p hp => (rda_fine b p hp).1) (kinds t) _ [] L (kinds_last t) (by omega) h
        rw [List.nil_append] at h1
        subst h1
        obtain ⟨h3, _⟩ := go_len (F := fun p => rda b p) (fun p hp => rda_len b p hp) (kinds t) _ [] L h
        have hk := (kinds_small t).1
        have h4 : (kinds t).length * (b.length + 255) ≤ 3 * (b.length + 255) := Nat.mul_le_mul_right _ hk
        rw [joined_nil, List.length_nil] at h3
        exact ⟨by omega, by omega, h2, by omega, by omega, by omega, by omega, h⟩

end Go.Proofs.YtdikgjbpjdnodaaGreat

/-
  What is read, plainly.
-/
namespace Go.Proofs.YtdikgjbpjdnodaaGreat
open Go.RowKit Go.Shelf
set_option linter.unusedVariables false
set_option linter.unusedSimpArgs false
set_option maxRecDepth 100000

theorem st2_ok {b : List UInt8} {i : Nat} (h : i + 2 ≤ b.length) (p old : Int) : st2 b ⟨i, 0, p⟩ = ⟨((i + 2 : Nat) : Int), 0, 0⟩ ∧ vl2 b ⟨i, 0, p⟩ old = nAt2 (iz b) i := by
  unfold st2 vl2 getF getE getA
  have c0 : ¬ ((0 : Int) ≠ 0) := by simp
  have c1 : (0 : Int) ≤ i ∧ (i : Int) + ((2 : Nat) : Int) ≤ (b.length : Int) := by omega
  have c2 : ¬ ((i : Int) < 0 ∨ (b.length : Int) < i) := by omega
  have c3 : ¬ ((b.length : Int) < (i : Int) + ((2 : Nat) : Int)) := by omega
  have c4 : ¬ ((0 : Int) ≤ i ∧ (i : Int) ≤ b.length ∧ (b.length : Int) < (i : Int) + ((2 : Nat) : Int)) := by omega
  simp only [if_neg c0, if_pos c1, if_neg c2, if_neg c3, if_neg c4, Int.toNat_natCast]
  exact ⟨by push_cast; rfl, trivial⟩
theorem st2_short {b : List UInt8} {i : Nat} (h : i ≤ b.length) (h2 : b.length < i + 2) (p : Int) : st2 b ⟨i, 0, p⟩ = ⟨0, 4, b.length⟩ := by
  unfold st2 getF getE getA
  have c0 : ¬ ((0 : Int) ≠ 0) := by simp
  have c1 : ¬ ((0 : Int) ≤ i ∧ (i : Int) + ((2 : Nat) : Int) ≤ (b.length : Int)) := by omega
  have c2 : ¬ ((i : Int) < 0 ∨ (b.length : Int) < i) := by omega
  have c3 : (b.length : Int) < (i : Int) + ((2 : Nat) : Int) := by omega
  have c4 : (0 : Int) ≤ i ∧ (i : Int) ≤ b.length ∧ (b.length : Int) < (i : Int) + ((2 : Nat) : Int) := by omega
  simp only [if_neg c0, if_neg c1, if_neg c2, if_pos c3, if_pos c4]
theorem st2_bad {b : List UInt8} {s : RS} (h : s.e ≠ 0) : st2 b s = s := by unfold st2; rw [if_pos h]
theorem st4_ok {b : List UInt8} {i : Nat} (h : i + 4 ≤ b.length) (p old : Int) : st4 b ⟨i, 0, p⟩ = ⟨((i + 4 : Nat) : Int), 0, 0⟩ ∧ vl4 b ⟨i, 0, p⟩ old = nAt4 (iz b) i := by
  unfold st4 vl4 getF getE getA
  have c0 : ¬ ((0 : Int) ≠ 0) := by simp
  have c1 : (0 : Int) ≤ i ∧ (i : Int) + ((4 : Nat) : Int) ≤ (b.length : Int) := by omega
  have c2 : ¬ ((i : Int) < 0 ∨ (b.length : Int) < i) := by omega
  have c3 : ¬ ((b.length : Int) < (i : Int) + ((4 : Nat) : Int)) := by omega
  have c4 : ¬ ((0 : Int) ≤ i ∧ (i : Int) ≤ b.length ∧ (b.length : Int) < (i : Int) + ((4 : Nat) : Int)) := by omega
  simp only [if_neg c0, if_pos c1, if_neg c2, if_neg c3, if_neg c4, Int.toNat_natCast]
  exact ⟨by push_cast; rfl, trivial⟩
theorem st4_short {b : List UInt8} {i : Nat} (h : i ≤ b.length) (h2 : b.length < i + 4) (p : Int) : st4 b ⟨i, 0, p⟩ = ⟨0, 4, b.length⟩ := by
  unfold st4 getF getE getA
  have c0 : ¬ ((0 : Int) ≠ 0) := by simp
  have c1 : ¬ ((0 : Int) ≤ i ∧ (i : Int) + ((4 : Nat) : Int) ≤ (b.length : Int)) := by omega
  have c2 : ¬ ((i : Int) < 0 ∨ (b.length : Int) < i) := by omega
  have c3 : (b.length : Int) < (i : Int) + ((4 : Nat) : Int) := by omega
  have c4 : (0 : Int) ≤ i ∧ (i : Int) ≤ b.length ∧ (b.length : Int) < (i : Int) + ((4 : Nat) : Int) := by omega
  simp only [if_neg c0, if_neg c1, if_neg c2, if_pos c3, if_pos c4]
theorem st4_bad {b : List UInt8} {s : RS} (h : s.e ≠ 0) : st4 b s = s := by unfold st4; rw [if_pos h]
theorem stD_bad {b : List UInt8} {s : RS} {m t : Int} (h : s.e ≠ 0) : stD b s m t = s := by unfold stD; rw [if_pos h]

theorem s1_ok {b : List UInt8} {p : Nat} {n : List UInt8} {i : Nat} (h : rda b p = (n, i, 0, 0)) : s1 b p = ⟨i, 0, 0⟩ ∧ rN b p = n := by
  unfold s1 rN stN vlN
  simp only
  rw [if_neg (by simp), if_neg (by simp), h]
  exact ⟨rfl, rfl⟩

/-- A question is read. -/
theorem ques_ok {b : List UInt8} {p : Nat} {n : List UInt8} {i : Nat} (h : rda b p = (n, i, 0, 0)) (hi : i + 4 ≤ b.length) :
    s3 b p = ⟨((i + 4 : Nat) : Int), 0, 0⟩ ∧ rN b p = n ∧ rT b p = nAt2 (iz b) i ∧ rC b p = nAt2 (iz b) (i + 2) := by
  obtain ⟨h1, h2⟩ := s1_ok h
  have g1 := st2_ok (b := b) (i := i) (by omega) 0 0
  have g2 := st2_ok (b := b) (i := i + 2) (by omega) 0 0
  have e2 : s2 b p = ⟨((i + 2 : Nat) : Int), 0, 0⟩ := by unfold s2; rw [h1]; exact g1.1
  refine ⟨?_, h2, ?_, ?_⟩
  · unfold s3; rw [e2]; exact g2.1
  · unfold rT; rw [h1]; exact g1.2
  · unfold rC; rw [e2]; exact g2.2

/-- A record's head is read. -/
theorem head_ok {b : List UInt8} {p : Nat} {n : List UInt8} {i : Nat} (h : rda b p = (n, i, 0, 0)) (hi : i + 10 ≤ b.length) :
    s5 b p = ⟨((i + 10 : Nat) : Int), 0, 0⟩ ∧ rL b p = nAt4 (iz b) (i + 4) ∧ rZ b p = nAt2 (iz b) (i + 8) := by
  obtain ⟨h1, _, _, _⟩ := ques_ok h (by omega)
  have g1 := st4_ok (b := b) (i := i + 4) (by omega) 0 0
  have g2 := st2_ok (b := b) (i := i + 8) (by omega) 0 0
  have e4 : s4 b p = ⟨((i + 8 : Nat) : Int), 0, 0⟩ := by unfold s4; rw [h1]; exact g1.1
  refine ⟨?_, ?_, ?_⟩
  · unfold s5; rw [e4]; exact g2.1
  · unfold rL; rw [h1]; exact g1.2
  · unfold rZ; rw [e4]; exact g2.2

/-- Data are read, or not. -/
theorem data_ok {b : List UInt8} {p : Nat} {n : List UInt8} {i : Nat} {L : List Pc} (h : rda b p = (n, i, 0, 0)) (hi : i + 10 ≤ b.length) (hr : rdR b ((i + 10 : Nat) : Int) (rZ b p) (rT b p) = .ok L) :
    s6 b p = ⟨wrap64 (((i + 10 : Nat) : Int) + rZ b p), 0, 0⟩ ∧ rD b p = joined L := by
  obtain ⟨h1, _, _⟩ := head_ok h hi
  unfold s6 rD stD vlD
  rw [h1]
  simp only
  rw [if_neg (by simp), if_neg (by simp), hr]
  exact ⟨rfl, rfl⟩
theorem data_no {b : List UInt8} {p : Nat} {n : List UInt8} {i : Nat} {c : Int} {a : Nat} (h : rda b p = (n, i, 0, 0)) (hi : i + 10 ≤ b.length) (hr : rdR b ((i + 10 : Nat) : Int) (rZ b p) (rT b p) = .bad c a) :
    (s6 b p).e = c ∧ (s6 b p).p = a := by
  obtain ⟨h1, _, _⟩ := head_ok h hi
  unfold s6 stD
  rw [h1]
  simp only
  rw [if_neg (by simp), hr]
  exact ⟨rfl, rfl⟩

theorem rda_zero {b : List UInt8} {p : Nat} (h : (rda b p).2.2.1 = 0) : (rda b p).2.2.2 = 0 := by
  unfold rda at h ⊢
  split at h
  · exact absurd h (by decide)
  · rename_i hr
    rw [if_neg hr]
    rw [Int.toNat_natCast] at h ⊢
    rcases rd_fine b p (by omega) p p 0 [] [] rfl ⟨by simp, by simp [wire]⟩ with ⟨_, f, _⟩ | ⟨f, _⟩
    · exact f
    · exact absurd h f

end Go.Proofs.YtdikgjbpjdnodaaGreat

/-
  What is written is read as it was; plainly.
-/
namespace Go.Proofs.YtdikgjbpjdnodaaGreat
open Go.RowKit Go.Shelf
set_option linter.unusedVariables false
set_option linter.unusedSimpArgs false
set_option maxRecDepth 100000

theorem at2 (b r : List UInt8) (t : Int) (h0 : 0 ≤ t) (h1 : t ≤ 65535) : nAt2 (iz (b ++ (two t ++ r))) b.length = t := by
  have e : iz (b ++ (two t ++ r)) = iz b ++ (putL2 t ++ iz r) := by rw [iz_app, iz_app, iz_two t h0 h1]
  have hp : putL2 t = [t / 256, t % 256] := by unfold putL2; rw [if_pos ⟨h0, h1⟩]
  unfold nAt2 num2
  rw [e, hp]
  have g0 := getD_behind (iz b) ([t / 256, t % 256] ++ iz r) 0
  have g1 := getD_behind (iz b) ([t / 256, t % 256] ++ iz r) 1
  rw [iz_len] at g0 g1
  rw [Nat.add_zero] at g0
  rw [g0, g1]
  show t / 256 * 256 + t % 256 = t
  omega

theorem at4 (b r : List UInt8) (t : Int) (h0 : 0 ≤ t) (h1 : t ≤ 4294967295) : nAt4 (iz (b ++ (four t ++ r))) b.length = t := by
  have e : iz (b ++ (four t ++ r)) = iz b ++ (putL4 t ++ iz r) := by rw [iz_app, iz_app, iz_four t h0 h1]
  have hp : putL4 t = [t / 256 / 256 / 256, t / 256 / 256 % 256, t / 256 % 256, t % 256] := by unfold putL4; rw [if_pos ⟨h0, h1⟩]
  unfold nAt4 num4
  rw [e, hp]
  have g0 := getD_behind (iz b) ([t / 256 / 256 / 256, t / 256 / 256 % 256, t / 256 % 256, t % 256] ++ iz r) 0
  have g1 := getD_behind (iz b) ([t / 256 / 256 / 256, t / 256 / 256 % 256, t / 256 % 256, t % 256] ++ iz r) 1
  have g2 := getD_behind (iz b) ([t / 256 / 256 / 256, t / 256 / 256 % 256, t / 256 % 256, t % 256] ++ iz r) 2
  have g3 := getD_behind (iz b) ([t / 256 / 256 / 256, t / 256 / 256 % 256, t / 256 % 256, t % 256] ++ iz r) 3
  rw [iz_len] at g0 g1 g2 g3
  rw [Nat.add_zero] at g0
  rw [g0, g1, g2, g3]
  show ((t / 256 / 256 / 256 * 256 + t / 256 / 256 % 256) * 256 + t / 256 % 256) * 256 + t % 256 = t
  omega

theorem getD_ahead (b c : List UInt8) (k : Nat) (h : k < b.length) : (iz (b ++ c)).getD k 0 = (iz b).getD k 0 := by
  rw [iz_app, List.getD, List.getD, List.getElem?_append_left (by rw [iz_len]; exact h)]
theorem at2_more {b : List UInt8} {i : Nat} (c : List UInt8) (h : i + 2 ≤ b.length) : nAt2 (iz (b ++ c)) i = nAt2 (iz b) i := by
  unfold nAt2
  rw [getD_ahead b c i (by omega), getD_ahead b c (i + 1) (by omega)]
theorem at4_more {b : List UInt8} {i : Nat} (c : List UInt8) (h : i + 4 ≤ b.length) : nAt4 (iz (b ++ c)) i = nAt4 (iz b) i := by
  unfold nAt4
  rw [getD_ahead b c i (by omega), getD_ahead b c (i + 1) (by omega), getD_ahead b c (i + 2) (by omega), getD_ahead b c (i + 3) (by omega)]

/-- A question stands at p; its name ends at i. -/
def LiesQ (b : List UInt8) (p : Nat) (x : Rc) (i : Nat) : Prop :=
  ∃ ls, Shorts ls ∧ x.n = nm ls ∧ StandE b p p ls i ∧ i + 4 ≤ b.length ∧ nAt2 (iz b) i = x.t ∧ nAt2 (iz b) (i + 2) = x.c

/-- A record stands from p up to en. -/
def LiesR (b : List UInt8) (p : Nat) (x : Rc) (i en : Nat) : Prop :=
  i + 10 ≤ b.length ∧ nAt4 (iz b) (i + 4) = x.l ∧ ∃ (m : Nat) (L : List Pc), nAt2 (iz b) (i + 8) = m ∧ m ≤ 65535 ∧ spl x.t x.d = .ok L ∧ Lies b (i + 10) L (i + 10 + m) ∧ en = i + 10 + m

theorem LiesQ.more {b : List UInt8} {p : Nat} {x : Rc} {i : Nat} (h : LiesQ b p x i) (c : List UInt8) : LiesQ (b ++ c) p x i := by
  obtain ⟨ls, h1, h2, h3, h4, h5, h6⟩ := h
  exact ⟨ls, h1, h2, h3.more c, by rw [List.length_append]; omega, by rw [at2_more c (by omega)]; exact h5, by rw [at2_more c (by omega)]; exact h6⟩
theorem LiesR.more {b : List UInt8} {p : Nat} {x : Rc} {i en : Nat} (h : LiesR b p x i en) (c : List UInt8) : LiesR (b ++ c) p x i en := by
  obtain ⟨h1, h2, m, L, h3, h4, h5, h6, h7⟩ := h
  exact ⟨by rw [List.length_append]; omega, by rw [at4_more c (by omega)]; exact h2, m, L, by rw [at2_more c (by omega)]; exact h3, h4, h5, h6.more c, h7⟩

theorem two_len (t : Int) : (two t).length = 2 := rfl
theorem four_len (t : Int) : (four t).length = 4 := rfl

/-- A name that is told stands. -/
theorem name_lies {b : List UInt8} {K : KK} {e : Nat} {P : KK} (hI : Inv b K e P) {n : List UInt8} (hc : chk n = 0) (hb : b.length ≤ 65535) :
    ∃ ls, Shorts ls ∧ n = nm ls ∧ pkE e b.length n = 0 ∧ nameB K e b.length n = told K ls ∧ Inv (b ++ told K ls) (nameK K e b.length n) (nameE K e b.length n) (P ++ [(nm ls, b.length)]) ∧ StandE (b ++ told K ls) b.length b.length ls (b.length + (told K ls).length) ∧ (told K ls).length ≤ n.length := by
  obtain ⟨hs, hx⟩ := shorts_of hc
  have hx : n = nm (labs n) := hx
  obtain ⟨ls, hls⟩ : ∃ ls, labs n = ls := ⟨_, rfl⟩
  rw [hls] at hs hx
  subst hx
  have hla := hI.last
  have hE : pkE e b.length (nm ls) = 0 := by unfold pkE; rw [if_neg (fun h => h (shorts_chk hs)), if_neg (by omega), if_neg (by omega)]
  have e1 : nameB K e b.length (nm ls) = told K ls := by unfold nameB; rw [if_pos hE, show labs (nm ls) = ls from shorts_labs hs]
  have e2 : nameK K e b.length (nm ls) = K ++ fr b.length ls (hdn K ls) := by unfold nameK; rw [if_pos hE, show labs (nm ls) = ls from shorts_labs hs, Int.toNat_natCast]
  have e3 : nameE K e b.length (nm ls) = b.length + (told K ls).length := by unfold nameE; rw [if_pos hE, show labs (nm ls) = ls from shorts_labs hs, Int.toNat_natCast]
  have htl := told_le hI.good hs
  have hst := toldE_rd hI hs (hdn K ls) 0 (by omega) b.length (Nat.le_refl _)
  rw [pos_zero, Nat.add_zero, List.drop_zero] at hst
  refine ⟨ls, hs, rfl, hE, e1, ?_, hst, htl⟩
  rw [e2, e3]
  exact hI.tell hs

/-- A question that is written stands. -/
theorem ask_lies {b : List UInt8} {K : KK} {e : Nat} {P : KK} (hI : Inv b K e P) {x : Rc} (hx : askE x.n x.t x.c = 0) (hb : b.length ≤ 65535) :
    ∃ out K' e' P' i, askW b.length x.n x.t x.c K e = ⟨out, 0, K', e'⟩ ∧ out.length ≤ 259 ∧ Inv (b ++ out) K' e' P' ∧ LiesQ (b ++ out) b.length x i ∧ b.length + out.length = i + 4 ∧ K'.length ≤ K.length + 127 := by
  obtain ⟨hc, t0, t1, c0, c1⟩ := askE_ok hx
  obtain ⟨ls, hs, hn, hE, hB, hI1, hst, hle⟩ := name_lies hI hc hb
  have hn255 := (chk_pos hc).2
  have hkk := (nameK_good (e := e) (a := b.length) (n := x.n) hI.good).2.1
  obtain ⟨T, hT⟩ : ∃ T, told K ls = T := ⟨_, rfl⟩
  rw [hT] at hB hI1 hst hle
  have hl : (b ++ T).length = b.length + T.length := List.length_append
  refine ⟨T ++ (two x.t ++ two x.c), nameK K e b.length x.n, nameE K e b.length x.n, P ++ [(nm ls, b.length)], b.length + T.length, ?_, ?_, ?_, ?_, ?_, hkk⟩
  · unfold askW
    rw [if_neg (by simpa using hx), if_neg (by simpa using hE), hB]
  · rw [List.length_append, List.length_append, two_len, two_len]; omega
  · rw [← List.append_assoc]; exact hI1.more _
  · refine ⟨ls, hs, hn, ?_, ?_, ?_, ?_⟩
    · rw [← List.append_assoc]; exact hst.more _
    · rw [List.length_append, List.length_append, List.length_append, two_len, two_len]; omega
    · have h := at2 (b ++ T) (two x.c) x.t t0 t1
      rw [hl, List.append_assoc] at h
      exact h
    · have h := at2 (b ++ T ++ two x.t) [] x.c c0 c1
      rw [List.length_append, hl, two_len, List.append_nil, List.append_assoc, List.append_assoc] at h
      exact h
  · rw [List.length_append, List.length_append, two_len, two_len]; omega

theorem headB_len (t c l : Int) (k : Nat) : (headB t c l k).length = 10 := by unfold headB; rw [List.length_append, List.length_append, List.length_append, two_len, two_len, two_len, four_len]

end Go.Proofs.YtdikgjbpjdnodaaGreat
