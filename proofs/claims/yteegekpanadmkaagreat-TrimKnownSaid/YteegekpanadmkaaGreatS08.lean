/-
  A record's bytes.
-/
import Derived.Test.YteegekpanadmkaaGreatS07
import Derived.Test.YteegekpanadmkaaGreatS06
import Derived.Test.YteegekpanadmkaaGreatS01
import Derived.Laws.MakeOwn
import Derived.Laws.OwnMore
import Derived.Deep.Slices
import Derived.Deep.LoopGhost
import Derived.ChangeArms
import Derived.Outline
import Derived.Laws.StructEq
namespace Go.Proofs.YteegekpanadmkaaGreat
open Go.RowKit Go.Shelf
set_option linter.unusedVariables false
set_option linter.unusedSimpArgs false
set_option maxRecDepth 100000

/-- What stands behind a record's name and ahead of its data. -/
def headB (t c l : Int) (k : Nat) : List UInt8 := two t ++ (two c ++ (four l ++ two k))

/-- A record's bytes, the head known. -/
def wrT (T : List UInt8) (t c l : Int) (R : WR) : WR := if R.code ≠ 0 then ⟨[], R.code, R.K, R.e⟩ else ⟨T ++ (headB t c l R.out.length ++ R.out), 0, R.K, R.e⟩

/-- A record's bytes, or the error. -/
def wrC (a : Int) (x : Rc) (K : KK) (e : Nat) : WR :=
  if chkC x ≠ 0 then ⟨[], chkC x, K, e⟩ else if pkE e a x.n ≠ 0 then ⟨[], pkE e a x.n, K, e⟩
  else wrT (nameB K e a x.n) x.t x.c x.l (wrR (a + (nameB K e a x.n).length + 10) x.t x.d (nameK K e a x.n) (nameE K e a x.n))

theorem wrL_len (a : Int) : ∀ (L : List Pc) (K : KK) (e : Nat) (acc : List UInt8), GoodK K → (wrL a L K e acc).out.length ≤ acc.length + (joined L).length
  | [], K, e, acc, _ => by rw [wrL]; show acc.length ≤ _; omega
  | x :: L, K, e, acc, hG => by
    rw [wrL, joined_cons, List.length_append]
    split
    · split
      · exact Nat.zero_le _
      · rename_i h1
        have h2 := nameK_good (e := e) (a := wrap64 (a + acc.length)) (n := x.1) hG
        have h3 := (nameB_len (e := e) (a := wrap64 (a + acc.length)) (n := x.1) hG).2 (by simpa using h1)
        have h4 := wrL_len a L (nameK K e (wrap64 (a + acc.length)) x.1) (nameE K e (wrap64 (a + acc.length)) x.1) (acc ++ nameB K e (wrap64 (a + acc.length)) x.1) h2.1
        rw [List.length_append] at h4
        omega
    · have h4 := wrL_len a L K e (acc ++ x.1) hG
      rw [List.length_append] at h4
      omega

theorem wrR_len (a t : Int) (d : List UInt8) (K : KK) (e : Nat) (hG : GoodK K) (h : (spl t d).code = 0) : (wrR a t d K e).out.length ≤ d.length ∧ d.length ≤ 65535 := by
  obtain ⟨L, hL⟩ := code_ok h
  obtain ⟨_, _, h6, _, hj⟩ := spl_ok hL
  unfold wrR
  rw [hL]
  have := wrL_len a L K e [] hG
  rw [hj] at this
  exact ⟨by simpa using this, h6⟩

theorem chkC_ok {x : Rc} (h : chkC x = 0) : askE x.n x.t x.c = 0 ∧ 0 ≤ x.l ∧ x.l ≤ 2147483647 ∧ (spl x.t x.d).code = 0 := by
  unfold chkC at h
  split at h
  · rename_i h1; exact absurd h h1
  · rename_i h1
    split at h
    · exact absurd h (by decide)
    · exact ⟨by simpa using h1, by omega, by omega, h⟩

set_option maxHeartbeats 16000000 in
theorem writeC_any {w : World} {p bm e : Nat} {K : KK} (h : Pk w p bm K e) (hG : GoodK K) (hK : K.length ≤ 700000) (he : e ≤ 900000) (a : Int) (n : List UInt8) (t c l : Int) (d : List UInt8) (hn : n.length ≤ 1000000) (hd : d.length ≤ 1000000) :
    Calls Tryz.prog 157 #[.pointer (some ⟨p, 0, none⟩), .int .i64 a, .agg #[.string (bs n), .int .i64 t, .int .i64 c, .int .i64 l, .string (bs d)]] w (WrPost w p bm (wrC a ⟨n, t, c, l, d⟩ K e)) := by
  obtain ⟨W0, hW0⟩ : ∃ W0, w.alloc (.cells #[.string (bs n), .int .i64 t, .int .i64 c, .int .i64 l, .string (bs d)] 52) = W0 := ⟨_, rfl⟩
  have hb0 : Below w.heap.size w W0 := by rw [← hW0]; exact (Below.refl _ _).alloc (Nat.le_refl _) _
  have hx : Cel W0 w.heap.size [.string (bs n), .int .i64 t, .int .i64 c, .int .i64 l, .string (bs d)] := by rw [← hW0]; exact cel_new w _ _ _ _ _ _
  have HM := Lib.hid (made_any (h.later hb0) hG (by omega) (by omega))
  have hpl := h.lt
  have hml := h.map.lt
  have HA0 := Lib.hid (Aside.of_all hb0 : Aside (fun b => b = p ∨ b = bm) w W0)
  have HAk := Lib.hid (fun wx => checkC_any n t c l d hn hd wx)
  obtain ⟨g, hg⟩ : ∃ g, w.heap.size = g := ⟨_, rfl⟩
  have HX := Lib.hid hx
  rw [hg] at HX
  have hgp : ¬ (g = p ∨ g = bm) := by omega
  clear h hx hb0
  obtain ⟨X, hX⟩ : ∃ X, wrC a ⟨n, t, c, l, d⟩ K e = X := ⟨_, rfl⟩
  rw [hX]
  have HXv := Lib.hid hX
  clear hX
  unfold wrC at HXv
  by_cases hA : chkC ⟨n, t, c, l, d⟩ = 0
  · obtain ⟨hak, hl0, hl1, hsp⟩ := chkC_ok hA
    simp only at hak hl0 hl1 hsp
    obtain ⟨hch, ht0, ht1, hc0, hc1⟩ := askE_ok hak
    have hn255 := (chk_pos hch).2
    have HNm := Lib.hid (fun (wx : World) (hp : Pk wx p bm K e) => name_any hp hG (by omega) (by omega) a n (by omega))
    unfold NamePost at HNm
    rw [hA] at HAk
    rw [if_neg (by simpa using hA)] at HXv
    simp only at HXv
    have hnb := (nameB_len (e := e) (a := a) (n := n) hG).1
    have hng := nameK_good (e := e) (a := a) (n := n) hG
    have hpc := fun h => pkE_chk (e := e) (a := a) (n := n) h
    obtain ⟨E, hE⟩ : ∃ E, pkE e a n = E := ⟨_, rfl⟩
    obtain ⟨T, hT⟩ : ∃ T, nameB K e a n = T := ⟨_, rfl⟩
    obtain ⟨K2, hK2⟩ : ∃ K2, nameK K e a n = K2 := ⟨_, rfl⟩
    obtain ⟨e2, he2⟩ : ∃ e2, nameE K e a n = e2 := ⟨_, rfl⟩
    have hKE : E ≠ 0 → K2 = K ∧ e2 = e := fun hne => by rw [← hK2, ← he2]; unfold nameK nameE; rw [hE, if_neg hne, if_neg hne]; exact ⟨rfl, rfl⟩
    rw [hE, hT, hK2, he2] at HNm HXv
    rw [hE] at hpc
    rw [hT] at hnb
    rw [hK2, he2] at hng
    obtain ⟨hG2, hK22, he22⟩ := hng
    obtain ⟨m, hm⟩ : ∃ m, T.length = m := ⟨_, rfl⟩
    rw [hm] at HXv hnb
    obtain ⟨Y, hY⟩ : ∃ Y : Int, a + m + 10 = Y := ⟨_, rfl⟩
    rw [hY] at HXv
    have hlen := wrR_len Y t d K2 e2 hG2 hsp
    have HWt := Lib.hid (fun (wx : World) (hp : Pk wx p bm K2 e2) => write_any hp hG2 (by omega) (by omega) Y t d hd)
    unfold WrPost at HWt
    obtain ⟨R, hR⟩ : ∃ R, wrR Y t d K2 e2 = R := ⟨_, rfl⟩
    rw [hR] at HWt HXv hlen
    obtain ⟨O, C, K3, e3⟩ := R
    simp only at HWt hlen
    obtain ⟨q, hq⟩ : ∃ q, O.length = q := ⟨_, rfl⟩
    rw [hq] at hlen
    have HT2 := Lib.hid (fun wx => two_any t ht0 ht1 wx)
    have HC2 := Lib.hid (fun wx => two_any c hc0 hc1 wx)
    have HL4 := Lib.hid (fun wx => four_any l hl0 (by omega) wx)
    have HQ2 := Lib.hid (fun wx => two_any (q : Int) (by omega) (by omega) wx)
    have HM1 := Lib.hid hm
    have HQ1 := Lib.hid hq
    have hql : q ≤ 65535 := by omega
    clear hE hT hK2 he2 hA hch ht0 ht1 hc0 hc1 hG hn255 hG2 hK22 he22 hR hlen hsp hak hl0 hl1 hm hq
    go_enter Tryz.func157, Tryz.ntmps157
    go_wp2_with fail
    refine HM.out.mono ?_; rintro e0 w1 ⟨rfl, hp1, ha1⟩
    replace HX := Lib.hid (HX.out.aside (by simp) ha1 hgp)
    have HPk := Lib.hid hp1
    have HAs := Lib.hid (HA0.out.trans ha1)
    obtain ⟨c0, c1, c2, c3, c4⟩ := HX.out.five
    clear hp1 ha1 HM HA0
    go_wp2_with fail
    refine (HAk.out _).mono ?_; rintro e0 w2 ⟨rfl, hb⟩
    replace HX := Lib.hid (HX.out.below (by simp) hb)
    replace HPk := Lib.hid (HPk.out.later hb)
    replace HAs := Lib.hid (HAs.out.trans (Aside.of_all hb))
    clear hb c0 c1 c2 c3 c4
    have c0 : w2.cell? ⟨g, 0, none⟩ = some (.string (bs n)) := HX.out.c 0 (by simp)
    go_wp2_with fail
    refine (HNm.out _ HPk.out).mono ?_; rintro e0 w3 ⟨v3, rfl, ho, hp3, ha3⟩
    replace HX := Lib.hid (HX.out.aside (by simp) ha3 hgp)
    replace HPk := Lib.hid hp3
    have HSz := Lib.hid HAs.out.size
    replace HAs := Lib.hid (HAs.out.trans ha3)
    have HS0 := Lib.hid ho
    obtain ⟨a0, k0, rfl⟩ := ho.shape
    rw [HM1.out] at HS0 ⊢
    have hw2 : g ≤ w2.heap.size := by rw [← hg]; exact HSz.out
    obtain ⟨z2, hz2⟩ : ∃ z2, w2.heap.size = z2 := ⟨_, rfl⟩
    rw [hz2] at HS0 hw2
    clear hp3 ha3 ho c0 hz2 HSz
    by_cases hE0 : E = 0
    · subst hE0
      rw [if_neg (by simp)] at HXv
      obtain ⟨_, hp0, hp1, hp2⟩ := hpc rfl
      have hY1 : wrap64 (a + (m : Int)) = a + m := IntWalk.wrap64_in _ ⟨by omega, by omega⟩
      have hY3 : wrap64 Y = Y := IntWalk.wrap64_in _ ⟨by omega, by omega⟩
      obtain ⟨c0, c1, c2, c3, c4⟩ := HX.out.five
      clear hKE hpc hp0 hp1 hp2
      go_wp2_with fail
      rw [hY3]
      refine (HWt.out _ HPk.out).mono ?_; rintro e0 w4 ⟨v4, rfl, hoD, hp4, ha4⟩
      replace HX := Lib.hid (HX.out.aside (by simp) ha4 hgp)
      replace HPk := Lib.hid hp4
      replace HAs := Lib.hid (HAs.out.trans ha4)
      replace HS0 := Lib.hid (HS0.out.aside ha4 fun b hb hg2 => by have := (HS0.out.lt b hb).1; rcases hg2 with rfl | rfl <;> omega)
      have HSD := Lib.hid hoD
      obtain ⟨a6, k6, rfl⟩ := hoD.shape
      rw [HQ1.out] at HSD ⊢
      clear hp4 ha4 hoD c0 c1 c2 c3 c4 HWt hY hY1 hY3
      by_cases hC0 : C = 0
      · subst hC0
        have hXR : (⟨T ++ (headB t c l q ++ O), 0, K3, e3⟩ : WR) = X := by rw [← HXv.out]; unfold wrT; rw [if_neg (by simp)]; simp only [HQ1.out]
        have HXR := Lib.hid hXR
        clear HXv hXR
        have HXD := Lib.hid (Below.refl w4.heap.size w4).drew
        replace HX := Lib.hid (HX.out.below (by simp) HXD.out)
        replace HPk := Lib.hid (HPk.out.later HXD.out)
        replace HAs := Lib.hid (HAs.out.trans (Aside.of_all HXD.out))
        replace HS0 := Lib.hid (HS0.out.below HXD.out).sl.top
        replace HSD := Lib.hid (HSD.out.below HXD.out).sl.top
        clear HXD
        go_wp2_with fail
        refine wp_region_held_drew (S := (fun wx => wx.cell? ⟨g, 1, none⟩ = some (.int .i64 t) ∧ wx.cell? ⟨g, 2, none⟩ = some (.int .i64 c) ∧ wx.cell? ⟨g, 3, none⟩ = some (.int .i64 l))) (by kernel_rfl) ⟨HX.out.c 1 (by simp), HX.out.c 2 (by simp), HX.out.c 3 (by simp)⟩ (fun hHeld => ?_)
        refine wpAnyH_take (i := 0) (oi := { dst := some 48, op := Op.move (Operand.tmp 9), type := 28, pos := "rec.go:74", after := #[], guard := none }) (v := ?_) rfl (by kernel_rfl) (by kernel_rfl) (by kernel_rfl) (fun _ _ _ h => h) (Or.inl ⟨by rfl, ?_⟩) (by assumption) ?_
        rotate_left 1
        · intro w hSw; (try dsimp only at hSw); go_simp; try (with_reducible rfl)
        try simp only [Act.put, List.setIfInBounds_toArray, List.set_cons_zero, List.set_cons_succ]
        refine wpAnyH_take (i := 1) (oi := { dst := some 49, op := Op.fieldAddr 52 (Operand.tmp 5) 1, type := 0, pos := "rec.go:74", after := #[], guard := none }) (v := ?_) rfl (by kernel_rfl) (by kernel_rfl) (by kernel_rfl) (fun _ _ _ h => h) (Or.inl ⟨by rfl, ?_⟩) (by assumption) ?_
        rotate_left 1
        · intro w hSw; (try dsimp only at hSw); go_simp; try (with_reducible rfl)
        try simp only [Act.put, List.setIfInBounds_toArray, List.set_cons_zero, List.set_cons_succ]
        refine wpAnyH_take (i := 2) (oi := { dst := some 50, op := Op.load 3 (Operand.tmp 49), type := 3, pos := "rec.go:74", after := #[{ on := 1, ground := Ground.data }], guard := none }) (v := ?_) rfl (by kernel_rfl) (by kernel_rfl) (by kernel_rfl) (fun _ _ _ h => h) (Or.inl ⟨by rfl, ?_⟩) (by assumption) ?_
        rotate_left 1
        · intro w hSw; (try dsimp only at hSw); go_simp; try (with_reducible rfl)
        try simp only [Act.put, List.setIfInBounds_toArray, List.set_cons_zero, List.set_cons_succ]
        refine wpAnyH_take (i := 4) (oi := { dst := some 52, op := Op.fieldAddr 52 (Operand.tmp 5) 2, type := 0, pos := "rec.go:74", after := #[], guard := none }) (v := ?_) rfl (by kernel_rfl) (by kernel_rfl) (by kernel_rfl) (fun _ _ _ h => h) (Or.inl ⟨by rfl, ?_⟩) (by assumption) ?_
        rotate_left 1
        · intro w hSw; (try dsimp only at hSw); go_simp; try (with_reducible rfl)
        try simp only [Act.put, List.setIfInBounds_toArray, List.set_cons_zero, List.set_cons_succ]
        refine wpAnyH_take (i := 5) (oi := { dst := some 53, op := Op.load 3 (Operand.tmp 52), type := 3, pos := "rec.go:74", after := #[{ on := 4, ground := Ground.data }], guard := none }) (v := ?_) rfl (by kernel_rfl) (by kernel_rfl) (by kernel_rfl) (fun _ _ _ h => h) (Or.inl ⟨by rfl, ?_⟩) (by assumption) ?_
        rotate_left 1
        · intro w hSw; (try dsimp only at hSw); go_simp; try (with_reducible rfl)
        try simp only [Act.put, List.setIfInBounds_toArray, List.set_cons_zero, List.set_cons_succ]
        refine wpAnyH_take (i := 7) (oi := { dst := some 55, op := Op.fieldAddr 52 (Operand.tmp 5) 3, type := 0, pos := "rec.go:74", after := #[], guard := none }) (v := ?_) rfl (by kernel_rfl) (by kernel_rfl) (by kernel_rfl) (fun _ _ _ h => h) (Or.inl ⟨by rfl, ?_⟩) (by assumption) ?_
        rotate_left 1
        · intro w hSw; (try dsimp only at hSw); go_simp; try (with_reducible rfl)
        try simp only [Act.put, List.setIfInBounds_toArray, List.set_cons_zero, List.set_cons_succ]
        refine wpAnyH_take (i := 8) (oi := { dst := some 56, op := Op.load 3 (Operand.tmp 55), type := 3, pos := "rec.go:74", after := #[{ on := 7, ground := Ground.data }], guard := none }) (v := ?_) rfl (by kernel_rfl) (by kernel_rfl) (by kernel_rfl) (fun _ _ _ h => h) (Or.inl ⟨by rfl, ?_⟩) (by assumption) ?_
        rotate_left 1
        · intro w hSw; (try dsimp only at hSw); go_simp; try (with_reducible rfl)
        try simp only [Act.put, List.setIfInBounds_toArray, List.set_cons_zero, List.set_cons_succ]
        refine wpAnyH_take (i := 10) (oi := { dst := some 58, op := Op.move (Operand.tmp 11), type := 28, pos := "rec.go:74", after := #[], guard := none }) (v := ?_) rfl (by kernel_rfl) (by kernel_rfl) (by kernel_rfl) (fun _ _ _ h => h) (Or.inl ⟨by rfl, ?_⟩) (by assumption) ?_
        rotate_left 1
        · intro w hSw; (try dsimp only at hSw); go_simp; try (with_reducible rfl)
        try simp only [Act.put, List.setIfInBounds_toArray, List.set_cons_zero, List.set_cons_succ]
        refine wpAnyH_take (i := 11) (oi := { dst := some 59, op := Op.call { callee := Callee.builtin Builtin.len, args := #[Operand.tmp 58], argTypes := #[28] }, type := 3, pos := "rec.go:74", after := #[{ on := 10, ground := Ground.data }], guard := none }) (v := ?_) rfl (by kernel_rfl) (by kernel_rfl) (by kernel_rfl) (fun _ _ _ h => h) (Or.inl ⟨by rfl, ?_⟩) (by assumption) ?_
        rotate_left 1
        · intro w hSw; (try dsimp only at hSw); go_simp; try (with_reducible rfl)
        try simp only [Act.put, List.setIfInBounds_toArray, List.set_cons_zero, List.set_cons_succ]
        refine wpAnyH_take (i := 13) (oi := { dst := some 61, op := Op.move (Operand.tmp 11), type := 28, pos := "rec.go:74", after := #[], guard := none }) (v := ?_) rfl (by kernel_rfl) (by kernel_rfl) (by kernel_rfl) (fun _ _ _ h => h) (Or.inl ⟨by rfl, ?_⟩) (by assumption) ?_
        rotate_left 1
        · intro w hSw; (try dsimp only at hSw); go_simp; try (with_reducible rfl)
        try simp only [Act.put, List.setIfInBounds_toArray, List.set_cons_zero, List.set_cons_succ]
        refine wpAnyH_ready (rs := [3]) (by kernel_rfl) (by simp) ?_
        refine AllReadyH.cons (o := { dst := some 51, op := Op.call { callee := Callee.value (Operand.func 132), args := #[Operand.tmp 50], argTypes := #[3] }, type := 28, pos := "rec.go:74", after := #[{ on := 2, ground := Ground.data }], guard := none }) rfl (fun K hK => ?_) (AllReadyH.nil)
        go_simp
        refine (HT2.out _).mono ?_; rintro e0 w5 ⟨a1, k1, rfl, hs1, hb⟩
        have HS1 := Lib.hid hs1
        clear hs1
        replace HX := Lib.hid (HX.out.below (by simp) hb)
        replace HPk := Lib.hid (HPk.out.later hb)
        replace HAs := Lib.hid (HAs.out.trans (Aside.of_all hb))
        replace HS0 := Lib.hid (sl_keep HS0.out hb)
        replace HSD := Lib.hid (sl_keep HSD.out hb)
        clear hb
        try go_wp2_with fail
        refine hK.out _ _ ⟨HX.out.c 1 (by simp), HX.out.c 2 (by simp), HX.out.c 3 (by simp)⟩ (fun hHeld => ?_)
        clear hK K
        try simp only [Act.put, List.setIfInBounds_toArray, List.set_cons_zero, List.set_cons_succ]
        refine wpAnyH_ready (rs := [6]) (by kernel_rfl) (by simp) ?_
        refine AllReadyH.cons (o := { dst := some 54, op := Op.call { callee := Callee.value (Operand.func 132), args := #[Operand.tmp 53], argTypes := #[3] }, type := 28, pos := "rec.go:74", after := #[{ on := 5, ground := Ground.data }, { on := 3, ground := Ground.chain }], guard := none }) rfl (fun K hK => ?_) (AllReadyH.nil)
        go_simp
        refine (HC2.out _).mono ?_; rintro e0 w6 ⟨a2, k2, rfl, hs1, hb⟩
        have HS2 := Lib.hid hs1
        clear hs1
        replace HX := Lib.hid (HX.out.below (by simp) hb)
        replace HPk := Lib.hid (HPk.out.later hb)
        replace HAs := Lib.hid (HAs.out.trans (Aside.of_all hb))
        replace HS0 := Lib.hid (sl_keep HS0.out hb)
        replace HSD := Lib.hid (sl_keep HSD.out hb)
        replace HS1 := Lib.hid (sl_keep HS1.out hb)
        clear hb
        try go_wp2_with fail
        refine hK.out _ _ ⟨HX.out.c 1 (by simp), HX.out.c 2 (by simp), HX.out.c 3 (by simp)⟩ (fun hHeld => ?_)
        clear hK K
        try simp only [Act.put, List.setIfInBounds_toArray, List.set_cons_zero, List.set_cons_succ]
        refine wpAnyH_ready (rs := [9]) (by kernel_rfl) (by simp) ?_
        refine AllReadyH.cons (o := { dst := some 57, op := Op.call { callee := Callee.value (Operand.func 162), args := #[Operand.tmp 56], argTypes := #[3] }, type := 28, pos := "rec.go:74", after := #[{ on := 8, ground := Ground.data }, { on := 6, ground := Ground.chain }], guard := none }) rfl (fun K hK => ?_) (AllReadyH.nil)
        go_simp
        refine (HL4.out _).mono ?_; rintro e0 w7 ⟨a3, k3, rfl, hs1, hb⟩
        have HS3 := Lib.hid hs1
        clear hs1
        replace HX := Lib.hid (HX.out.below (by simp) hb)
        replace HPk := Lib.hid (HPk.out.later hb)
        replace HAs := Lib.hid (HAs.out.trans (Aside.of_all hb))
        replace HS0 := Lib.hid (sl_keep HS0.out hb)
        replace HSD := Lib.hid (sl_keep HSD.out hb)
        replace HS1 := Lib.hid (sl_keep HS1.out hb)
        replace HS2 := Lib.hid (sl_keep HS2.out hb)
        clear hb
        try go_wp2_with fail
        refine hK.out _ _ ⟨HX.out.c 1 (by simp), HX.out.c 2 (by simp), HX.out.c 3 (by simp)⟩ (fun hHeld => ?_)
        clear hK K
        try simp only [Act.put, List.setIfInBounds_toArray, List.set_cons_zero, List.set_cons_succ]
        refine wpAnyH_ready (rs := [12]) (by kernel_rfl) (by simp) ?_
        refine AllReadyH.cons (o := { dst := some 60, op := Op.call { callee := Callee.value (Operand.func 132), args := #[Operand.tmp 59], argTypes := #[3] }, type := 28, pos := "rec.go:74", after := #[{ on := 11, ground := Ground.data }, { on := 9, ground := Ground.chain }], guard := none }) rfl (fun K hK => ?_) (AllReadyH.nil)
        go_simp
        refine (HQ2.out _).mono ?_; rintro e0 w8 ⟨a4, k4, rfl, hs1, hb⟩
        have HS4 := Lib.hid hs1
        clear hs1
        replace HX := Lib.hid (HX.out.below (by simp) hb)
        replace HPk := Lib.hid (HPk.out.later hb)
        replace HAs := Lib.hid (HAs.out.trans (Aside.of_all hb))
        replace HS0 := Lib.hid (sl_keep HS0.out hb)
        replace HSD := Lib.hid (sl_keep HSD.out hb)
        replace HS1 := Lib.hid (sl_keep HS1.out hb)
        replace HS2 := Lib.hid (sl_keep HS2.out hb)
        replace HS3 := Lib.hid (sl_keep HS3.out hb)
        clear hb
        try go_wp2_with fail
        refine hK.out _ _ ⟨HX.out.c 1 (by simp), HX.out.c 2 (by simp), HX.out.c 3 (by simp)⟩ (fun hHeld => ?_)
        clear hK K
        try simp only [Act.put, List.setIfInBounds_toArray, List.set_cons_zero, List.set_cons_succ]
        refine wpAnyH_ready (rs := [14]) (by kernel_rfl) (by simp) ?_
        refine AllReadyH.cons (o := { dst := some 62, op := Op.buildSlice 190 6 #[(0, Operand.tmp 48), (1, Operand.tmp 51), (2, Operand.tmp 54), (3, Operand.tmp 57), (4, Operand.tmp 60), (5, Operand.tmp 61)], type := 190, pos := "rec.go:74", after := #[{ on := 0, ground := Ground.data }, { on := 3, ground := Ground.data }, { on := 6, ground := Ground.data }, { on := 9, ground := Ground.data }, { on := 12, ground := Ground.data }, { on := 13, ground := Ground.data }], guard := none }) rfl (fun K hK => ?_) (AllReadyH.nil)
        go_simp
        have hb : Below w8.heap.size w8 (w8.alloc (.cells #[.slice a0 m k0, .slice a1 2 k1, .slice a2 2 k2, .slice a3 4 k3, .slice a4 2 k4, .slice a6 q k6] 28)) := (Below.refl _ _).alloc (Nat.le_refl _) _
        replace HX := Lib.hid (HX.out.below (by simp) hb)
        replace HPk := Lib.hid (HPk.out.later hb)
        replace HAs := Lib.hid (HAs.out.trans (Aside.of_all hb))
        replace HS0 := Lib.hid (sl_keep HS0.out hb)
        replace HSD := Lib.hid (sl_keep HSD.out hb)
        replace HS1 := Lib.hid (sl_keep HS1.out hb)
        replace HS2 := Lib.hid (sl_keep HS2.out hb)
        replace HS3 := Lib.hid (sl_keep HS3.out hb)
        replace HS4 := Lib.hid (sl_keep HS4.out hb)
        clear hb
        have HCc := Lib.hid (concat_any (w := (w8.alloc (.cells #[.slice a0 m k0, .slice a1 2 k1, .slice a2 2 k2, .slice a3 4 k3, .slice a4 2 k4, .slice a6 q k6] 28))) (g := w8.heap.size) (lo := 0) (hi := (w8.alloc (.cells #[.slice a0 m k0, .slice a1 2 k1, .slice a2 2 k2, .slice a3 4 k3, .slice a4 2 k4, .slice a6 q k6] 28)).heap.size) (n := 6) (c0 := 6) (ls := [T, two t, two c, four l, two q, O]) rfl (by decide) (by simp) (Nat.le_refl _) (by simp [two, four, HM1.out, HQ1.out]; omega) (fun j hj => by
          match j, hj with
          | 0, _ => exact ⟨a0, k0, by simp [go_sem, HM1.out], by have h := HS0.out; simpa [HM1.out] using h⟩
          | 1, _ => exact ⟨a1, k1, by simp [go_sem, two], HS1.out⟩
          | 2, _ => exact ⟨a2, k2, by simp [go_sem, two], HS2.out⟩
          | 3, _ => exact ⟨a3, k3, by simp [go_sem, four], HS3.out⟩
          | 4, _ => exact ⟨a4, k4, by simp [go_sem, two], HS4.out⟩
          | 5, _ => exact ⟨a6, k6, by simp [go_sem, HQ1.out], by have h := HSD.out; simpa [HQ1.out] using h⟩))
        rw [show [T, two t, two c, four l, two q, O].flatten = T ++ (headB t c l q ++ O) by simp [headB]] at HCc
        refine hK.out _ _ ⟨HX.out.c 1 (by simp), HX.out.c 2 (by simp), HX.out.c 3 (by simp)⟩ (fun hHeld => ?_)
        clear hK K
        try simp only [Act.put, List.setIfInBounds_toArray, List.set_cons_zero, List.set_cons_succ]
        refine wpAnyH_ready (rs := [15]) (by kernel_rfl) (by simp) ?_
        refine AllReadyH.cons (o := { dst := some 63, op := Op.call { callee := Callee.value (Operand.func 131), args := #[Operand.tmp 62], argTypes := #[190] }, type := 28, pos := "rec.go:74", after := #[{ on := 14, ground := Ground.data }, { on := 12, ground := Ground.chain }], guard := none }) rfl (fun K hK => ?_) (AllReadyH.nil)
        go_simp
        refine HCc.out.mono ?_; rintro e0 w9 ⟨v9, rfl, ho, hb⟩
        have HO := Lib.hid ho
        have HAs0 := Lib.hid HAs.out
        clear ho HCc HS0 HS1 HS2 HS3 HS4 HSD
        replace HX := Lib.hid (HX.out.below (by simp) hb)
        replace HPk := Lib.hid (HPk.out.later hb)
        replace HAs := Lib.hid (HAs.out.trans (Aside.of_all hb))
        clear hb
        try go_wp2_with fail
        refine hK.out _ _ ⟨HX.out.c 1 (by simp), HX.out.c 2 (by simp), HX.out.c 3 (by simp)⟩ (fun hHeld => ?_)
        clear hK K
        try simp only [Act.put, List.setIfInBounds_toArray, List.set_cons_zero, List.set_cons_succ]
        refine wpAnyH_take (i := 16) (oi := { dst := some 6, op := Op.assign (Operand.tmp 63), type := 28, pos := "rec.go:74", after := #[{ on := 15, ground := Ground.data }, { on := 15, ground := Ground.chain }, { on := 0, ground := Ground.phase }, { on := 1, ground := Ground.phase }, { on := 2, ground := Ground.phase }, { on := 3, ground := Ground.phase }, { on := 4, ground := Ground.phase }, { on := 5, ground := Ground.phase }, { on := 6, ground := Ground.phase }, { on := 7, ground := Ground.phase }, { on := 8, ground := Ground.phase }, { on := 9, ground := Ground.phase }, { on := 10, ground := Ground.phase }, { on := 11, ground := Ground.phase }, { on := 12, ground := Ground.phase }, { on := 13, ground := Ground.phase }, { on := 14, ground := Ground.phase }, { on := 15, ground := Ground.phase }], guard := none }) (v := ?_) rfl (by kernel_rfl) (by kernel_rfl) (by kernel_rfl) (fun _ _ _ h => h) (Or.inl ⟨by rfl, ?_⟩) (by assumption) ?_
        rotate_left 1
        · intro w hSw; (try dsimp only at hSw); go_simp; try (with_reducible rfl)
        try simp only [Act.put, List.setIfInBounds_toArray, List.set_cons_zero, List.set_cons_succ]
        refine wpAnyH_take (i := 17) (oi := { dst := some 7, op := Op.assign (Operand.const (Value.int IntKind.i64 0)), type := 29, pos := "rec.go:74", after := #[{ on := 16, ground := Ground.chain }, { on := 0, ground := Ground.phase }, { on := 1, ground := Ground.phase }, { on := 2, ground := Ground.phase }, { on := 3, ground := Ground.phase }, { on := 4, ground := Ground.phase }, { on := 5, ground := Ground.phase }, { on := 6, ground := Ground.phase }, { on := 7, ground := Ground.phase }, { on := 8, ground := Ground.phase }, { on := 9, ground := Ground.phase }, { on := 10, ground := Ground.phase }, { on := 11, ground := Ground.phase }, { on := 12, ground := Ground.phase }, { on := 13, ground := Ground.phase }, { on := 14, ground := Ground.phase }, { on := 15, ground := Ground.phase }, { on := 16, ground := Ground.phase }], guard := none }) (v := ?_) rfl (by kernel_rfl) (by kernel_rfl) (by kernel_rfl) (fun _ _ _ h => h) (Or.inl ⟨by rfl, ?_⟩) (by assumption) ?_
        rotate_left 1
        · intro w hSw; (try dsimp only at hSw); go_simp; try (with_reducible rfl)
        try simp only [Act.put, List.setIfInBounds_toArray, List.set_cons_zero, List.set_cons_succ]
        refine wpAnyH_done (by kernel_rfl) ?_ _
        clear hHeld
        go_wp2_with fail
        go_ret2
        rw [← HXR.out]
        exact ⟨_, rfl, HO.out.mono HAs0.out.size, HPk.out, HAs.out⟩
      · have tC : (C != 0) = true := by simpa using hC0
        have hXR : (⟨[], C, K3, e3⟩ : WR) = X := by rw [← HXv.out]; unfold wrT; rw [if_pos hC0]
        have HXR := Lib.hid hXR
        clear HXv hXR
        go_wp2_with fail
        go_ret2
        rw [← HXR.out]
        exact ⟨_, rfl, OwnB.nil _ _, HPk.out, HAs.out⟩
    · have tE : (E != 0) = true := by simpa using hE0
      rw [if_pos hE0] at HXv
      obtain ⟨rfl, rfl⟩ := hKE hE0
      clear HWt hpc
      go_wp2_with fail
      go_ret2
      rw [← HXv.out]
      exact ⟨_, rfl, OwnB.nil _ _, HPk.out, HAs.out⟩
  · obtain ⟨E, hE⟩ : ∃ E, chkC ⟨n, t, c, l, d⟩ = E := ⟨_, rfl⟩
    rw [hE] at HAk HXv hA
    rw [if_pos hA] at HXv
    have tE : (E != 0) = true := by simpa using hA
    clear hE hA
    go_enter Tryz.func157, Tryz.ntmps157
    go_wp2_with fail
    refine HM.out.mono ?_; rintro e0 w1 ⟨rfl, hp1, ha1⟩
    replace HX := Lib.hid (HX.out.aside (by simp) ha1 hgp)
    have HPk := Lib.hid hp1
    have HAs := Lib.hid (HA0.out.trans ha1)
    obtain ⟨c0, c1, c2, c3, c4⟩ := HX.out.five
    clear hp1 ha1 HM HA0
    go_wp2_with fail
    refine (HAk.out _).mono ?_; rintro e0 w2 ⟨rfl, hb⟩
    replace HPk := Lib.hid (HPk.out.later hb)
    replace HAs := Lib.hid (HAs.out.trans (Aside.of_all hb))
    clear hb c0 c1 c2 c3 c4
    go_wp2_with fail
    go_ret2
    rw [← HXv.out]
    exact ⟨_, rfl, OwnB.nil _ _, HPk.out, HAs.out⟩
end Go.Proofs.YteegekpanadmkaaGreat

/-
  The statements about what is read of any bytes, and about lower form.
-/
namespace Go.Proofs.YteegekpanadmkaaGreat
open Go.RowKit Go.Shelf
set_option linter.unusedVariables false
set_option linter.unusedSimpArgs false
set_option maxRecDepth 100000

theorem go_bad {F : Nat → Got} {b : List UInt8} {s e : Nat} (hs : s ≤ b.length) (hF : ∀ p, (F p).2.2.2 ≤ b.length) : ∀ (ks : List PK) (p : Nat) (acc : List Pc) (c : Int) (a : Nat), goP F b s e ks p acc = .bad c a → a ≤ b.length ∧ c ≠ 0
  | [], p, acc, c, a, h => by
    rw [goP] at h
    split at h
    · injection h with h1 h2; subst h1; subst h2; exact ⟨hs, by decide⟩
    · simp at h
  | k :: ks, p, acc, c, a, h => by
    rw [goP] at h
    split at h
    · exact go_bad hs hF ks _ _ c a h
    · rename_i c' a' hx
      injection h with h1 h2
      subst h1; subst h2
      have hcut : ∀ q', cutP b s e p q' = .bad c' a' → a' ≤ b.length ∧ c' ≠ 0 := by
        intro q' hq
        unfold cutP at hq
        split at hq
        · injection hq with h1 h2; subst h1; subst h2; exact ⟨hs, by decide⟩
        · simp at hq
      cases k with
      | fix n => exact hcut _ hx
      | nam =>
        simp only [stepP] at hx
        split at hx
        · injection hx with h1 h2; subst h1; subst h2; exact ⟨hs, by decide⟩
        · split at hx
          · rename_i h0
            injection hx with h1 h2; subst h1; subst h2; exact ⟨hF p, h0⟩
          · split at hx
            · injection hx with h1 h2; subst h1; subst h2; exact ⟨hs, by decide⟩
            · simp at hx
      | txt =>
        rw [txR_step] at hx
        cases hy : txE b e (e + 1) p with
        | none => rw [hy] at hx; injection hx with h1 h2; subst h1; subst h2; exact ⟨hs, by decide⟩
        | some y => rw [hy] at hx; exact hcut _ hx
      | rst => exact hcut _ hx

theorem rdR_bad {b : List UInt8} {a size t : Int} {c : Int} {p : Nat} (h : rdR b a size t = .bad c p) : p ≤ b.length ∧ c ≠ 0 := by
  unfold rdR at h
  split at h
  · injection h with h1 h2; subst h1; subst h2; exact ⟨Nat.zero_le _, by decide⟩
  · split at h
    · injection h with h1 h2; subst h1; subst h2; exact ⟨Nat.zero_le _, by decide⟩
    · split at h
      · injection h with h1 h2; subst h1; subst h2; exact ⟨Nat.le_refl _, by decide⟩
      · exact go_bad (by omega) (fun p => rda_place b p) _ _ _ _ _ h

theorem rdR_ok {b : List UInt8} {a size t : Int} {L : List Pc} (h : rdR b a size t = .ok L) : 0 ≤ t ∧ t ≤ 65535 ∧ Fits (kinds t) L ∧ (joined L).length ≤ 3 * (b.length + 255) ∧ 0 ≤ a ∧ 0 ≤ size ∧ a + size ≤ b.length ∧ goP (fun p => rda b p) b a.toNat (a.toNat + size.toNat) (kinds t) a.toNat [] = .ok L := by
  unfold rdR at h
  split at h
  · simp at h
  · split at h
    · simp at h
    · split at h
      · simp at h
      · obtain ⟨M, h1, h2⟩ := go_fits (F := fun p => rda b p) (e := a.toNat + size.toNat) (by omega) (fun p hp => (rda_fine b p hp).1) (kinds t) _ [] L (kinds_last t) (by omega) h
        rw [List.nil_append] at h1
        subst h1
        obtain ⟨h3, _⟩ := go_len (F := fun p => rda b p) (fun p hp => rda_len b p hp) (kinds t) _ [] L h
        have hk := (kinds_small t).1
        have h4 : (kinds t).length * (b.length + 255) ≤ 3 * (b.length + 255) := Nat.mul_le_mul_right _ hk
        rw [joined_nil, List.length_nil] at h3
        exact ⟨by omega, by omega, h2, by omega, by omega, by omega, by omega, h⟩

end Go.Proofs.YteegekpanadmkaaGreat

/-
  What is read, plainly.
-/
namespace Go.Proofs.YteegekpanadmkaaGreat
open Go.RowKit Go.Shelf
set_option linter.unusedVariables false
set_option linter.unusedSimpArgs false
set_option maxRecDepth 100000

theorem st2_ok {b : List UInt8} {i : Nat} (h : i + 2 ≤ b.length) (p old : Int) : st2 b ⟨i, 0, p⟩ = ⟨((i + 2 : Nat) : Int), 0, 0⟩ ∧ vl2 b ⟨i, 0, p⟩ old = nAt2 (iz b) i := by
  unfold st2 vl2 getF getE getA
  have c0 : ¬ ((0 : Int) ≠ 0) := by simp
  have c1 : (0 : Int) ≤ i ∧ (i : Int) + ((2 : Nat) : Int) ≤ (b.length : Int) := by omega
  have c2 : ¬ ((i : Int) < 0 ∨ (b.length : Int) < i) := by omega
  have c3 : ¬ ((b.length : Int) < (i : Int) + ((2 : Nat) : Int)) := by omega
  have c4 : ¬ ((0 : Int) ≤ i ∧ (i : Int) ≤ b.length ∧ (b.length : Int) < (i : Int) + ((2 : Nat) : Int)) := by omega
  simp only [if_neg c0, if_pos c1, if_neg c2, if_neg c3, if_neg c4, Int.toNat_natCast]
  exact ⟨by push_cast; rfl, trivial⟩
theorem st2_short {b : List UInt8} {i : Nat} (h : i ≤ b.length) (h2 : b.length < i + 2) (p : Int) : st2 b ⟨i, 0, p⟩ = ⟨0, 4, b.length⟩ := by
  unfold st2 getF getE getA
  have c0 : ¬ ((0 : Int) ≠ 0) := by simp
  have c1 : ¬ ((0 : Int) ≤ i ∧ (i : Int) + ((2 : Nat) : Int) ≤ (b.length : Int)) := by omega
  have c2 : ¬ ((i : Int) < 0 ∨ (b.length : Int) < i) := by omega
  have c3 : (b.length : Int) < (i : Int) + ((2 : Nat) : Int) := by omega
  have c4 : (0 : Int) ≤ i ∧ (i : Int) ≤ b.length ∧ (b.length : Int) < (i : Int) + ((2 : Nat) : Int) := by omega
  simp only [if_neg c0, if_neg c1, if_neg c2, if_pos c3, if_pos c4]
theorem st2_bad {b : List UInt8} {s : RS} (h : s.e ≠ 0) : st2 b s = s := by unfold st2; rw [if_pos h]
theorem st4_ok {b : List UInt8} {i : Nat} (h : i + 4 ≤ b.length) (p old : Int) : st4 b ⟨i, 0, p⟩ = ⟨((i + 4 : Nat) : Int), 0, 0⟩ ∧ vl4 b ⟨i, 0, p⟩ old = nAt4 (iz b) i := by
  unfold st4 vl4 getF getE getA
  have c0 : ¬ ((0 : Int) ≠ 0) := by simp
  have c1 : (0 : Int) ≤ i ∧ (i : Int) + ((4 : Nat) : Int) ≤ (b.length : Int) := by omega
  have c2 : ¬ ((i : Int) < 0 ∨ (b.length : Int) < i) := by omega
  have c3 : ¬ ((b.length : Int) < (i : Int) + ((4 : Nat) : Int)) := by omega
  have c4 : ¬ ((0 : Int) ≤ i ∧ (i : Int) ≤ b.length ∧ (b.length : Int) < (i : Int) + ((4 : Nat) : Int)) := by omega
  simp only [if_neg c0, if_pos c1, if_neg c2, if_neg c3, if_neg c4, Int.toNat_natCast]
  exact ⟨by push_cast; rfl, trivial⟩
theorem st4_short {b : List UInt8} {i : Nat} (h : i ≤ b.length) (h2 : b.length < i + 4) (p : Int) : st4 b ⟨i, 0, p⟩ = ⟨0, 4, b.length⟩ := by
  unfold st4 getF getE getA
  have c0 : ¬ ((0 : Int) ≠ 0) := by simp
  have c1 : ¬ ((0 : Int) ≤ i ∧ (i : Int) + ((4 : Nat) : Int) ≤ (b.length : Int)) := by omega
  have c2 : ¬ ((i : Int) < 0 ∨ (b.length : Int) < i) := by omega
  have c3 : (b.length : Int) < (i : Int) + ((4 : Nat) : Int) := by omega
  have c4 : (0 : Int) ≤ i ∧ (i : Int) ≤ b.length ∧ (b.length : Int) < (i : Int) + ((4 : Nat) : Int) := by omega
  simp only [if_neg c0, if_neg c1, if_neg c2, if_pos c3, if_pos c4]
theorem st4_bad {b : List UInt8} {s : RS} (h : s.e ≠ 0) : st4 b s = s := by unfold st4; rw [if_pos h]
theorem stD_bad {b : List UInt8} {s : RS} {m t : Int} (h : s.e ≠ 0) : stD b s m t = s := by unfold stD; rw [if_pos h]

theorem s1_ok {b : List UInt8} {p : Nat} {n : List UInt8} {i : Nat} (h : rda b p = (n, i, 0, 0)) : s1 b p = ⟨i, 0, 0⟩ ∧ rN b p = n := by
  unfold s1 rN stN vlN
  simp only
  rw [if_neg (by simp), if_neg (by simp), h]
  exact ⟨rfl, rfl⟩

/-- A question is read. -/
theorem ques_ok {b : List UInt8} {p : Nat} {n : List UInt8} {i : Nat} (h : rda b p = (n, i, 0, 0)) (hi : i + 4 ≤ b.length) :
    s3 b p = ⟨((i + 4 : Nat) : Int), 0, 0⟩ ∧ rN b p = n ∧ rT b p = nAt2 (iz b) i ∧ rC b p = nAt2 (iz b) (i + 2) := by
  obtain ⟨h1, h2⟩ := s1_ok h
  have g1 := st2_ok (b := b) (i := i) (by omega) 0 0
  have g2 := st2_ok (b := b) (i := i + 2) (by omega) 0 0
  have e2 : s2 b p = ⟨((i + 2 : Nat) : Int), 0, 0⟩ := by unfold s2; rw [h1]; exact g1.1
  refine ⟨?_, h2, ?_, ?_⟩
  · unfold s3; rw [e2]; exact g2.1
  · unfold rT; rw [h1]; exact g1.2
  · unfold rC; rw [e2]; exact g2.2

/-- A record's head is read. -/
theorem head_ok {b : List UInt8} {p : Nat} {n : List UInt8} {i : Nat} (h : rda b p = (n, i, 0, 0)) (hi : i + 10 ≤ b.length) :
    s5 b p = ⟨((i + 10 : Nat) : Int), 0, 0⟩ ∧ rL b p = nAt4 (iz b) (i + 4) ∧ rZ b p = nAt2 (iz b) (i + 8) := by
  obtain ⟨h1, _, _, _⟩ := ques_ok h (by omega)
  have g1 := st4_ok (b := b) (i := i + 4) (by omega) 0 0
  have g2 := st2_ok (b := b) (i := i + 8) (by omega) 0 0
  have e4 : s4 b p = ⟨((i + 8 : Nat) : Int), 0, 0⟩ := by unfold s4; rw [h1]; exact g1.1
  refine ⟨?_, ?_, ?_⟩
  · unfold s5; rw [e4]; exact g2.1
  · unfold rL; rw [h1]; exact g1.2
  · unfold rZ; rw [e4]; exact g2.2

/-- Data are read, or not. -/
theorem data_ok {b : List UInt8} {p : Nat} {n : List UInt8} {i : Nat} {L : List Pc} (h : rda b p = (n, i, 0, 0)) (hi : i + 10 ≤ b.length) (hr : rdR b ((i + 10 : Nat) : Int) (rZ b p) (rT b p) = .ok L) :
    s6 b p = ⟨wrap64 (((i + 10 : Nat) : Int) + rZ b p), 0, 0⟩ ∧ rD b p = joined L := by
  obtain ⟨h1, _, _⟩ := head_ok h hi
  unfold s6 rD stD vlD
  rw [h1]
  simp only
  rw [if_neg (by simp), if_neg (by simp), hr]
  exact ⟨rfl, rfl⟩
theorem data_no {b : List UInt8} {p : Nat} {n : List UInt8} {i : Nat} {c : Int} {a : Nat} (h : rda b p = (n, i, 0, 0)) (hi : i + 10 ≤ b.length) (hr : rdR b ((i + 10 : Nat) : Int) (rZ b p) (rT b p) = .bad c a) :
    (s6 b p).e = c ∧ (s6 b p).p = a := by
  obtain ⟨h1, _, _⟩ := head_ok h hi
  unfold s6 stD
  rw [h1]
  simp only
  rw [if_neg (by simp), hr]
  exact ⟨rfl, rfl⟩

theorem rda_zero {b : List UInt8} {p : Nat} (h : (rda b p).2.2.1 = 0) : (rda b p).2.2.2 = 0 := by
  unfold rda at h ⊢
  split at h
  · exact absurd h (by decide)
  · rename_i hr
    rw [if_neg hr]
    rw [Int.toNat_natCast] at h ⊢
    rcases rd_fine b p (by omega) p p 0 [] [] rfl ⟨by simp, by simp [wire]⟩ with ⟨_, f, _⟩ | ⟨f, _⟩
    · exact f
    · exact absurd h f

end Go.Proofs.YteegekpanadmkaaGreat

/-
  What is written is read as it was; plainly.
-/
namespace Go.Proofs.YteegekpanadmkaaGreat
open Go.RowKit Go.Shelf
set_option linter.unusedVariables false
set_option linter.unusedSimpArgs false
set_option maxRecDepth 100000

theorem at2 (b r : List UInt8) (t : Int) (h0 : 0 ≤ t) (h1 : t ≤ 65535) : nAt2 (iz (b ++ (two t ++ r))) b.length = t := by
  have e : iz (b ++ (two t ++ r)) = iz b ++ (putL2 t ++ iz r) := by rw [iz_app, iz_app, iz_two t h0 h1]
  have hp : putL2 t = [t / 256, t % 256] := by unfold putL2; rw [if_pos ⟨h0, h1⟩]
  unfold nAt2 num2
  rw [e, hp]
  have g0 := getD_behind (iz b) ([t / 256, t % 256] ++ iz r) 0
  have g1 := getD_behind (iz b) ([t / 256, t % 256] ++ iz r) 1
  rw [iz_len] at g0 g1
  rw [Nat.add_zero] at g0
  rw [g0, g1]
  show t / 256 * 256 + t % 256 = t
  omega

theorem at4 (b r : List UInt8) (t : Int) (h0 : 0 ≤ t) (h1 : t ≤ 4294967295) : nAt4 (iz (b ++ (four t ++ r))) b.length = t := by
  have e : iz (b ++ (four t ++ r)) = iz b ++ (putL4 t ++ iz r) := by rw [iz_app, iz_app, iz_four t h0 h1]
  have hp : putL4 t = [t / 256 / 256 / 256, t / 256 / 256 % 256, t / 256 % 256, t % 256] := by unfold putL4; rw [if_pos ⟨h0, h1⟩]
  unfold nAt4 num4
  rw [e, hp]
  have g0 := getD_behind (iz b) ([t / 256 / 256 / 256, t / 256 / 256 % 256, t / 256 % 256, t % 256] ++ iz r) 0
  have g1 := getD_behind (iz b) ([t / 256 / 256 / 256, t / 256 / 256 % 256, t / 256 % 256, t % 256] ++ iz r) 1
  have g2 := getD_behind (iz b) ([t / 256 / 256 / 256, t / 256 / 256 % 256, t / 256 % 256, t % 256] ++ iz r) 2
  have g3 := getD_behind (iz b) ([t / 256 / 256 / 256, t / 256 / 256 % 256, t / 256 % 256, t % 256] ++ iz r) 3
  rw [iz_len] at g0 g1 g2 g3
  rw [Nat.add_zero] at g0
  rw [g0, g1, g2, g3]
  show ((t / 256 / 256 / 256 * 256 + t / 256 / 256 % 256) * 256 + t / 256 % 256) * 256 + t % 256 = t
  omega

theorem getD_ahead (b c : List UInt8) (k : Nat) (h : k < b.length) : (iz (b ++ c)).getD k 0 = (iz b).getD k 0 := by
  rw [iz_app, List.getD, List.getD, List.getElem?_append_left (by rw [iz_len]; exact h)]
theorem at2_more {b : List UInt8} {i : Nat} (c : List UInt8) (h : i + 2 ≤ b.length) : nAt2 (iz (b ++ c)) i = nAt2 (iz b) i := by
  unfold nAt2
  rw [getD_ahead b c i (by omega), getD_ahead b c (i + 1) (by omega)]
theorem at4_more {b : List UInt8} {i : Nat} (c : List UInt8) (h : i + 4 ≤ b.length) : nAt4 (iz (b ++ c)) i = nAt4 (iz b) i := by
  unfold nAt4
  rw [getD_ahead b c i (by omega), getD_ahead b c (i + 1) (by omega), getD_ahead b c (i + 2) (by omega), getD_ahead b c (i + 3) (by omega)]

/-- A question stands at p; its name ends at i. -/
def LiesQ (b : List UInt8) (p : Nat) (x : Rc) (i : Nat) : Prop :=
  ∃ ls, Shorts ls ∧ x.n = nm ls ∧ StandE b p p ls i ∧ i + 4 ≤ b.length ∧ nAt2 (iz b) i = x.t ∧ nAt2 (iz b) (i + 2) = x.c

/-- A record stands from p up to en. -/
def LiesR (b : List UInt8) (p : Nat) (x : Rc) (i en : Nat) : Prop :=
  i + 10 ≤ b.length ∧ nAt4 (iz b) (i + 4) = x.l ∧ ∃ (m : Nat) (L : List Pc), nAt2 (iz b) (i + 8) = m ∧ m ≤ 65535 ∧ spl x.t x.d = .ok L ∧ Lies b (i + 10) L (i + 10 + m) ∧ en = i + 10 + m

theorem LiesQ.more {b : List UInt8} {p : Nat} {x : Rc} {i : Nat} (h : LiesQ b p x i) (c : List UInt8) : LiesQ (b ++ c) p x i := by
  obtain ⟨ls, h1, h2, h3, h4, h5, h6⟩ := h
  exact ⟨ls, h1, h2, h3.more c, by rw [List.length_append]; omega, by rw [at2_more c (by omega)]; exact h5, by rw [at2_more c (by omega)]; exact h6⟩
theorem LiesR.more {b : List UInt8} {p : Nat} {x : Rc} {i en : Nat} (h : LiesR b p x i en) (c : List UInt8) : LiesR (b ++ c) p x i en := by
  obtain ⟨h1, h2, m, L, h3, h4, h5, h6, h7⟩ := h
  exact ⟨by rw [List.length_append]; omega, by rw [at4_more c (by omega)]; exact h2, m, L, by rw [at2_more c (by omega)]; exact h3, h4, h5, h6.more c, h7⟩

theorem two_len (t : Int) : (two t).length = 2 := rfl
theorem four_len (t : Int) : (four t).length = 4 := rfl

/-- A name that is told stands. -/
theorem name_lies {b : List UInt8} {K : KK} {e : Nat} {P : KK} (hI : Inv b K e P) {n : List UInt8} (hc : chk n = 0) (hb : b.length ≤ 65535) :
    ∃ ls, Shorts ls ∧ n = nm ls ∧ pkE e b.length n = 0 ∧ nameB K e b.length n = told K ls ∧ Inv (b ++ told K ls) (nameK K e b.length n) (nameE K e b.length n) (P ++ [(nm ls, b.length)]) ∧ StandE (b ++ told K ls) b.length b.length ls (b.length + (told K ls).length) ∧ (told K ls).length ≤ n.length := by
  obtain ⟨hs, hx⟩ := shorts_of hc
  have hx : n = nm (labs n) := hx
  obtain ⟨ls, hls⟩ : ∃ ls, labs n = ls := ⟨_, rfl⟩
  rw [hls] at hs hx
  subst hx
  have hla := hI.last
  have hE : pkE e b.length (nm ls) = 0 := by unfold pkE; rw [if_neg (fun h => h (shorts_chk hs)), if_neg (by omega), if_neg (by omega)]
  have e1 : nameB K e b.length (nm ls) = told K ls := by unfold nameB; rw [if_pos hE, show labs (nm ls) = ls from shorts_labs hs]
  have e2 : nameK K e b.length (nm ls) = K ++ fr b.length ls (hdn K ls) := by unfold nameK; rw [if_pos hE, show labs (nm ls) = ls from shorts_labs hs, Int.toNat_natCast]
  have e3 : nameE K e b.length (nm ls) = b.length + (told K ls).length := by unfold nameE; rw [if_pos hE, show labs (nm ls) = ls from shorts_labs hs, Int.toNat_natCast]
  have htl := told_le hI.good hs
  have hst := toldE_rd hI hs (hdn K ls) 0 (by omega) b.length (Nat.le_refl _)
  rw [pos_zero, Nat.add_zero, List.drop_zero] at hst
  refine ⟨ls, hs, rfl, hE, e1, ?_, hst, htl⟩
  rw [e2, e3]
  exact hI.tell hs

/-- A question that is written stands. -/
theorem ask_lies {b : List UInt8} {K : KK} {e : Nat} {P : KK} (hI : Inv b K e P) {x : Rc} (hx : askE x.n x.t x.c = 0) (hb : b.length ≤ 65535) :
    ∃ out K' e' P' i, askW b.length x.n x.t x.c K e = ⟨out, 0, K', e'⟩ ∧ out.length ≤ 259 ∧ Inv (b ++ out) K' e' P' ∧ LiesQ (b ++ out) b.length x i ∧ b.length + out.length = i + 4 ∧ K'.length ≤ K.length + 127 := by
  obtain ⟨hc, t0, t1, c0, c1⟩ := askE_ok hx
  obtain ⟨ls, hs, hn, hE, hB, hI1, hst, hle⟩ := name_lies hI hc hb
  have hn255 := (chk_pos hc).2
  have hkk := (nameK_good (e := e) (a := b.length) (n := x.n) hI.good).2.1
  obtain ⟨T, hT⟩ : ∃ T, told K ls = T := ⟨_, rfl⟩
  rw [hT] at hB hI1 hst hle
  have hl : (b ++ T).length = b.length + T.length := List.length_append
  refine ⟨T ++ (two x.t ++ two x.c), nameK K e b.length x.n, nameE K e b.length x.n, P ++ [(nm ls, b.length)], b.length + T.length, ?_, ?_, ?_, ?_, ?_, hkk⟩
  · unfold askW
    rw [if_neg (by simpa using hx), if_neg (by simpa using hE), hB]
  · rw [List.length_append, List.length_append, two_len, two_len]; omega
  · rw [← List.append_assoc]; exact hI1.more _
  · refine ⟨ls, hs, hn, ?_, ?_, ?_, ?_⟩
    · rw [← List.append_assoc]; exact hst.more _
    · rw [List.length_append, List.length_append, List.length_append, two_len, two_len]; omega
    · have h := at2 (b ++ T) (two x.c) x.t t0 t1
      rw [hl, List.append_assoc] at h
      exact h
    · have h := at2 (b ++ T ++ two x.t) [] x.c c0 c1
      rw [List.length_append, hl, two_len, List.append_nil, List.append_assoc, List.append_assoc] at h
      exact h
  · rw [List.length_append, List.length_append, two_len, two_len]; omega

theorem headB_len (t c l : Int) (k : Nat) : (headB t c l k).length = 10 := by unfold headB; rw [List.length_append, List.length_append, List.length_append, two_len, two_len, two_len, four_len]

end Go.Proofs.YteegekpanadmkaaGreat

/-
  Messages, plainly: whether one may be, its bytes, and that what is written stands.
-/
namespace Go.Proofs.YteegekpanadmkaaGreat
open Go.RowKit Go.Shelf
set_option linter.unusedVariables false
set_option linter.unusedSimpArgs false
set_option maxRecDepth 100000

/-- What is written stands, if all of it can be written. -/
theorem wr_back2 (a : Nat) : ∀ (L : List Pc) (b : List UInt8) (K : KK) (e : Nat) (P : KK) (acc : List UInt8), Inv b K e P → (∀ x ∈ L, x.2 = true → chk x.1 = 0) → b.length = a + acc.length → b.length + (joined L).length ≤ 1000000000 →
    (wrL a L K e acc).code = 0 →
    ∃ out K' e' P', wrL a L K e acc = ⟨acc ++ out, 0, K', e'⟩ ∧ out.length ≤ (joined L).length ∧ Inv (b ++ out) K' e' P' ∧ Lies (b ++ out) b.length L (b.length + out.length)
  | [], b, K, e, P, acc, hI, _, hb, hl, _ => ⟨[], K, e, P, by rw [wrL, List.append_nil], by simp, by rw [List.append_nil]; exact hI, by rw [List.append_nil]; exact .nil (Nat.le_refl _)⟩
  | (x, false) :: L, b, K, e, P, acc, hI, hc, hb, hl, h0 => by
    rw [joined_cons, List.length_append] at hl
    have hl' : b.length + (x.length + (joined L).length) ≤ 1000000000 := hl
    have h0' : (wrL a L K e (acc ++ x)).code = 0 := by rw [wrL] at h0; exact h0
    obtain ⟨out, K', e', P', h1, h2, h3, h4⟩ := wr_back2 a L (b ++ x) K e P (acc ++ x) (hI.more x) (fun y hy => hc y (by simp [hy])) (by rw [List.length_append, List.length_append]; omega) (by rw [List.length_append]; omega) h0'
    refine ⟨x ++ out, K', e', P', ?_, ?_, ?_, ?_⟩
    · rw [wrL]
      show wrL a L K e (acc ++ x) = _
      rw [h1, List.append_assoc]
    · rw [joined_cons, List.length_append, List.length_append]
      show x.length + out.length ≤ x.length + _
      omega
    · rw [← List.append_assoc]; exact h3
    · rw [← List.append_assoc]
      rw [List.length_append] at h4
      refine .byt ?_ (by simp) (by rw [List.length_append, ← Nat.add_assoc]; exact h4)
      rw [List.append_assoc, List.drop_left, List.take_left]
  | (x, true) :: L, b, K, e, P, acc, hI, hc, hb, hl, h0 => by
    rw [joined_cons, List.length_append] at hl
    have hl' : b.length + (x.length + (joined L).length) ≤ 1000000000 := hl
    obtain ⟨hs, hx⟩ := shorts_of (hc (x, true) (by simp) rfl)
    have hx : x = nm (labs x) := hx
    obtain ⟨ls, hls⟩ : ∃ ls, labs x = ls := ⟨_, rfl⟩
    rw [hls] at hs hx
    subst hx
    have hw : wrap64 ((a : Int) + acc.length) = ((b.length : Nat) : Int) := by rw [IntWalk.wrap64_in _ ⟨by omega, by omega⟩]; omega
    have hla := hI.last
    have hE : pkE e b.length (nm ls) = 0 := by
      rw [wrL, if_pos rfl] at h0
      simp only at h0
      rw [hw] at h0
      by_cases hE : pkE e b.length (nm ls) = 0
      · exact hE
      · rw [if_pos hE] at h0; exact absurd h0 hE
    have e1 : nameB K e b.length (nm ls) = told K ls := by unfold nameB; rw [if_pos hE, show labs (nm ls) = ls from shorts_labs hs]
    have e2 : nameK K e b.length (nm ls) = K ++ fr b.length ls (hdn K ls) := by unfold nameK; rw [if_pos hE, show labs (nm ls) = ls from shorts_labs hs, Int.toNat_natCast]
    have e3 : nameE K e b.length (nm ls) = b.length + (told K ls).length := by unfold nameE; rw [if_pos hE, show labs (nm ls) = ls from shorts_labs hs, Int.toNat_natCast]
    have htl := told_le hI.good hs
    have hstep : wrL a ((nm ls, true) :: L) K e acc = wrL a L (K ++ fr b.length ls (hdn K ls)) (b.length + (told K ls).length) (acc ++ told K ls) := by
      rw [wrL, if_pos rfl]
      simp only
      rw [hw, if_neg (by simpa using hE), e1, e2, e3]
    rw [hstep] at h0 ⊢
    obtain ⟨out, K', e', P', h1, h2, h3, h4⟩ := wr_back2 a L (b ++ told K ls) (K ++ fr b.length ls (hdn K ls)) (b.length + (told K ls).length) _ (acc ++ told K ls) (hI.tell hs) (fun y hy => hc y (by simp [hy])) (by rw [List.length_append, List.length_append]; omega) (by rw [List.length_append]; omega) h0
    refine ⟨told K ls ++ out, K', e', P', ?_, ?_, ?_, ?_⟩
    · rw [h1, List.append_assoc]
    · rw [joined_cons, List.length_append, List.length_append]
      show (told K ls).length + out.length ≤ (nm ls).length + _
      omega
    · rw [← List.append_assoc]; exact h3
    · rw [← List.append_assoc]
      rw [List.length_append] at h4
      have hst := toldE_rd hI hs (hdn K ls) 0 (by omega) b.length (Nat.le_refl _)
      rw [pos_zero, Nat.add_zero, List.drop_zero] at hst
      exact .nam hs (hst.more out) (by rw [List.length_append, ← Nat.add_assoc]; exact h4)

/-- A record that is written stands, whatever its length. -/
theorem write_lies2 {b : List UInt8} {K : KK} {e : Nat} {P : KK} (hI : Inv b K e P) {x : Rc} (hx : chkC x = 0) (hb : b.length ≤ 65535) (h0 : (wrC b.length x K e).code = 0) :
    ∃ out K' e' P' i, wrC b.length x K e = ⟨out, 0, K', e'⟩ ∧ out.length ≤ 265 + x.d.length ∧ Inv (b ++ out) K' e' P' ∧ LiesQ (b ++ out) b.length x i ∧ LiesR (b ++ out) b.length x i (b.length + out.length) := by
  obtain ⟨hak, l0, l1, hsp⟩ := chkC_ok hx
  obtain ⟨hc, t0, t1, c0, c1⟩ := askE_ok hak
  obtain ⟨ls, hs, hn, hE, hB, hI1, hst, hle⟩ := name_lies hI hc (by omega)
  have hn255 := (chk_pos hc).2
  obtain ⟨L, hL⟩ := code_ok hsp
  obtain ⟨_, _, hd, hf, hj⟩ := spl_ok hL
  obtain ⟨T, hT⟩ : ∃ T, told K ls = T := ⟨_, rfl⟩
  rw [hT] at hB hI1 hst hle
  have hl : (b ++ T).length = b.length + T.length := List.length_append
  obtain ⟨K1, hK1⟩ : ∃ K1, nameK K e b.length x.n = K1 := ⟨_, rfl⟩
  obtain ⟨e1, he1⟩ : ∃ e1, nameE K e b.length x.n = e1 := ⟨_, rfl⟩
  rw [hK1, he1] at hI1
  obtain ⟨R, hR⟩ : ∃ R, wrR ((b.length : Int) + T.length + 10) x.t x.d K1 e1 = R := ⟨_, rfl⟩
  have hw : wrC b.length x K e = wrT T x.t x.c x.l R := by
    unfold wrC
    rw [if_neg (by simpa using hx), if_neg (by simpa using hE), hB, hK1, he1, hR]
  obtain ⟨H, hH⟩ : ∃ H, headB x.t x.c x.l R.out.length = H := ⟨_, rfl⟩
  have hHl : H.length = 10 := by rw [← hH]; exact headB_len _ _ _ _
  have h2l : (b ++ T ++ H).length = b.length + T.length + 10 := by rw [List.length_append, hl, hHl]
  have hRL : R = wrL ((b.length + T.length + 10 : Nat) : Int) L K1 e1 [] := by
    rw [← hR]
    unfold wrR
    rw [hL]
    show wrL _ L K1 e1 [] = _
    rw [show ((b.length : Int) + T.length + 10) = ((b.length + T.length + 10 : Nat) : Int) by push_cast; rfl]
  have hR0 : (wrL ((b.length + T.length + 10 : Nat) : Int) L K1 e1 []).code = 0 := by
    rw [hw] at h0
    unfold wrT at h0
    by_cases hc : R.code = 0
    · rw [← hRL]; exact hc
    · rw [if_pos hc] at h0; exact absurd h0 hc
  obtain ⟨out, K', e', P', w1, w2, w3, w4⟩ := wr_back2 (b.length + T.length + 10) L (b ++ T ++ H) K1 e1 _ [] (hI1.more H) (fits_nam hf) (by rw [h2l]; simp) (by rw [h2l, hj]; omega) hR0
  have hRe : R = ⟨out, 0, K', e'⟩ := by rw [hRL, w1]; rfl
  have hRo : R.out = out := by rw [hRe]
  have hRc : R.code = 0 := by rw [hRe]
  rw [hj] at w2
  rw [hRo] at hH
  have hq : out.length ≤ 65535 := by omega
  have eo : b ++ (T ++ (H ++ out)) = b ++ T ++ H ++ out := by simp
  refine ⟨T ++ (H ++ out), K', e', P', b.length + T.length, ?_, ?_, ?_, ?_, ?_⟩
  · rw [hw]; unfold wrT; rw [hRe, if_neg (by simp)]
    simp only [hH]
  · rw [List.length_append, List.length_append, hHl]; omega
  · rw [eo]; exact w3
  · refine ⟨ls, hs, hn, ?_, ?_, ?_, ?_⟩
    · rw [eo]; exact (hst.more H).more out
    · rw [eo, List.length_append, h2l]; omega
    · have h := at2 (b ++ T) (two x.c ++ (four x.l ++ (two (out.length : Int) ++ out))) x.t t0 t1
      rw [hl] at h
      rw [← h, eo, ← hH]
      congr 2
      unfold headB
      simp
    · have h := at2 (b ++ T ++ two x.t) (four x.l ++ (two (out.length : Int) ++ out)) x.c c0 c1
      rw [List.length_append, hl, two_len] at h
      rw [← h, eo, ← hH]
      congr 2
      unfold headB
      simp
  · refine ⟨?_, ?_, out.length, L, ?_, hq, hL, ?_, ?_⟩
    · rw [eo, List.length_append, h2l]; omega
    · have h := at4 (b ++ T ++ two x.t ++ two x.c) (two (out.length : Int) ++ out) x.l l0 (by omega)
      rw [List.length_append, List.length_append, hl, two_len, two_len] at h
      rw [← h, eo, ← hH]
      congr 2
      unfold headB
      simp
    · have h := at2 (b ++ T ++ two x.t ++ two x.c ++ four x.l) out (out.length : Int) (by omega) (by omega)
      rw [List.length_append, List.length_append, List.length_append, hl, two_len, two_len, four_len] at h
      rw [← h, eo, ← hH]
      congr 2
      unfold headB
      simp
    · rw [eo]
      rw [h2l] at w4
      exact w4
    · rw [List.length_append, List.length_append, hHl]; omega

/-- A question. -/
structure Qn where
  n : List UInt8
  t : Int
  c : Int

/-- What stands in a message, one behind the other: questions, records. -/
inductive It where
  | q (x : Qn)
  | r (x : Rc)

def Qn.rc (x : Qn) : Rc := ⟨x.n, x.t, x.c, 0, []⟩

/-- A message. -/
structure Ms where
  id : Int
  fl : Int
  q : List Qn
  an : List Rc
  ns : List Rc
  ar : List Rc

def It.err : It → Int
  | .q x => askE x.n x.t x.c
  | .r x => chkC x

/-- The first error of some. -/
def fst0 : List Int → Int
  | [] => 0
  | e :: l => if e ≠ 0 then e else fst0 l

theorem fst0_zero : ∀ {l : List Int}, fst0 l = 0 → ∀ e ∈ l, e = 0
  | [], _, e, h => by simp at h
  | a :: l, h, e, he => by
    unfold fst0 at h
    split at h
    · rename_i h1; exact absurd h h1
    · rename_i h1
      rcases List.mem_cons.mp he with rfl | he
      · simpa using h1
      · exact fst0_zero h e he
theorem fst0_all : ∀ {l : List Int}, (∀ e ∈ l, e = 0) → fst0 l = 0
  | [], _ => rfl
  | a :: l, h => by
    unfold fst0
    rw [if_neg (by rw [h a (by simp)]; simp)]
    exact fst0_all fun e he => h e (by simp [he])
/-- All that stands in a message. -/
def Ms.its (m : Ms) : List It := m.q.map .q ++ (m.an.map .r ++ (m.ns.map .r ++ m.ar.map .r))

/-- Why a message may not be. -/
def chkM (m : Ms) : Int :=
  if m.id < 0 ∨ 65535 < m.id ∨ m.fl < 0 ∨ 65535 < m.fl then 5
  else if 65535 < m.q.length ∨ 65535 < m.an.length ∨ 65535 < m.ns.length ∨ 65535 < m.ar.length then 3
  else fst0 (m.its.map It.err)

/-- The bytes ahead of all. -/
def headM (m : Ms) : List UInt8 := two m.id ++ (two m.fl ++ (two m.q.length ++ (two m.an.length ++ (two m.ns.length ++ two m.ar.length))))

theorem headM_len (m : Ms) : (headM m).length = 12 := rfl

/-- One of these, at the end of the bytes so far. -/
def wrI (b : List UInt8) (K : KK) (e : Nat) : It → WR
  | .q x => askW b.length x.n x.t x.c K e
  | .r x => wrC b.length x K e

/-- All of them; none, if they are too long. -/
def wrIs : List It → List UInt8 → KK → Nat → Option (List UInt8)
  | [], b, _, _ => some b
  | it :: l, b, K, e => if (wrI b K e it).code ≠ 0 ∨ 65535 < (b ++ (wrI b K e it).out).length then none else wrIs l (b ++ (wrI b K e it).out) (wrI b K e it).K (wrI b K e it).e

/-- A message's bytes, or the error. -/
def wrM (m : Ms) : Option (List UInt8) × Int :=
  if chkM m ≠ 0 then (none, chkM m) else match wrIs m.its (headM m) [] 0 with | some z => (some z, 0) | none => (none, 3)

/-- One of these stands from p up to en. -/
def LiesI (b : List UInt8) (p : Nat) : It → Nat → Prop
  | .q x, en => ∃ i, LiesQ b p x.rc i ∧ en = i + 4
  | .r x, en => ∃ i, LiesQ b p x i ∧ LiesR b p x i en

inductive LiesIs (b : List UInt8) : Nat → List It → Nat → Prop
  | nil {p : Nat} : LiesIs b p [] p
  | cons {p q en : Nat} {it : It} {l : List It} (h : LiesI b p it q) (r : LiesIs b q l en) : LiesIs b p (it :: l) en

theorem LiesI.more {b : List UInt8} {p : Nat} {it : It} {en : Nat} (h : LiesI b p it en) (c : List UInt8) : LiesI (b ++ c) p it en := by
  cases it with
  | q x => obtain ⟨i, h1, h2⟩ := h; exact ⟨i, h1.more c, h2⟩
  | r x => obtain ⟨i, h1, h2⟩ := h; exact ⟨i, h1.more c, h2.more c⟩

theorem LiesIs.more {b : List UInt8} {p : Nat} {l : List It} {en : Nat} (h : LiesIs b p l en) (c : List UInt8) : LiesIs (b ++ c) p l en := by
  induction h with
  | nil => exact .nil
  | cons h _ ih => exact .cons (h.more c) ih

theorem LiesIs.app {b : List UInt8} : ∀ {l l' : List It} {p en : Nat}, LiesIs b p (l ++ l') en → ∃ q, LiesIs b p l q ∧ LiesIs b q l' en
  | [], l', p, en, h => ⟨p, .nil, h⟩
  | it :: l, l', p, en, h => by
    cases h with
    | cons h r =>
      obtain ⟨q, h1, h2⟩ := LiesIs.app r
      exact ⟨q, .cons h h1, h2⟩

/-- One that is written stands. -/
theorem wrI_lies {b : List UInt8} {K : KK} {e : Nat} {P : KK} (hI : Inv b K e P) {it : It} (hx : it.err = 0) (hb : b.length ≤ 65535) (h0 : (wrI b K e it).code = 0) :
    ∃ P', Inv (b ++ (wrI b K e it).out) (wrI b K e it).K (wrI b K e it).e P' ∧ LiesI (b ++ (wrI b K e it).out) b.length it (b ++ (wrI b K e it).out).length := by
  cases it with
  | q x =>
    obtain ⟨out, K', e', P', i, h1, _, h2, h3, h4, _⟩ := ask_lies hI (x := x.rc) hx hb
    have h1' : wrI b K e (.q x) = ⟨out, 0, K', e'⟩ := h1
    rw [h1']
    exact ⟨P', h2, i, h3, by rw [List.length_append]; exact h4⟩
  | r x =>
    obtain ⟨out, K', e', P', i, h1, _, h2, h3, h4⟩ := write_lies2 hI (x := x) hx hb h0
    have h1' : wrI b K e (.r x) = ⟨out, 0, K', e'⟩ := h1
    rw [h1']
    exact ⟨P', h2, i, h3, by rw [List.length_append]; exact h4⟩

/-- All that is written stands. -/
theorem wrIs_lies : ∀ {l : List It} {b : List UInt8} {K : KK} {e : Nat} {P : KK} {z : List UInt8}, Inv b K e P → (∀ it ∈ l, it.err = 0) → b.length ≤ 65535 → wrIs l b K e = some z →
    ∃ c, z = b ++ c ∧ z.length ≤ 65535 ∧ LiesIs z b.length l z.length
  | [], b, K, e, P, z, hI, _, hb, h => by
    injection h with h
    exact ⟨[], by rw [List.append_nil, h], by rw [← h]; exact hb, by rw [h]; exact .nil⟩
  | it :: l, b, K, e, P, z, hI, hx, hb, h => by
    rw [wrIs] at h
    split at h
    · simp at h
    · rename_i hn
      have h0 : (wrI b K e it).code = 0 := Classical.byContradiction fun h => hn (.inl h)
      obtain ⟨P', h1, h2⟩ := wrI_lies hI (hx it (by simp)) hb h0
      obtain ⟨c, h3, h4, h5⟩ := wrIs_lies h1 (fun x h => hx x (by simp [h])) (Nat.le_of_not_lt fun h => hn (.inr h)) h
      refine ⟨(wrI b K e it).out ++ c, by rw [h3, List.append_assoc], h4, .cons ?_ h5⟩
      rw [h3]
      exact h2.more c

theorem chkM_ok {m : Ms} (h : chkM m = 0) : 0 ≤ m.id ∧ m.id ≤ 65535 ∧ 0 ≤ m.fl ∧ m.fl ≤ 65535 ∧ m.q.length ≤ 65535 ∧ m.an.length ≤ 65535 ∧ m.ns.length ≤ 65535 ∧ m.ar.length ≤ 65535 ∧ ∀ it ∈ m.its, it.err = 0 := by
  unfold chkM at h
  split at h
  · exact absurd h (by decide)
  · split at h
    · exact absurd h (by decide)
    · exact ⟨by omega, by omega, by omega, by omega, by omega, by omega, by omega, by omega, fun it hit => fst0_zero h _ (List.mem_map_of_mem hit)⟩

/-- A message that is written stands. -/
theorem wrM_lies {m : Ms} {z : List UInt8} {e : Int} (h : wrM m = (some z, e)) : e = 0 ∧ chkM m = 0 ∧ z.length ≤ 65535 ∧ ∃ c, z = headM m ++ c ∧ LiesIs z 12 m.its z.length := by
  unfold wrM at h
  split at h
  · simp at h
  · rename_i h1
    have h1 : chkM m = 0 := by simpa using h1
    split at h
    · rename_i z' hz
      simp only [Prod.mk.injEq, Option.some.injEq] at h
      obtain ⟨h2, h3⟩ := h
      subst h2
      have hI : Inv (headM m) [] 0 [] := by have := Inv.nil.more (headM m); rwa [List.nil_append] at this
      obtain ⟨c, h4, h5, h6⟩ := wrIs_lies hI (chkM_ok h1).2.2.2.2.2.2.2.2 (by rw [headM_len]; decide) hz
      exact ⟨h3.symm, h1, h5, c, h4, h6⟩
    · simp at h
end Go.Proofs.YteegekpanadmkaaGreat

/-
  Rows of cells in memory: what a slice reads as, and append of it to a row of the call's own.
-/
namespace Go.Proofs.YteegekpanadmkaaGreat
open Go.RowKit Go.Shelf
set_option linter.unusedVariables false
set_option linter.unusedSimpArgs false
set_option maxRecDepth 100000

section
variable {α : Type} {f : α → List Value} {k : Nat}
theorem flat_len (hf : ∀ x, (f x).length = k) (l : List α) : (l.flatMap f).length = l.length * k := by
  induction l with
  | nil => simp
  | cons x r ih => rw [List.flatMap_cons, List.length_append, ih, hf, List.length_cons, Nat.add_mul, Nat.one_mul, Nat.add_comm]
theorem flat_at (hf : ∀ x, (f x).length = k) : ∀ (l : List α) (j : Nat) (h : j < l.length) (i : Nat) (u : Value), (f l[j])[i]? = some u → (l.flatMap f)[j * k + i]? = some u
  | [], j, h, _, _, _ => by simp at h
  | x :: r, 0, h, i, u, hu => by
    have hi : i < k := by have := (List.getElem?_eq_some_iff.mp hu).1; simpa [hf] using this
    rw [List.flatMap_cons, Nat.zero_mul, Nat.zero_add, List.getElem?_append_left (by rw [hf]; exact hi)]
    exact hu
  | x :: r, j + 1, h, i, u, hu => by
    have ih := flat_at hf r j (by simpa using h) i u hu
    rw [List.flatMap_cons, List.getElem?_append_right (by rw [hf, Nat.add_mul]; omega)]
    rw [hf, show (j + 1) * k + i - k = j * k + i by rw [Nat.add_mul]; omega]
    exact ih
theorem flat_one (h1 : ∀ x, ∀ u ∈ f x, u.oneCell' = true) (l : List α) : ∀ u ∈ l.flatMap f, u.oneCell' = true := by
  intro u hu
  obtain ⟨x, _, hx⟩ := List.mem_flatMap.mp hu
  exact h1 x u hx
end

/-- The slice v, of n entries, reads as these cells; what it leads to lies in a block below hi. -/
def Lst (w : World) (hi : Nat) (v : Value) (n : Nat) (xs : List Value) : Prop :=
  ∃ a c, v = .slice a n c ∧ n ≤ 140737488351232 ∧ (a = none → n = 0 ∧ c = 0) ∧ (0 < n → ∃ b off, a = some ⟨b, off, none⟩ ∧ b < hi ∧ ∀ i u, xs[i]? = some u → w.cell? ⟨b, off + i, none⟩ = some u)

section
variable {w w' : World} {hi n : Nat} {v : Value} {xs : List Value}
theorem Lst.keep (h : Lst w hi v n xs) (hk : ∀ b o, b < hi → w'.cell? ⟨b, o, none⟩ = w.cell? ⟨b, o, none⟩) : Lst w' hi v n xs := by
  obtain ⟨a, c, rfl, hn, h0, hx⟩ := h
  refine ⟨a, c, rfl, hn, h0, fun hp => ?_⟩
  obtain ⟨b, off, rfl, h1, h2⟩ := hx hp
  exact ⟨b, off, rfl, h1, fun i u hu => (hk b _ h1).trans (h2 i u hu)⟩
theorem Lst.below {B : Nat} (h : Lst w hi v n xs) (hb : Below B w w') (hB : hi ≤ B) : Lst w' hi v n xs :=
  h.keep fun b o h1 => hb.cell (p := ⟨b, o, none⟩) (Nat.lt_of_lt_of_le h1 hB)
theorem Lst.wide {hi' : Nat} (h : Lst w hi v n xs) (hh : hi ≤ hi') : Lst w hi' v n xs := by
  obtain ⟨a, c, rfl, hn, h0, hx⟩ := h
  refine ⟨a, c, rfl, hn, h0, fun hp => ?_⟩
  obtain ⟨b, off, rfl, h1, h2⟩ := hx hp
  exact ⟨b, off, rfl, Nat.lt_of_lt_of_le h1 hh, h2⟩
theorem Lst.shape (h : Lst w hi v n xs) : ∃ a c, v = .slice a n c := by obtain ⟨a, c, rfl, _⟩ := h; exact ⟨a, c, rfl⟩
theorem Lst.len (h : Lst w hi v n xs) : n ≤ 140737488351232 := by obtain ⟨_, _, _, hn, _⟩ := h; exact hn
theorem Lst.nil (w : World) (hi : Nat) : Lst w hi (.slice none 0 0) 0 [] := ⟨none, 0, rfl, by omega, fun _ => ⟨rfl, rfl⟩, fun h => by omega⟩
theorem Lst.own {B k : Nat} {e : TypeId} (h : w.ownsRow B e k v n xs) (hn : n ≤ 1000000) : Lst w w.heap.size v n xs := by
  have hc := fun g hg => World.ownsRow.cells h (g := g) hg
  have hl := fun b hb => (World.ownsRow.lt h b hb).2
  rcases h.2 with ⟨rfl, h0⟩ | ⟨g, cap, cur, rfl, _⟩
  · subst h0
    exact ⟨none, 0, rfl, by omega, fun _ => ⟨rfl, rfl⟩, fun h => by omega⟩
  · refine ⟨_, cap, rfl, by omega, fun h => by simp at h, fun _ => ⟨g, 0, rfl, hl g rfl, fun i u hu => ?_⟩⟩
    have := hc g rfl i u hu
    rwa [WideShapes.add_plain] at this
end

/-- append of what a slice reads as to a row of the call's own. -/
theorem row_more {w : World} {B hi n m k : Nat} {t ty e : TypeId} {i : TypeInfo} {z v u : Value} {xs ys : List Value} (bytes : Nat) (ht : Tryz.prog.underlying t = some (.slice e)) (hti : Tryz.prog.info? e = some i) (hz : i.zero = some z)
    (hsize : i.size = k) (hby : i.bytes = bytes) (hzs : z.cells.size = k) (hk : 0 < k) (hb1 : bytes ≤ 1000)
    (hown : w.ownsRow B e k v n xs) (hx : Lst w hi u m ys) (hl : ys.length = m * k) (h1 : ∀ u ∈ ys, u.oneCell' = true) (hnm : n + m ≤ 1000000) (hB : B ≤ w.heap.size) :
    ∃ a' c' w', (Builtin.append_ #[t, t] ty #[v, u]).run Tryz.prog w = .ok (.slice a' (n + m) c') w' ∧ w'.ownsRow B e k (.slice a' (n + m) c') (n + m) (xs ++ ys) ∧ Aside (fun b => v.ownBlock = some b) w w' ∧
      ((Value.slice a' (n + m) c').ownBlock = v.ownBlock ∨ (Value.slice a' (n + m) c').ownBlock = some w.heap.size) := by
  obtain ⟨a, c, rfl, _, h0, hx⟩ := hx
  cases a with
  | none =>
    obtain ⟨hm0, hc⟩ := h0 rfl
    subst hm0; subst hc
    have hy : ys = [] := by rw [Nat.zero_mul] at hl; exact List.length_eq_zero_iff.mp hl
    subst hy
    have hr := run_append_owned_none (P := Tryz.prog) (w := w) B t ty e i k ht hti v n xs hown
    obtain ⟨a', c', rfl⟩ := row_shape hown
    exact ⟨a', c', w, by rw [Nat.add_zero]; exact hr, by rw [Nat.add_zero, List.append_nil]; exact hown, Aside.refl _ _, .inl rfl⟩
  | some a =>
    have hnews : ∀ j u, ys[j]? = some u → w.cell? (a.add j) = some u := by
      intro j u hu
      have hp : 0 < m := by
        rcases Nat.eq_zero_or_pos m with h | h
        · subst h; rw [Nat.zero_mul] at hl; rw [List.length_eq_zero_iff.mp hl] at hu; simp at hu
        · exact h
      obtain ⟨b, off, h2, _, h3⟩ := hx hp
      injection h2 with h2
      subst h2
      rw [WideShapes.add_plain]
      exact h3 j u hu
    have hbb : (n + m) * bytes ≤ 140737488355328 := Nat.le_trans (Nat.mul_le_mul hnm hb1) (by decide)
    obtain ⟨v', w', r1, r2, r3, _, r5⟩ := run_append_own_at (P := Tryz.prog) (w := w) B t ty e i z k bytes ht hti hz hsize hby hzs hk v n xs hown a m c ys hl hnews h1 (by unfold maxLen; omega) hbb hB
    obtain ⟨a', c', hv⟩ := row_shape r2
    subst hv
    exact ⟨a', c', w', r1, r2, Aside.grown r3 fun _ h => h, r5⟩
end Go.Proofs.YteegekpanadmkaaGreat

/-
  Acts that came in: records, whether they are asked alone, places.
-/
namespace Go.Proofs.YteegekpanadmkaaGreat
open Go.RowKit Go.Shelf
set_option linter.unusedVariables false
set_option linter.unusedSimpArgs false
set_option maxRecDepth 100000

/-- The cells of a record. -/
def AtR (w : World) (b o : Nat) (x : Rc) : Prop :=
  w.cell? ⟨b, o, none⟩ = some (.string (bs x.n)) ∧ w.cell? ⟨b, o + 1, none⟩ = some (.int .i64 x.t) ∧ w.cell? ⟨b, o + 2, none⟩ = some (.int .i64 x.c) ∧ w.cell? ⟨b, o + 3, none⟩ = some (.int .i64 x.l) ∧ w.cell? ⟨b, o + 4, none⟩ = some (.string (bs x.d))

theorem AtR.keep {w w' : World} {b o : Nat} {x : Rc} (h : AtR w b o x) (hk : ∀ o, w'.cell? ⟨b, o, none⟩ = w.cell? ⟨b, o, none⟩) : AtR w' b o x :=
  ⟨(hk _).trans h.1, (hk _).trans h.2.1, (hk _).trans h.2.2.1, (hk _).trans h.2.2.2.1, (hk _).trans h.2.2.2.2⟩

/-- A record, whether its question alone is asked, whether the place is one as it is, the place. -/
structure AR where
  x : Rc
  k : Bool
  r : Bool
  a : Int

end Go.Proofs.YteegekpanadmkaaGreat

/-
  Questions, records, messages in memory; the same ones are told the same.
-/
namespace Go.Proofs.YteegekpanadmkaaGreat
open Go.RowKit Go.Shelf
set_option linter.unusedVariables false
set_option linter.unusedSimpArgs false
set_option maxRecDepth 100000

/-- The cells of a question. -/
def cq (x : Qn) : List Value := [.string (bs x.n), .int .i64 x.t, .int .i64 x.c]
/-- The cells of a record. -/
def cr (x : Rc) : List Value := [.string (bs x.n), .int .i64 x.t, .int .i64 x.c, .int .i64 x.l, .string (bs x.d)]
def acq (l : List Qn) : List Value := l.flatMap cq
def acr (l : List Rc) : List Value := l.flatMap cr
theorem acq_len (l : List Qn) : (acq l).length = l.length * 3 := flat_len (f := cq) (k := 3) (fun _ => rfl) l
theorem acr_len (l : List Rc) : (acr l).length = l.length * 5 := flat_len (f := cr) (k := 5) (fun _ => rfl) l
theorem acq_app (l m : List Qn) : acq (l ++ m) = acq l ++ acq m := List.flatMap_append
theorem acr_app (l m : List Rc) : acr (l ++ m) = acr l ++ acr m := List.flatMap_append
theorem acq_one (l : List Qn) : ∀ u ∈ acq l, u.oneCell' = true := flat_one (fun x u hu => by
  simp only [cq, List.mem_cons, List.mem_nil_iff, or_false] at hu
  rcases hu with rfl | rfl | rfl <;> rfl) l
theorem acr_one (l : List Rc) : ∀ u ∈ acr l, u.oneCell' = true := flat_one (fun x u hu => by
  simp only [cr, List.mem_cons, List.mem_nil_iff, or_false] at hu
  rcases hu with rfl | rfl | rfl | rfl | rfl <;> rfl) l

/-- The cells of a question stand at a place. -/
def AtQn (w : World) (b o : Nat) (x : Qn) : Prop := w.cell? ⟨b, o, none⟩ = some (.string (bs x.n)) ∧ w.cell? ⟨b, o + 1, none⟩ = some (.int .i64 x.t) ∧ w.cell? ⟨b, o + 2, none⟩ = some (.int .i64 x.c)
theorem AtQn.keep {w w' : World} {b o : Nat} {x : Qn} (h : AtQn w b o x) (hk : ∀ o, w'.cell? ⟨b, o, none⟩ = w.cell? ⟨b, o, none⟩) : AtQn w' b o x := ⟨(hk _).trans h.1, (hk _).trans h.2.1, (hk _).trans h.2.2⟩

/-- The slice v reads as these questions. -/
def SQ (w : World) (hi : Nat) (v : Value) (l : List Qn) : Prop := Lst w hi v l.length (acq l)
/-- The slice v reads as these records. -/
def SR (w : World) (hi : Nat) (v : Value) (l : List Rc) : Prop := Lst w hi v l.length (acr l)
/-- A row of questions of the call's own. -/
def OwnQn (w : World) (B : Nat) (v : Value) (l : List Qn) : Prop := w.ownsRow B 56 3 v l.length (acq l)
/-- A row of records of the call's own. -/
def OwnRc (w : World) (B : Nat) (v : Value) (l : List Rc) : Prop := w.ownsRow B 52 5 v l.length (acr l)

theorem SQ.at_ {w : World} {hi : Nat} {v : Value} {l : List Qn} (h : SQ w hi v l) (j : Nat) (hj : j < l.length) : ∃ b off c, v = .slice (some ⟨b, off, none⟩) l.length c ∧ b < hi ∧ AtQn w b (off + j * 3) l[j] := by
  obtain ⟨a, c, rfl, _, _, hx⟩ := h
  obtain ⟨b, off, rfl, h1, h2⟩ := hx (by omega)
  have e := fun i u hu => h2 _ _ (flat_at (f := cq) (k := 3) (fun _ => rfl) l j hj i u hu)
  simp only [← Nat.add_assoc] at e
  exact ⟨b, off, c, rfl, h1, e 0 _ rfl, e 1 _ rfl, e 2 _ rfl⟩
theorem SR.at_ {w : World} {hi : Nat} {v : Value} {l : List Rc} (h : SR w hi v l) (j : Nat) (hj : j < l.length) : ∃ b off c, v = .slice (some ⟨b, off, none⟩) l.length c ∧ b < hi ∧ AtR w b (off + j * 5) l[j] := by
  obtain ⟨a, c, rfl, _, _, hx⟩ := h
  obtain ⟨b, off, rfl, h1, h2⟩ := hx (by omega)
  have e := fun i u hu => h2 _ _ (flat_at (f := cr) (k := 5) (fun _ => rfl) l j hj i u hu)
  simp only [← Nat.add_assoc] at e
  exact ⟨b, off, c, rfl, h1, e 0 _ rfl, e 1 _ rfl, e 2 _ rfl, e 3 _ rfl, e 4 _ rfl⟩

/-- The value v reads as this message. -/
def Mg (w : World) (hi : Nat) (v : Value) (m : Ms) : Prop := ∃ q a n r, v = .agg #[.int .i64 m.id, .int .i64 m.fl, q, a, n, r] ∧ SQ w hi q m.q ∧ SR w hi a m.an ∧ SR w hi n m.ns ∧ SR w hi r m.ar
theorem Mg.below {w w' : World} {hi B : Nat} {v : Value} {m : Ms} (h : Mg w hi v m) (hb : Below B w w') (hB : hi ≤ B) : Mg w' hi v m := by
  obtain ⟨q, a, n, r, rfl, h1, h2, h3, h4⟩ := h
  exact ⟨q, a, n, r, rfl, Lst.below h1 hb hB, Lst.below h2 hb hB, Lst.below h3 hb hB, Lst.below h4 hb hB⟩
theorem Mg.wide {w : World} {hi hi' : Nat} {v : Value} {m : Ms} (h : Mg w hi v m) (hh : hi ≤ hi') : Mg w hi' v m := by
  obtain ⟨q, a, n, r, rfl, h1, h2, h3, h4⟩ := h
  exact ⟨q, a, n, r, rfl, Lst.wide h1 hh, Lst.wide h2 hh, Lst.wide h3 hh, Lst.wide h4 hh⟩
theorem Mg.later {w w' : World} {v : Value} {m : Ms} (h : Mg w w.heap.size v m) (hb : Below w.heap.size w w') : Mg w' w'.heap.size v m := (h.below hb (Nat.le_refl _)).wide hb.size

end Go.Proofs.YteegekpanadmkaaGreat

/-
  What a message says besides, plainly: options as bytes and back, what is told of a message, what is put into it, what is left of it.
-/
namespace Go.Proofs.YteegekpanadmkaaGreat
open Go.RowKit Go.Shelf
set_option linter.unusedVariables false
set_option linter.unusedSimpArgs false
set_option maxRecDepth 100000

/-- An option: its code, its data. -/
structure Ot where
  c : Int
  d : List UInt8
/-- What is said besides: how many bytes, the code's upper part, a version, a flag, options. -/
structure Ed where
  s : Int
  x : Int
  v : Int
  b : Bool
  o : List Ot
/-! ### options as bytes, and back -/

def b2 (n : Int) : List UInt8 := [UInt8.ofNat (n / 256).toNat, UInt8.ofNat (n % 256).toNat]
/-- The number of two bytes. -/
def n2 (b : List UInt8) (p : Nat) : Nat := (b.getD p 0).toNat * 256 + (b.getD (p + 1) 0).toNat
/-- How an option at a place is read: what it is, and where it ends; or where there is too little. -/
inductive OtR where
  | ok (x : Ot) (q : Nat)
  | bad (a : Nat)
/-! ### records -/

def isO (x : Rc) : Bool := decide (x.t = 41)
def noL (l : List Rc) : List Rc := l.filter fun x => !isO x
/-- A message without that. -/
def stM (m : Ms) : Ms := ⟨m.id, m.fl, m.q, noL m.an, noL m.ns, noL m.ar⟩
/-! ### in memory -/

end Go.Proofs.YteegekpanadmkaaGreat

/-
  An order of places by kind, the later one first; what merging by halves comes to, plainly.
-/
namespace Go.Proofs.YteegekpanadmkaaGreat
open Go.RowKit Go.Shelf
set_option linter.unusedVariables false
set_option linter.unusedSimpArgs false
set_option maxRecDepth 100000

/-- Place i goes ahead of place j. -/
def Bef (κ : Nat → Int) (i j : Nat) : Prop := κ i < κ j ∨ (κ i = κ j ∧ j < i)
instance (κ : Nat → Int) (i j : Nat) : Decidable (Bef κ i j) := by unfold Bef; exact inferInstance
theorem Bef.irr {κ : Nat → Int} {i : Nat} : ¬ Bef κ i i := fun h => by rcases h with h | h <;> omega
theorem Bef.asym {κ : Nat → Int} {i j : Nat} (h : Bef κ i j) : ¬ Bef κ j i := fun h2 => by rcases h with h | h <;> rcases h2 with h2 | h2 <;> omega
theorem Bef.trans {κ : Nat → Int} {i j k : Nat} (h : Bef κ i j) (h2 : Bef κ j k) : Bef κ i k := by
  unfold Bef at *; rcases h with h | h <;> rcases h2 with h2 | h2 <;> omega
theorem Bef.total {κ : Nat → Int} {i j : Nat} (h : i ≠ j) (h2 : ¬ Bef κ i j) : Bef κ j i := by unfold Bef at *; omega
/-- Of two of which the first is the later one: which goes ahead is told by the kinds alone. -/
theorem bef_lt {κ : Nat → Int} {i j : Nat} (h : i < j) : Bef κ i j ↔ κ i < κ j := by unfold Bef; omega

/-- A row is in order. -/
def Ups (κ : Nat → Int) (l : List Nat) : Prop := l.Pairwise (Bef κ)
/-- Each is later than those behind it. -/
def Dns (l : List Nat) : Prop := l.Pairwise (· > ·)
/-- Each of the first is later than each of the second. -/
def Ovr (l m : List Nat) : Prop := ∀ x ∈ l, ∀ y ∈ m, y < x

theorem Ups.app {κ : Nat → Int} {l m : List Nat} : Ups κ (l ++ m) ↔ Ups κ l ∧ Ups κ m ∧ ∀ x ∈ l, ∀ y ∈ m, Bef κ x y := List.pairwise_append
theorem Dns.app {l m : List Nat} : Dns (l ++ m) ↔ Dns l ∧ Dns m ∧ Ovr l m := List.pairwise_append
theorem Ovr.perm {l l' m m' : List Nat} (h : Ovr l m) (h1 : l'.Perm l) (h2 : m'.Perm m) : Ovr l' m' := fun x hx y hy => h x (h1.mem_iff.mp hx) y (h2.mem_iff.mp hy)
theorem Ovr.sub {l l' m m' : List Nat} (h : Ovr l m) (h1 : ∀ x ∈ l', x ∈ l) (h2 : ∀ x ∈ m', x ∈ m) : Ovr l' m' := fun x hx y hy => h x (h1 x hx) y (h2 y hy)

/-- l in order, with the entries of m. -/
def Mrg (κ : Nat → Int) (l m : List Nat) : Prop := l.Perm m ∧ Ups κ l
theorem Mrg.one (κ : Nat → Int) (x : Nat) : Mrg κ [x] [x] := ⟨List.Perm.refl _, List.pairwise_singleton _ _⟩
theorem Mrg.nil (κ : Nat → Int) : Mrg κ [] [] := ⟨List.Perm.refl _, List.Pairwise.nil⟩
/-- Halves that are in order, of which all of the first goes ahead of all of the second. -/
theorem Mrg.halves {κ : Nat → Int} {A1 A2 B1 B2 C1 C2 : List Nat} (h1 : Mrg κ C1 (A1 ++ B1)) (h2 : Mrg κ C2 (A2 ++ B2)) (hA : Ups κ (A1 ++ A2)) (hB : Ups κ (B1 ++ B2)) (ha : ∀ x ∈ A1, ∀ y ∈ B2, Bef κ x y) (hb : ∀ x ∈ B1, ∀ y ∈ A2, Bef κ x y) :
    Mrg κ (C1 ++ C2) ((A1 ++ A2) ++ (B1 ++ B2)) := by
  refine ⟨?_, Ups.app.mpr ⟨h1.2, h2.2, fun x hx y hy => ?_⟩⟩
  · refine (h1.1.append h2.1).trans ?_
    rw [List.append_assoc, List.append_assoc]
    refine List.Perm.append_left A1 ?_
    rw [← List.append_assoc, ← List.append_assoc]
    exact List.Perm.append_right B2 List.perm_append_comm
  · have hx2 := h1.1.mem_iff.mp hx
    have hy2 := h2.1.mem_iff.mp hy
    have kA := (Ups.app.mp hA).2.2
    have kB := (Ups.app.mp hB).2.2
    rcases List.mem_append.mp hx2 with hx2 | hx2 <;> rcases List.mem_append.mp hy2 with hy2 | hy2
    · exact kA x hx2 y hy2
    · exact ha x hx2 y hy2
    · exact hb x hx2 y hy2
    · exact kB x hx2 y hy2

/-- One put among those that are in order. -/
theorem Mrg.put {κ : Nat → Int} {U V : List Nat} {x : Nat} (h : Ups κ (U ++ V)) (hu : ∀ y ∈ U, Bef κ y x) (hv : ∀ y ∈ V, Bef κ x y) : Mrg κ (U ++ x :: V) (U ++ V ++ [x]) := by
  obtain ⟨k1, k2, k3⟩ := Ups.app.mp h
  refine ⟨?_, Ups.app.mpr ⟨k1, List.pairwise_cons.mpr ⟨hv, k2⟩, fun a ha b hb => ?_⟩⟩
  · rw [List.append_assoc]
    exact List.Perm.append_left U (List.perm_append_comm (l₁ := [x]))
  · rcases List.mem_cons.mp hb with rfl | hb
    · exact hu a ha
    · exact k3 a ha b hb
theorem Mrg.put0 {κ : Nat → Int} {U V : List Nat} {x : Nat} (h : Ups κ (U ++ V)) (hu : ∀ y ∈ U, Bef κ y x) (hv : ∀ y ∈ V, Bef κ x y) : Mrg κ (U ++ x :: V) (x :: (U ++ V)) :=
  ⟨(Mrg.put h hu hv).1.trans (List.perm_append_comm (l₂ := [x])), (Mrg.put h hu hv).2⟩
/-- Those that are in order: what is ahead of one of them is ahead of all behind it. -/
theorem Ups.ahead {κ : Nat → Int} {l : List Nat} (h : Ups κ l) {i j : Nat} (hi : i ≤ j) (hj : j < l.length) {x : Nat} (hx : Bef κ x (l[i]'(by omega))) : Bef κ x l[j] := by
  rcases Nat.lt_or_ge i j with h1 | h1
  · exact hx.trans (List.pairwise_iff_getElem.mp h i j (by omega) hj h1)
  · obtain rfl : i = j := by omega
    exact hx
theorem Ups.behind {κ : Nat → Int} {l : List Nat} (h : Ups κ l) {i j : Nat} (hi : i ≤ j) (hj : j < l.length) {x : Nat} (hx : Bef κ l[j] x) : Bef κ (l[i]'(by omega)) x := by
  rcases Nat.lt_or_ge i j with h1 | h1
  · exact (List.pairwise_iff_getElem.mp h i j (by omega) hj h1).trans hx
  · obtain rfl : i = j := by omega
    exact hx
/-- In order, what goes ahead of so many stands among the first. -/
theorem bef_rank {κ : Nat → Int} : ∀ {l : List Nat}, Ups κ l → ∀ {i : Nat}, i ∈ l → ∀ n, i ∈ l.take n ↔ l.countP (fun j => decide (Bef κ j i)) < n
  | [], _, i, h, _ => by simp at h
  | x :: l, hl, i, h, n => by
    have hp := List.pairwise_cons.mp hl
    by_cases e : i = x
    · subst e
      have h0 : l.countP (fun j => decide (Bef κ j i)) = 0 := by
        rw [List.countP_eq_zero]
        intro j hj
        simpa using (hp.1 j hj).asym
      rw [List.countP_cons, h0, if_neg (by simpa using Bef.irr)]
      cases n with
      | zero => simp
      | succ n => simp
    · have hi : i ∈ l := by rcases List.mem_cons.mp h with h | h; exact absurd h e; exact h
      rw [List.countP_cons, if_pos (by simpa using hp.1 i hi)]
      cases n with
      | zero => simp
      | succ n =>
        rw [List.take_succ_cons, List.mem_cons]
        have ih := bef_rank hp.2 hi n
        constructor
        · rintro (h | h)
          · exact absurd h e
          · have := ih.mp h; omega
        · intro h
          exact .inr (ih.mpr (by omega))
end Go.Proofs.YteegekpanadmkaaGreat
