/-
  The statement about zones.
-/
import Derived.Test.YtibaeklpgfadpaaVf
import Derived.Test.YtibaeklpgfadpaaVd
import Derived.BigRegion
namespace Go.Proofs.Ytibaeklpgfadpaa
open Go.RowKit Go.Shelf
set_option linter.unusedVariables false
set_option linter.unusedSimpArgs false

theorem tell_same {f : Nat} {args : Array Value} {v : Value} {w0 w : World} (h : Hid (Below w0.heap.size w0 w)) (hc : Calls Try.prog f args w fun e w' => e = .returned v ∧ w = w') : Calls Try.prog f args w fun e w' => e = .returned v ∧ Hid (Below w0.heap.size w0 w') :=
  hc.mono fun e w' hp => ⟨hp.1, hp.2 ▸ h⟩

theorem Join_c {l : List (List UInt8)} {c : Int} (hc : jcode l = c) (v : Value) (w : World) {lo hi : Nat} (hst : St w lo hi v l) (hl : (wire l).length ≤ 900000) : Calls Try.prog 13 #[v] w (Tells w (.tuple #[.string (bs (jname l)), .int .i64 c])) := hc ▸ Join_any l v w hst hl

theorem oper_append_run {w w' : World} {v v' xv : Value} {ops : Array Oper} {o : Oper} {a : Act} {K : Act → World → Prop} {Q : Exit → Act → World → Prop} (s x : Operand) (t u : TypeId)
    (ho : o.op = .call { callee := .builtin .append, args := #[s, x], argTypes := #[t, u] }) (hgd : o.guard = .none) (hs : a.eval s = v) (hx : a.eval x = xv)
    (hrun : (Builtin.append_ #[t, u] o.type #[v, xv]).run Try.prog w = .ok v' w') (h : K (a.put o.dst v') w') : if Region.wanted o (yielded ops a.tmps) = true then Oper.wp Try.prog o a w K Q else K (a.put o.dst undef) w := by
  rw [if_pos (by simp [Region.wanted, hgd])]
  unfold Oper.wp
  simp [execOp, ho, resolve, invoke, builtin, hs, hx, hrun, Result.andThen]
  exact h

theorem bs_glue (a b : List UInt8) : bs a ++ bs b = bs (a ++ b) := by
  rw [bs_eta (bs a ++ bs b)]
  simp [bs]

/-- The texts of the zone, its first one glued to another. -/
theorem glue_run {w : World} {lo hi : Nat} {sv : Value} {m y : List UInt8} {r : List (List UInt8)} (h : St w lo hi sv r) (hr : r.length + 1 ≤ 10) :
    ∃ a c w', Hid ((Builtin.append_ #[22, 22] 22 #[.slice (some ⟨w.heap.size, 0, none⟩) 1 1, sv]).run Try.prog (w.drew.alloc (.cells #[.string (bs m ++ bs y)] 9)) = .ok (.slice a (1 + r.length) c) w') ∧
      Hid (OwnT w' w.heap.size (.slice a (1 + r.length) c) ((m ++ y) :: r)) ∧ Hid (Below w.heap.size w w') := by
  rw [bs_glue]
  obtain ⟨W, hW⟩ : ∃ W, w.drew.alloc (.cells #[.string (bs (m ++ y))] 9) = W := ⟨_, rfl⟩
  rw [hW]
  have hb : Below w.heap.size w W := by rw [← hW]; exact (Below.refl _ w).drew.alloc (Nat.le_refl _) _
  have hown : OwnT W w.heap.size (.slice (some ⟨w.heap.size, 0, none⟩) 1 1) [m ++ y] := by
    refine .inr ⟨w.heap.size, 1, by simp, Nat.le_refl _, by simp, by decide, ?_⟩
    rw [← hW]
    show (w.heap.push (.cells #[.string (bs (m ++ y))] 9))[w.heap.size]? = _
    simp [tv]
  have h0 : sv = .slice .none 0 0 → r = [] := fun e => by
    obtain ⟨ad, c, rfl, _⟩ := h
    injection e with e1 e2 e3
    exact List.eq_nil_of_length_eq_zero e2
  obtain ⟨a, c, w', h1, h2, h3⟩ := run_appTs w.heap.size lo hi _ _ [m ++ y] r hown (h.later hb) (by simp; omega) hb.size h0
  exact ⟨a, c, w', h1, h2, hb.trans ((Below.refl _ _).grown h3 hb.size fun k hk => (hown.lt k hk).1)⟩

set_option maxRecDepth 100000 in
set_option maxHeartbeats 4000000 in
theorem zones_early {x z : List (List UInt8)} {m : List UInt8} {vx vz : Value} {w : World} {lo hi lo' hi' : Nat} (hx : St w lo hi vx x) (hz : St w lo' hi' vz z) (h : 10 < x.length ∨ 10 < z.length ∨ 60 < m.length ∨ lng x = true ∨ lng z = true) :
    Calls Try.prog 7 #[vx, vz, .string (bs m)] w (Tells w (.bool true)) := by
  have HX := Lib.hid hx
  have HZ := Lib.hid hz
  have HAW := Lib.hid awake_any
  have HB := Lib.hid (Below.refl w.heap.size w)
  obtain ⟨ax, cx, rfl, _⟩ := hx
  obtain ⟨az, cz, rfl, _⟩ := hz
  by_cases h0 : 10 < x.length
  · have t0 : decide ((10 : Int) < x.length) = true := by simp; omega
    clear h
    go_enter Try.func7, Try.ntmps7
    go_wp2_with fail
    refine (tell_on HB (HAW.out _)).mono ?_; rintro e w1 ⟨rfl, HB⟩
    go_wp2_with fail
    go_ret
    exact ⟨rfl, HB.out⟩
  have t0 : decide ((10 : Int) < x.length) = false := by simp; omega
  by_cases h1 : 10 < z.length
  · have t1 : decide ((10 : Int) < z.length) = true := by simp; omega
    clear h
    go_enter Try.func7, Try.ntmps7
    go_wp2_with fail
    refine (tell_on HB (HAW.out _)).mono ?_; rintro e w1 ⟨rfl, HB⟩
    go_wp2_with fail
    go_ret
    exact ⟨rfl, HB.out⟩
  have t1 : decide ((10 : Int) < z.length) = false := by simp; omega
  by_cases h2 : 60 < m.length
  · have t2 : decide ((60 : Int) < m.length) = true := by simp; omega
    clear h
    go_enter Try.func7, Try.ntmps7
    go_wp2_with fail
    refine (tell_on HB (HAW.out _)).mono ?_; rintro e w1 ⟨rfl, HB⟩
    go_wp2_with fail
    go_ret
    exact ⟨rfl, HB.out⟩
  have t2 : decide ((60 : Int) < m.length) = false := by simp; omega
  cases hlx : lng x with
  | true =>
    clear h
    go_enter Try.func7, Try.ntmps7
    go_wp2_with fail
    refine (tell_on HB (HAW.out _)).mono ?_; rintro e w1 ⟨rfl, HB⟩
    go_wp2_with fail
    have HL := Lib.hid (long_any (HX.out.later HB.out) (by omega))
    rw [hlx] at HL
    refine (tell_same HB HL.out).mono ?_; rintro e w1 ⟨rfl, HB⟩
    go_wp2_with fail
    go_ret
    exact ⟨rfl, HB.out⟩
  | false =>
    have hlz : lng z = true := by rcases h with h | h | h | h | h <;> first | omega | (rw [hlx] at h; cases h) | exact h
    clear h
    go_enter Try.func7, Try.ntmps7
    go_wp2_with fail
    refine (tell_on HB (HAW.out _)).mono ?_; rintro e w1 ⟨rfl, HB⟩
    go_wp2_with fail
    have HL := Lib.hid (long_any (HX.out.later HB.out) (by omega))
    rw [hlx] at HL
    refine (tell_same HB HL.out).mono ?_; rintro e w1 ⟨rfl, HB⟩
    have HL := Lib.hid (long_any (HZ.out.later HB.out) (by omega))
    rw [hlz] at HL
    go_wp2_with fail
    refine (tell_same HB HL.out).mono ?_; rintro e w1 ⟨rfl, HB⟩
    go_wp2_with fail
    go_ret
    exact ⟨rfl, HB.out⟩

set_option maxRecDepth 100000 in
set_option maxHeartbeats 4000000 in
theorem zones_core {x z : List (List UInt8)} {m : List UInt8} {vx vz : Value} {w : World} {lo hi lo' hi' : Nat} (hx : St w lo hi vx x) (hz : St w lo' hi' vz z) (h0 : x.length ≤ 10) (h1 : z.length ≤ 10) (h2 : m.length ≤ 60) (hlx : lng x = false) (hlz : lng z = false) :
    Calls Try.prog 7 #[vx, vz, .string (bs m)] w (Tells w (.bool true)) := by
  have HX := Lib.hid hx
  have HZ := Lib.hid hz
  have HAW := Lib.hid awake_any
  have HB := Lib.hid (Below.refl w.heap.size w)
  obtain ⟨ax, cx, rfl, _⟩ := hx
  obtain ⟨az, cz, rfl, _⟩ := hz
  have t0 : decide ((10 : Int) < x.length) = false := by simp; omega
  have t1 : decide ((10 : Int) < z.length) = false := by simp; omega
  have t2 : decide ((60 : Int) < m.length) = false := by simp; omega
  have hwz := wire_lng hlz
  have hwx := wire_lng (lng_app hlx hlz)
  rw [List.length_append] at hwx
  have hjz := jname_len z
  have hjn := jname_len (x ++ z)
  obtain ⟨ez, hez⟩ : ∃ e, jcode z = e := ⟨_, rfl⟩
  obtain ⟨en, hen⟩ : ∃ e, jcode (x ++ z) = e := ⟨_, rfl⟩
  go_enter Try.func7, Try.ntmps7
  go_wp2_with fail
  refine (tell_on HB (HAW.out _)).mono ?_; rintro e w1 ⟨rfl, HB⟩
  go_wp2_with fail
  have HL := Lib.hid (long_any (HX.out.later HB.out) (by omega))
  rw [hlx] at HL
  refine (tell_same HB HL.out).mono ?_; rintro e w1 ⟨rfl, HB⟩
  have HL := Lib.hid (long_any (HZ.out.later HB.out) (by omega))
  rw [hlz] at HL
  go_wp2_with fail
  refine (tell_same HB HL.out).mono ?_; rintro e w1 ⟨rfl, HB⟩
  go_wp2_with fail
  refine (tell_on HB (Join_c hez _ _ (HZ.out.later HB.out) (by omega))).mono ?_; rintro e w1 ⟨rfl, HB⟩
  go_wp2_with fail
  refine (copyT_any (HX.out.later HB.out) (by omega)).mono ?_
  rintro e w2 ⟨v, rfl, ho, hb⟩
  have HO := Lib.hid ho
  have HB2 := Lib.hid (bel_call HB.out hb)
  have HG := Lib.hid (Nat.le_trans HB.out.size (Nat.le_refl w1.heap.size))
  have HS1 := Lib.hid hb.size
  clear ho hb HB
  go_wp2_with (at_builtin; refine wpList_appT rfl (.tmp 47) (.tmp 48) rfl rfl w1.heap.size ?l1 ?h1 _ _ x z rfl rfl ?a1 ?b1 ?c1 ?d1 ?_)
  case l1 => exact 0
  case h1 => exact w2.heap.size
  case a1 => exact HO.out
  case b1 => exact (HZ.out.later HB2.out).top
  case c1 => omega
  case d1 => exact HS1.out
  intro a3 c3 w3 HO3 hb3
  have HB := Lib.hid (show Below w.heap.size w w3 from HB2.out.trans (hb3.out.mono HG.out))
  clear HB2 hb3 HO HS1 HG
  go_wp2_with fail
  refine (tell_on HB (Join_c hen _ _ HO3.out.st (by omega))).mono ?_; rintro e w4 ⟨rfl, HB⟩
  clear HO3
  by_cases hz0 : ez = 0
  · subst hz0
    by_cases hn0 : en = 0
    · subst hn0
      obtain ⟨f1, f2⟩ := zones_facts hez hen
      have HW1 := Lib.hid (fun w => within_any (jname (x ++ z)) (jname z) (by omega) (by omega) w)
      have HW2 := Lib.hid (fun w => within_any (jname z) (jname (x ++ z)) (by omega) (by omega) w)
      rw [f1] at HW1
      rw [f2] at HW2
      obtain ⟨b, hb⟩ : ∃ b, decide (x.length = 0) = b := ⟨_, rfl⟩
      have t5 : ((x.length : Int) == 0) = b := by rw [← hb]; by_cases h : x.length = 0 <;> simp [h]
      rw [hb] at HW2
      have HEZ := Lib.hid hez
      have HEN := Lib.hid hen
      clear f1 f2 hb hez hen
      go_wp2_with fail
      refine (tell_on HB (HW1.out _)).mono ?_; rintro e w5 ⟨rfl, HB⟩
      go_wp2_with fail
      refine (tell_on HB (HW2.out _)).mono ?_; rintro e w6 ⟨rfl, HB⟩
      cases z with
      | nil =>
        go_wp2_with fail
        go_ret
        exact ⟨rfl, HB.out⟩
      | cons y r =>
        by_cases hm0 : m = []
        · subst hm0
          have t6 : (bs []).toList.isEmpty = true := by rw [bs_toList]; rfl
          have t7 : (((y :: r).length : Int) == 0) = false := rfl
          go_wp2_with fail
          go_ret
          exact ⟨rfl, HB.out⟩
        · have t6 : (bs m).toList.isEmpty = false := by rw [bs_toList]; cases m with | nil => exact absurd rfl hm0 | cons c d => rfl
          have t7 : (((y :: r).length : Int) == 0) = false := rfl
          have hy : y.length ≤ 63 := ((jcode_zero HEZ.out).1.1 y (by simp)).2
          obtain ⟨f1, f2, f3⟩ := zones_more HEZ.out HEN.out hm0
          have F := Lib.hid (And.intro f1 (And.intro f2 f3))
          obtain ⟨b0, off, haz, _, _, hcell⟩ := HZ.out.cell (by simp)
          subst haz
          have hc0 : ∀ wx, Below w.heap.size w wx → wx.cell? ⟨b0, off, none⟩ = some (.string (bs y)) := fun wx hb => by
            have := hcell 0 (by simp)
            exact (hb.cell (p := ⟨b0, off, none⟩) (World.block_lt_of_cell? w _ this)).trans this
          have HC0 := Lib.hid hc0
          have hc1 := hc0 _ HB.out
          obtain ⟨s, hs⟩ : ∃ s : Int, (m.length : Int) + y.length = s := ⟨_, rfl⟩
          have hsw : IntKind.i64.wrap ((m.length : Int) + y.length) = s := by rw [hs]; exact IntWalk.i64_in _ (by omega)
          clear f1 f2 f3 hcell hc0
          by_cases hbig : 63 < s
          · have t8 : decide (63 < s) = true := by simpa using hbig
            clear hs hbig
            go_wp2_with fail
            go_ret
            exact ⟨rfl, HB.out⟩
          · have t8 : decide (63 < s) = false := by simpa using hbig
            have hsm : m.length + y.length ≤ 63 := by omega
            clear hs hbig
            have hst1 := st_from (p := 1) (HZ.out.later HB.out) (by simp)
            obtain ⟨sv, hsv, hstv⟩ := hst1
            have HSV := Lib.hid hstv
            have hsv' : ∀ wx, (Instr.slice 22 (.slice (some ⟨b0, off, none⟩) (r.length + 1) cz) (some (.int .i64 1)) none none).run Try.prog wx = .ok sv wx := hsv
            clear hstv hsv
            obtain ⟨a7, c7, w7, HRUN, HO7, HB7⟩ := glue_run (m := m) (y := y) (r := r) HSV.out (by simpa using h1)
            have hcat : ¬ 9223372036854775807 < m.length + y.length := by omega
            have hcd : w6.drew.cell? ⟨b0, off, none⟩ = some (.string (bs y)) := hc1
            go_wp2_with fail
            refine wp_region_any (by kernel_rfl) ?_
            change wpAny _ _ _ _ _ _ _ (World.drew _)
            refine wpAny_take (i := 0) (v := ?_) rfl (by kernel_rfl) (by kernel_rfl) (by kernel_rfl) (fun _ _ _ h => h) (Or.inl ⟨by rfl, ?_⟩) ?_
            rotate_left 1
            · intro w; go_simp; try (with_reducible rfl)
            refine wpAny_take (i := 1) (v := ?_) rfl (by kernel_rfl) (by kernel_rfl) (by kernel_rfl) (fun _ _ _ h => h) (Or.inl ⟨by rfl, ?_⟩) ?_
            rotate_left 1
            · intro w; go_simp; try (with_reducible rfl)
            refine wpAny_take (i := 2) (v := ?_) rfl (by kernel_rfl) (by kernel_rfl) (by kernel_rfl) (fun _ _ _ h => h) (Or.inl ⟨by rfl, ?_⟩) ?_
            rotate_left 1
            · intro w; go_simp; try (with_reducible rfl)
            refine wpAny_take (i := 6) (v := ?_) rfl (by kernel_rfl) (by kernel_rfl) (by kernel_rfl) (fun _ _ _ h => h) (Or.inl ⟨by rfl, ?_⟩) ?_
            rotate_left 1
            · intro w; go_simp; try (with_reducible rfl)
            refine wpAny_take (i := 7) (v := ?_) rfl (by kernel_rfl) (by kernel_rfl) (by kernel_rfl) (fun _ _ _ h => h) (Or.inl ⟨by rfl, ?_⟩) ?_
            rotate_left 1
            · intro w; go_simp; try (with_reducible rfl)
            refine wpAny_ready (rs := [3]) (by kernel_rfl) (by simp) ?_
            refine AllReady.cons rfl (fun K hK => ?_) AllReady.nil
            go_simp
            refine hK _ _ ?_
            clear hK K
            refine wpAny_take (i := 4) (v := ?_) rfl (by kernel_rfl) (by kernel_rfl) (by kernel_rfl) (fun _ _ _ h => h) (Or.inl ⟨by rfl, ?_⟩) ?_
            rotate_left 1
            · intro w; go_simp; try (with_reducible rfl)
            refine wpAny_ready (rs := [5]) (by kernel_rfl) (by simp) ?_
            refine AllReady.cons rfl (fun K hK => ?_) AllReady.nil
            go_simp
            refine hK _ _ ?_
            clear hK K
            refine wpAny_ready (rs := [8]) (by kernel_rfl) (by simp) ?_
            refine AllReady.cons rfl (fun K hK => ?_) AllReady.nil
            refine oper_append_run (.tmp 96) (.tmp 98) 22 22 rfl rfl rfl rfl HRUN.out ?_
            refine hK _ _ ?_
            clear hK K
            refine wpAny_ready (rs := [9]) (by kernel_rfl) (by simp) ?_
            refine AllReady.cons rfl (fun K hK => ?_) AllReady.nil
            go_simp
            refine hK _ _ ?_
            clear hK K
            refine wpAny_done (by kernel_rfl) ?_ _
            have HB := Lib.hid (bel_call HB.out HB7.out)
            have hj3 := jname_len ((m ++ y) :: r)
            have hjp : (par (jname (y :: r))).length ≤ 900000 := by unfold par; split <;> simp; omega
            have hwg : (wire ((m ++ y) :: r)).length ≤ 900000 := by
              simp only [wire, List.cons_append, List.length_cons, List.length_append] at hwz ⊢
              have : r.length ≤ 10 := by simp at h1; omega
              omega
            have HP := Lib.hid (fun w => parent_any (jname (y :: r)) (by omega) w)
            have HW1 := Lib.hid (fun w => within_any (jname ((m ++ y) :: r)) (jname (y :: r)) (by omega) (by omega) w)
            have HW2 := Lib.hid (fun w => within_any (jname ((m ++ y) :: r)) (par (jname (y :: r))) (by omega) hjp w)
            have HW3 := Lib.hid (fun w => within_any (jname (x ++ y :: r)) (par (jname (y :: r))) (by omega) hjp w)
            obtain ⟨f1, f2, f3⟩ := F.out
            rw [f1] at HP
            rw [f2] at HW3
            obtain ⟨eg, heg⟩ : ∃ e, jcode ((m ++ y) :: r) = e := ⟨_, rfl⟩
            have HJ := Lib.hid (Join_c heg _ _ HO7.out.st hwg)
            by_cases he0 : eg = 0
            · obtain ⟨f4, f5⟩ := f3 (heg.trans he0)
              rw [f4] at HW1
              rw [f5] at HW2
              subst he0
              clear f1 f2 f3 f4 f5 heg hwg hjp hj3 HO7 HRUN hsm hc1 hcd hcat hsw HC0
              go_wp2_with fail
              refine (tell_on HB HJ.out).mono ?_; rintro e w8 ⟨rfl, HB⟩
              go_wp2_with fail
              refine (tell_on HB (HP.out _)).mono ?_; rintro e w9 ⟨rfl, HB⟩
              go_wp2_with fail
              refine (tell_on HB (HW1.out _)).mono ?_; rintro e w10 ⟨rfl, HB⟩
              go_wp2_with fail
              refine (tell_on HB (HW2.out _)).mono ?_; rintro e w11 ⟨rfl, HB⟩
              go_wp2_with fail
              refine (tell_on HB (HW3.out _)).mono ?_; rintro e w12 ⟨rfl, HB⟩
              go_wp2_with fail
              go_ret
              exact ⟨rfl, HB.out⟩
            · have t9 : (eg == 0) = false := by simpa using he0
              clear f1 f2 f3 heg hwg hjp hj3 HO7 HRUN hsm hc1 hcd hcat hsw HC0
              go_wp2_with fail
              refine (tell_on HB HJ.out).mono ?_; rintro e w8 ⟨rfl, HB⟩
              go_wp2_with fail
              refine (tell_on HB (HP.out _)).mono ?_; rintro e w9 ⟨rfl, HB⟩
              go_wp2_with fail
              go_ret
              exact ⟨rfl, HB.out⟩
    · have t4 : (en == 0) = false := by simpa using hn0
      clear hez hen
      go_wp2_with fail
      go_ret
      exact ⟨rfl, HB.out⟩
  · have t3 : (ez == 0) = false := by simpa using hz0
    clear hez hen
    go_wp2_with fail
    go_ret
    exact ⟨rfl, HB.out⟩

theorem zones_any {x z : List (List UInt8)} {m : List UInt8} {vx vz : Value} {w : World} {lo hi lo' hi' : Nat} (hx : St w lo hi vx x) (hz : St w lo' hi' vz z) :
    Calls Try.prog 7 #[vx, vz, .string (bs m)] w (Tells w (.bool true)) := by
  by_cases h : 10 < x.length ∨ 10 < z.length ∨ 60 < m.length ∨ lng x = true ∨ lng z = true
  · exact zones_early hx hz h
  · simp only [not_or, Nat.not_lt, Bool.not_eq_true] at h
    exact zones_core hx hz h.1 h.2.1 h.2.2.1 h.2.2.2.1 h.2.2.2.2
end Go.Proofs.Ytibaeklpgfadpaa
