/-
  What the program writes of records and questions and what the document's own text writes: the walk.
-/
import Derived.Test.YtaikpgcmcmkdcaaQH
namespace Go.Proofs.Ytaikpgcmcmkdcaa
open Go.RowKit Go.Shelf
set_option linter.unusedVariables false
set_option linter.unusedSimpArgs false
set_option maxRecDepth 100000

theorem ar_wide {w : World} {hi hi' : Nat} {v : Value} {l : List AR} (h : Ar w hi v l) (hh : hi ≤ hi') : Ar w hi' v l := by
  obtain ⟨a, c, rfl, hx⟩ := h
  refine ⟨a, c, rfl, fun h0 => ?_⟩
  obtain ⟨b, off, e, h1, h2⟩ := hx h0
  exact ⟨b, off, e, Nat.lt_of_lt_of_le h1 hh, h2⟩

theorem askW_next {K : KK} {e : Nat} (a : Int) (n : List UInt8) (t c : Int) (hG : GoodK K) (he : e ≤ 66000) : GoodK (askW a n t c K e).K ∧ (askW a n t c K e).K.length ≤ K.length + 600 ∧ (askW a n t c K e).e ≤ 66000 := by
  unfold askW
  split
  · exact ⟨hG, by simp, he⟩
  · split
    · exact ⟨hG, by simp, he⟩
    · obtain ⟨h1, h2, h3⟩ := nameK_good (e := e) (a := a) (n := n) hG
      exact ⟨h1, by simp only; omega, by simp only; omega⟩

theorem wrT_K (T : List UInt8) (t c l : Int) (R : WR) : (wrT T t c l R).K = R.K ∧ (wrT T t c l R).e = R.e := by
  unfold wrT; split <;> exact ⟨rfl, rfl⟩

theorem wrC_next {K : KK} {e : Nat} (a : Int) (x : Rc) (hG : GoodK K) (he : e ≤ 66000) : GoodK (wrC a x K e).K ∧ (wrC a x K e).K.length ≤ K.length + 600 ∧ (wrC a x K e).e ≤ 66000 := by
  unfold wrC
  split
  · exact ⟨hG, by simp, he⟩
  · split
    · exact ⟨hG, by simp, he⟩
    · obtain ⟨h1, h2, h3⟩ := nameK_good (e := e) (a := a) (n := x.n) hG
      obtain ⟨g1, g2, g3⟩ := wrR_next (e := nameE K e a x.n) (a + (nameB K e a x.n).length + 10) x.t x.d h1 (by omega)
      rw [(wrT_K _ _ _ _ _).1, (wrT_K _ _ _ _ _).2]
      exact ⟨g1, by omega, g3⟩

set_option maxHeartbeats 8000000 in
theorem writes_longC {v : Value} {l : List AR} (w : World) (h : Ar w w.heap.size v l) (hc : longR l = true) : Calls Try.prog 4 #[v] w (Tells w (.bool true)) := by
  have HAW := Lib.hid awakeC_any
  have HN := Lib.hid new_any
  have HL := Lib.hid (fun wx (hb : Below w.heap.size w wx) => longR_any (ar_wide (h.below hb (Nat.le_refl _)) hb.size))
  rw [hc] at HL
  have HB := Lib.hid (Below.refl w.heap.size w)
  go_enter Try.func4, Try.ntmps4
  go_wp2_with fail
  refine (HN.out _).mono ?_; rintro e w2 ⟨p, bm, rfl, hp1, hb1, hpk, hb⟩
  have HB2 := Lib.hid (bel_alloc (bel_call HB.out hb) (.cells #[.slice none 0 0, .int .i64 0] 36))
  clear hb hp1 hb1 hpk HB
  go_wp2_with fail
  refine (tell_on HB2 (HL.out _ HB2.out)).mono ?_; rintro e w3 ⟨rfl, HB3⟩
  go_wp2_with fail
  refine (tell_on HB3 (HAW.out _)).mono ?_; rintro e w4 ⟨rfl, HB4⟩
  go_wp2_with fail
  go_ret
  exact ⟨rfl, HB4.out⟩

set_option maxHeartbeats 32000000 in
theorem writes_coreC {v : Value} {l : List AR} (w : World) (h : Ar w w.heap.size v l) (hc : longR l = false) : Calls Try.prog 4 #[v] w (Tells w (.bool true)) := by
  have HAW := Lib.hid awakeC_any
  have HN := Lib.hid new_any
  have HL := Lib.hid (fun wx (hb : Below w.heap.size w wx) => longR_any (ar_wide (h.below hb (Nat.le_refl _)) hb.size))
  have HNil := Lib.hid (fun wx => writeC_nil 0 ⟨#[0]⟩ 0 0 0 ⟨#[]⟩ wx)
  have HNil2 := Lib.hid (fun wx => ask_nil 0 ⟨#[0]⟩ 0 0 wx)
  rw [hc] at HL
  obtain ⟨hl40, hn3⟩ := longR_no hc
  have HN3 := Lib.hid hn3
  have HA := Lib.hid h
  obtain ⟨aa, ca, rfl, _⟩ := h
  have HB := Lib.hid (Below.refl w.heap.size w)
  clear hn3 hc
  go_enter Try.func4, Try.ntmps4
  go_wp2_with fail
  refine (HN.out _).mono ?_; rintro e w2 ⟨p, bm, rfl, hp1, hb1, hpk, hb⟩
  have hal := bel_alloc (Below.refl w2.heap.size w2) (.cells #[.slice none 0 0, .int .i64 0] 36)
  have HB2 := Lib.hid (bel_alloc (bel_call HB.out hb) (.cells #[.slice none 0 0, .int .i64 0] 36))
  have HPk2 := Lib.hid (hpk.later hal)
  have HRk2 := Lib.hid (show Rk (w2.alloc (.cells #[.slice none 0 0, .int .i64 0] 36)) (w2.heap.size + 1) w2.heap.size (.slice none 0 0) [] 0 from
    ⟨by simp [go_sem], by simp [go_sem], fun j => by simp [go_sem], OwnK.nil _ _, Nat.lt_succ_self _, by simp⟩)
  have Hne := Lib.hid (show p < w2.heap.size ∧ bm < w2.heap.size ∧ w.heap.size ≤ p ∧ w.heap.size ≤ bm ∧ w.heap.size ≤ w2.heap.size from ⟨hpk.lt, hpk.map.lt, Nat.le_trans HB.out.size hp1, Nat.le_trans HB.out.size hb1, (bel_call HB.out hb).size⟩)
  clear hb hp1 hb1 hpk hal HB
  go_wp2_with fail
  refine (HL.out _ HB2.out).mono ?_; rintro e w3 ⟨rfl, hb⟩
  have HPk0 := Lib.hid (HPk2.out.later hb)
  have HRk0 := Lib.hid (HRk2.out.later hb)
  have HB0 := Lib.hid (bel_call HB2.out hb)
  obtain ⟨q, hq⟩ : ∃ q, w2.heap.size = q := ⟨_, rfl⟩
  rw [hq] at HRk0 Hne ⊢
  clear hq HN HB2 HPk2 HRk2 hb
  go_wp2_with fail
  go_loopg [5] l.length (fun g v5 wr => ∃ (k : Nat) (K : KK) (e : Nat) (vr : Value), k + g = l.length ∧ v5 = .int .i64 k ∧ K.length ≤ 600 * k ∧ e ≤ 66000 ∧ Hid (GoodK K) ∧ Hid (Pk wr p bm K e) ∧ Hid (Rk wr (q + 1) q vr K e) ∧ Hid (Below w.heap.size w wr))
  case atStart => exact ⟨0, [], 0, _, by omega, rfl, by simp, by omega, good_nil, HPk0, HRk0, HB0⟩
  case round =>
    obtain ⟨k, K, e, vr, hk, rfl, hKl, he66, HG, HPk, HRk, HB⟩ := hrel
    clear HPk0 HRk0 HB0
    by_cases hlt : k < l.length
    · obtain ⟨a0, c0, he0, hcc⟩ := HA.out
      obtain ⟨g0, off, rfl, hg0, hcell⟩ := hcc (by omega)
      injection he0 with he1 he2 he3
      subst he1
      have h3000 := HN3.out k hlt
      have HD := Lib.hid (fun (wx : World) (hb : Below w.heap.size w wx) => (hcell k hlt).keep fun o => hb.cell (p := ⟨g0, o, none⟩) hg0)
      clear he2 he3 hcc hcell
      obtain ⟨y, hy⟩ : ∃ y, l[k] = y := ⟨_, rfl⟩
      rw [hy] at h3000 HD
      obtain ⟨⟨n, t, c, tl, d⟩, kk, rr, A⟩ := y
      simp only at h3000 HD
      obtain ⟨h3n, h3d⟩ := h3000
      clear hy
      have HP := Lib.hid (fun wx => pick_any A 20000 wx (by decide) (by decide))
      cases rr with
      | false =>
        have f1 := HRk.out.fin
        obtain ⟨⟨d0, d1, d2, d3, d4⟩, d5, d6, d7⟩ := HD.out _ HB.out
        simp only at d0 d1 d2 d3 d4 d5 d6 d7
        have hdX : Below wr.heap.size wr wr.drew := (Below.refl _ _).drew
        have HPkX := Lib.hid (HPk.out.later hdX)
        have HRkX := Lib.hid (HRk.out.later hdX)
        have HBX := Lib.hid (bel_call HB.out hdX)
        have f1D := HRkX.out.fin
        clear hdX
        go_wp2_with fail
        go_region_held3 (fun wx => wx.cell? ⟨q, 1, none⟩ = some (.int .i64 e)) (first | exact f1 | exact f1D) (first | (go_at_call 17; refine (HP.out _).mono ?_; rintro e0 w3 ⟨q0, hq0, rfl, rfl⟩))
        clear f1 f1D d0 d1 d2 d3 d4 d5 d6 d7 HPk HRk HB
        obtain ⟨W, hW⟩ : ∃ W, wr.drew = W := ⟨_, rfl⟩
        rw [hW] at HPkX HRkX HBX ⊢
        clear hW
        cases kk with
        | true =>
          have hal1 : Below W.heap.size W (W.alloc (.cells #[.string (bs n), .int .i64 t, .int .i64 c, .int .i64 tl, .string (bs d)] 23)) := bel_alloc (Below.refl _ _) _
          have hal2 : Below (W.alloc (.cells #[.string (bs n), .int .i64 t, .int .i64 c, .int .i64 tl, .string (bs d)] 23)).heap.size (W.alloc (.cells #[.string (bs n), .int .i64 t, .int .i64 c, .int .i64 tl, .string (bs d)] 23)) ((W.alloc (.cells #[.string (bs n), .int .i64 t, .int .i64 c, .int .i64 tl, .string (bs d)] 23)).alloc (.cells #[.string (bs n), .int .i64 t, .int .i64 c] 42)) := bel_alloc (Below.refl _ _) _
          have HWb := Lib.hid (show Below W.heap.size W ((W.alloc (.cells #[.string (bs n), .int .i64 t, .int .i64 c, .int .i64 tl, .string (bs d)] 23)).alloc (.cells #[.string (bs n), .int .i64 t, .int .i64 c] 42)) from bel_alloc hal1 _)
          have HB2 := Lib.hid (bel_alloc (bel_alloc HBX.out (.cells #[.string (bs n), .int .i64 t, .int .i64 c, .int .i64 tl, .string (bs d)] 23)) (.cells #[.string (bs n), .int .i64 t, .int .i64 c] 42))
          have HPk2 := Lib.hid (HPkX.out.later HWb.out)
          have HRk2 := Lib.hid (HRkX.out.later HWb.out)
          have HX2 := Lib.hid ((cel_new W (.string (bs n)) (.int .i64 t) (.int .i64 c) (.int .i64 tl) (.string (bs d)) 23).below (by simp) hal2)
          have HQ2 := Lib.hid (cel_new3 (W.alloc (.cells #[.string (bs n), .int .i64 t, .int .i64 c, .int .i64 tl, .string (bs d)] 23)) (.string (bs n)) (.int .i64 t) (.int .i64 c) 42)
          have hsx : (W.alloc (.cells #[.string (bs n), .int .i64 t, .int .i64 c, .int .i64 tl, .string (bs d)] 23)).heap.size = W.heap.size + 1 := by simp [go_sem]
          rw [hsx] at HQ2
          obtain ⟨x0, x1, x2, x3, x4⟩ := (cel_new W (.string (bs n)) (.int .i64 t) (.int .i64 c) (.int .i64 tl) (.string (bs d)) 23).five
          obtain ⟨y0, y1, y2, y3, y4⟩ := HX2.out.five
          have z0 := HQ2.out.c 0 (by simp)
          have z1 := HQ2.out.c 1 (by simp)
          have z2 := HQ2.out.c 2 (by simp)
          simp only [List.getElem_cons_zero, List.getElem_cons_succ] at z0 z1 z2
          have f5 := (HD.out _ HB2.out).2.1
          simp only at f5
          have hpl := HPkX.out.lt
          have hml := HPkX.out.map.lt
          clear hal1 hal2 hsx
          obtain ⟨⟨d0, d1, d2, d3, d4⟩, d5, d6, d7⟩ := HD.out _ HBX.out
          simp only at d0 d1 d2 d3 d4 d5 d6 d7
          go_wp2_with fail
          clear x0 x1 x2 x3 x4 y0 y1 y2 y3 y4 z0 z1 z2 f5 d0 d1 d2 d3 d4 d5 d6 d7
          obtain ⟨gx, hgx⟩ : ∃ gx, W.heap.size = gx := ⟨_, rfl⟩
          rw [hgx] at HX2 HQ2 hpl hml ⊢
          have hwr : IntKind.i64.wrap ((e : Int) + q0) = (e : Int) + q0 := IntWalk.i64_in _ (by omega)
          rw [hwr]
          obtain ⟨Y, hY⟩ : ∃ Y : Int, (e : Int) + q0 = Y := ⟨_, rfl⟩
          rw [hY]
          clear hY hwr
          have HWt := Lib.hid (askC_any HPk2.out HG.out (by omega) (by omega) Y n (by omega) t c)
          have HRt := Lib.hid (fun (wx : World) vx (h : Rk wx (q + 1) q vx K e) => rask_any h HG.out (by omega) Y n (by omega) t c)
          have hnx := askW_next Y n t c HG.out he66
          obtain ⟨X, hX⟩ : ∃ X, askW Y n t c K e = X := ⟨_, rfl⟩
          rw [hX] at HWt HRt hnx
          obtain ⟨out, cd, K', e'⟩ := X
          simp only at hnx
          unfold WrPost at HWt
          unfold RAskPost at HRt
          simp only at HWt HRt
          have HG' := Lib.hid hnx.1
          have hK2 : K'.length ≤ 600 * (k + 1) := by have := hnx.2.1; omega
          have he2 : e' ≤ 66000 := hnx.2.2
          have tcc : (cd != cd) = false := by simp
          have tkk : (((K'.length : Nat) : Int) != (K'.length : Nat)) = false := by simp
          clear hX hnx
          refine HWt.out.mono ?_; rintro e0 w4 ⟨va, rfl, hoA, hpk, has⟩
          have HB4 := Lib.hid (below_aside HB2.out has fun b hb => ⟨Nat.lt_of_lt_of_le hb HB2.out.size, by have := Hne.out; omega⟩)
          have hsz1 := HRk2.out.size
          have HRk4 := Lib.hid (HRk2.out.aside has (fun h => by have := Hne.out; omega) fun b hb h => by have := (HRk2.out.own.lt b hb).1; have := Hne.out; omega)
          have HQ4 := Lib.hid (HQ2.out.aside (by simp) has (fun h => by omega))
          have z0 := HQ4.out.c 0 (by simp)
          have z1 := HQ4.out.c 1 (by simp)
          have z2 := HQ4.out.c 2 (by simp)
          simp only [List.getElem_cons_zero, List.getElem_cons_succ] at z0 z1 z2
          have HPk4 := Lib.hid hpk
          have HO4 := Lib.hid hoA
          obtain ⟨av, cv, rfl⟩ := hoA.shape
          clear hoA hpk has HWt HPk2 HRk2 HX2 HQ2 HB2 HWb hpl hml HPkX HRkX HBX
          go_wp2_with fail
          refine (HRt.out _ _ HRk4.out).mono ?_; rintro e0 w5 ⟨vb, vy, rfl, hob, hrk, has0, hkp⟩
          have hov := HRk4.out.own.lt
          have has : Aside (fun b => b = q ∨ q + 1 ≤ b) w4 w5 := has0.mono fun b _ hh => hh.elim .inl fun hh => .inr (hov b hh).1
          have hsl := hob.sl
          obtain ⟨ab, cb, rfl⟩ := hob.shape
          clear hov has0 hob
          have HB5 := Lib.hid (below_aside HB4.out has fun b hb => ⟨Nat.lt_of_lt_of_le hb HB4.out.size, by have := Hne.out; omega⟩)
          have hne := Hne.out
          have HPk5 := Lib.hid (HPk4.out.aside has (fun h => by omega) (fun h => by omega))
          have HO5 := Lib.hid (hkp _ _ _ hsz1 HO4.out)
          have hdr : Below w5.heap.size w5 w5.drew := (Below.refl _ _).drew
          have HSm := Lib.hid (same_any (HO5.out.below hdr).sl (hsl.later hdr))
          have HKn := Lib.hid (known_any (HPk5.out.later hdr))
          have HOv := Lib.hid (over_B (HO5.out.below hdr))
          have HPkD := Lib.hid (HPk5.out.later hdr)
          have HRkD := Lib.hid (hrk.later hdr)
          have HOD := Lib.hid (HO5.out.below hdr)
          have HBD := Lib.hid (bel_call HB5.out hdr)
          obtain ⟨ay, cy, rfl⟩ := hrk.own.shape
          have k0 := hrk.row
          have HS1 := Lib.hid hsz1
          simp only [iz_len] at HSm ⊢
          clear hne hrk hdr HPk4 HO4 HRk4 HB4 HPk5 HO5 HB5 HRt hsl has hkp hsz1
          clear z0 z1 z2
          go_wp2_with fail
          have kD := HRkD.out.row
          go_region_held3 (fun wx => wx.cell? ⟨q, 0, none⟩ = some (.slice ay K'.length cy)) (first | exact k0 | exact kD) (first | (go_at_call 22; refine HSm.out.mono ?_; rintro e0 wy ⟨rfl, rfl⟩) | (go_at_call 23; refine HKn.out.mono ?_; rintro e0 wy ⟨rfl, rfl⟩))
          go_wp2_with fail
          refine HOv.out.mono ?_; rintro e0 w7 ⟨rfl, has⟩
          have hne := Hne.out
          have hq1 := HS1.out
          have HPk7 := Lib.hid (HPkD.out.aside has (fun h => by have := h.1; omega) (fun h => by have := h.1; omega))
          have HRk7 := Lib.hid (HRkD.out.aside has (fun h => by have := h.1; omega) (fun b hb h => apart_BK HOD.out HRkD.out.own b h.2 hb))
          have HB7 := Lib.hid (below_aside HBD.out has fun b hb => ⟨Nat.lt_of_lt_of_le hb HBD.out.size, fun h => by have := h.1; omega⟩)
          clear has hne hq1 k0 kD
          go_wp2_with fail
          go_roundg (l.length - (k + 1))
          case measure => omega
          case rel => exact ⟨k + 1, K', e', _, by omega, by go_num, hK2, he2, HG', HPk7, HRk7, HB7⟩
        | false =>
          have hal1 : Below W.heap.size W (W.alloc (.cells #[.string (bs n), .int .i64 t, .int .i64 c, .int .i64 tl, .string (bs d)] 23)) := bel_alloc (Below.refl _ _) _
          have hal2 : Below (W.alloc (.cells #[.string (bs n), .int .i64 t, .int .i64 c, .int .i64 tl, .string (bs d)] 23)).heap.size (W.alloc (.cells #[.string (bs n), .int .i64 t, .int .i64 c, .int .i64 tl, .string (bs d)] 23)) ((W.alloc (.cells #[.string (bs n), .int .i64 t, .int .i64 c, .int .i64 tl, .string (bs d)] 23)).alloc (.cells #[.string (bs n), .int .i64 t, .int .i64 c] 42)) := bel_alloc (Below.refl _ _) _
          have HWb := Lib.hid (show Below W.heap.size W ((W.alloc (.cells #[.string (bs n), .int .i64 t, .int .i64 c, .int .i64 tl, .string (bs d)] 23)).alloc (.cells #[.string (bs n), .int .i64 t, .int .i64 c] 42)) from bel_alloc hal1 _)
          have HB2 := Lib.hid (bel_alloc (bel_alloc HBX.out (.cells #[.string (bs n), .int .i64 t, .int .i64 c, .int .i64 tl, .string (bs d)] 23)) (.cells #[.string (bs n), .int .i64 t, .int .i64 c] 42))
          have HPk2 := Lib.hid (HPkX.out.later HWb.out)
          have HRk2 := Lib.hid (HRkX.out.later HWb.out)
          have HX2 := Lib.hid ((cel_new W (.string (bs n)) (.int .i64 t) (.int .i64 c) (.int .i64 tl) (.string (bs d)) 23).below (by simp) hal2)
          have HQ2 := Lib.hid (cel_new3 (W.alloc (.cells #[.string (bs n), .int .i64 t, .int .i64 c, .int .i64 tl, .string (bs d)] 23)) (.string (bs n)) (.int .i64 t) (.int .i64 c) 42)
          have hsx : (W.alloc (.cells #[.string (bs n), .int .i64 t, .int .i64 c, .int .i64 tl, .string (bs d)] 23)).heap.size = W.heap.size + 1 := by simp [go_sem]
          rw [hsx] at HQ2
          obtain ⟨x0, x1, x2, x3, x4⟩ := (cel_new W (.string (bs n)) (.int .i64 t) (.int .i64 c) (.int .i64 tl) (.string (bs d)) 23).five
          obtain ⟨y0, y1, y2, y3, y4⟩ := HX2.out.five
          have z0 := HQ2.out.c 0 (by simp)
          have z1 := HQ2.out.c 1 (by simp)
          have z2 := HQ2.out.c 2 (by simp)
          simp only [List.getElem_cons_zero, List.getElem_cons_succ] at z0 z1 z2
          have f5 := (HD.out _ HB2.out).2.1
          simp only at f5
          have hpl := HPkX.out.lt
          have hml := HPkX.out.map.lt
          clear hal1 hal2 hsx
          obtain ⟨⟨d0, d1, d2, d3, d4⟩, d5, d6, d7⟩ := HD.out _ HBX.out
          simp only at d0 d1 d2 d3 d4 d5 d6 d7
          go_wp2_with fail
          clear x0 x1 x2 x3 x4 y0 y1 y2 y3 y4 z0 z1 z2 f5 d0 d1 d2 d3 d4 d5 d6 d7
          obtain ⟨gx, hgx⟩ : ∃ gx, W.heap.size = gx := ⟨_, rfl⟩
          rw [hgx] at HX2 HQ2 hpl hml ⊢
          have hwr : IntKind.i64.wrap ((e : Int) + q0) = (e : Int) + q0 := IntWalk.i64_in _ (by omega)
          rw [hwr]
          obtain ⟨Y, hY⟩ : ∃ Y : Int, (e : Int) + q0 = Y := ⟨_, rfl⟩
          rw [hY]
          clear hY hwr
          have HWt := Lib.hid (writeC_any HPk2.out HG.out (by omega) (by omega) Y n t c tl d (by omega) (by omega))
          have HRt := Lib.hid (fun (wx : World) vx (h : Rk wx (q + 1) q vx K e) => rwriteC_any h HG.out (by omega) Y n t c tl d (by omega) (by omega))
          have hnx := wrC_next Y ⟨n, t, c, tl, d⟩ HG.out he66
          obtain ⟨X, hX⟩ : ∃ X, wrC Y ⟨n, t, c, tl, d⟩ K e = X := ⟨_, rfl⟩
          rw [hX] at HWt HRt hnx
          obtain ⟨out, cd, K', e'⟩ := X
          simp only at hnx
          unfold WrPost at HWt
          unfold RWrPost at HRt
          simp only at HWt HRt
          have HG' := Lib.hid hnx.1
          have hK2 : K'.length ≤ 600 * (k + 1) := by have := hnx.2.1; omega
          have he2 : e' ≤ 66000 := hnx.2.2
          have tcc : (cd != cd) = false := by simp
          have tkk : (((K'.length : Nat) : Int) != (K'.length : Nat)) = false := by simp
          clear hX hnx
          refine HWt.out.mono ?_; rintro e0 w4 ⟨va, rfl, hoA, hpk, has⟩
          have HB4 := Lib.hid (below_aside HB2.out has fun b hb => ⟨Nat.lt_of_lt_of_le hb HB2.out.size, by have := Hne.out; omega⟩)
          have hsz1 := HRk2.out.size
          have HRk4 := Lib.hid (HRk2.out.aside has (fun h => by have := Hne.out; omega) fun b hb h => by have := (HRk2.out.own.lt b hb).1; have := Hne.out; omega)
          have HX4 := Lib.hid (HX2.out.aside (by simp) has (fun h => by omega))
          obtain ⟨x0, x1, x2, x3, x4⟩ := HX4.out.five
          have HPk4 := Lib.hid hpk
          have HO4 := Lib.hid hoA
          obtain ⟨av, cv, rfl⟩ := hoA.shape
          clear hoA hpk has HWt HPk2 HRk2 HX2 HQ2 HB2 HWb hpl hml HPkX HRkX HBX
          go_wp2_with fail
          refine (HRt.out _ _ HRk4.out).mono ?_; rintro e0 w5 ⟨vb, vy, rfl, hsl, hrk, has, hkp⟩
          obtain ⟨ab, cb, hsl0⟩ : ∃ ab cb, vb = .slice ab out.length cb := by
            obtain ⟨ab, cb, h, _⟩ := hsl
            exact ⟨ab, cb, by rw [h, iz_len]⟩
          subst hsl0
          have HB5 := Lib.hid (below_aside HB4.out has fun b hb => ⟨Nat.lt_of_lt_of_le hb HB4.out.size, by have := Hne.out; omega⟩)
          have hne := Hne.out
          have HPk5 := Lib.hid (HPk4.out.aside has (fun h => by omega) (fun h => by omega))
          have HO5 := Lib.hid (hkp _ _ _ hsz1 HO4.out)
          have hdr : Below w5.heap.size w5 w5.drew := (Below.refl _ _).drew
          have HSm := Lib.hid (same_any (HO5.out.below hdr).sl (hsl.later hdr))
          have HKn := Lib.hid (known_any (HPk5.out.later hdr))
          have HOv := Lib.hid (over_B (HO5.out.below hdr))
          have HPkD := Lib.hid (HPk5.out.later hdr)
          have HRkD := Lib.hid (hrk.later hdr)
          have HOD := Lib.hid (HO5.out.below hdr)
          have HBD := Lib.hid (bel_call HB5.out hdr)
          obtain ⟨ay, cy, rfl⟩ := hrk.own.shape
          have k0 := hrk.row
          have HS1 := Lib.hid hsz1
          simp only [iz_len] at HSm ⊢
          clear hne hrk hdr HPk4 HO4 HRk4 HB4 HPk5 HO5 HB5 HRt hsl has hkp hsz1
          clear x0 x1 x2 x3 x4
          go_wp2_with fail
          have kD := HRkD.out.row
          go_region_held3 (fun wx => wx.cell? ⟨q, 0, none⟩ = some (.slice ay K'.length cy)) (first | exact k0 | exact kD) (first | (go_at_call 22; refine HSm.out.mono ?_; rintro e0 wy ⟨rfl, rfl⟩) | (go_at_call 23; refine HKn.out.mono ?_; rintro e0 wy ⟨rfl, rfl⟩))
          go_wp2_with fail
          refine HOv.out.mono ?_; rintro e0 w7 ⟨rfl, has⟩
          have hne := Hne.out
          have hq1 := HS1.out
          have HPk7 := Lib.hid (HPkD.out.aside has (fun h => by have := h.1; omega) (fun h => by have := h.1; omega))
          have HRk7 := Lib.hid (HRkD.out.aside has (fun h => by have := h.1; omega) (fun b hb h => apart_BK HOD.out HRkD.out.own b h.2 hb))
          have HB7 := Lib.hid (below_aside HBD.out has fun b hb => ⟨Nat.lt_of_lt_of_le hb HBD.out.size, fun h => by have := h.1; omega⟩)
          clear has hne hq1 k0 kD
          go_wp2_with fail
          go_roundg (l.length - (k + 1))
          case measure => omega
          case rel => exact ⟨k + 1, K', e', _, by omega, by go_num, hK2, he2, HG', HPk7, HRk7, HB7⟩
      | true =>
        have HPkX := HPk
        have HRkX := HRk
        have HBX := HB
        clear HPk HRk HB
        obtain ⟨W, hW⟩ : ∃ W, wr = W := ⟨_, rfl⟩
        rw [hW] at HPkX HRkX HBX ⊢
        clear hW
        cases kk with
        | true =>
          have hal1 : Below W.heap.size W (W.alloc (.cells #[.string (bs n), .int .i64 t, .int .i64 c, .int .i64 tl, .string (bs d)] 23)) := bel_alloc (Below.refl _ _) _
          have hal2 : Below (W.alloc (.cells #[.string (bs n), .int .i64 t, .int .i64 c, .int .i64 tl, .string (bs d)] 23)).heap.size (W.alloc (.cells #[.string (bs n), .int .i64 t, .int .i64 c, .int .i64 tl, .string (bs d)] 23)) ((W.alloc (.cells #[.string (bs n), .int .i64 t, .int .i64 c, .int .i64 tl, .string (bs d)] 23)).alloc (.cells #[.string (bs n), .int .i64 t, .int .i64 c] 42)) := bel_alloc (Below.refl _ _) _
          have HWb := Lib.hid (show Below W.heap.size W ((W.alloc (.cells #[.string (bs n), .int .i64 t, .int .i64 c, .int .i64 tl, .string (bs d)] 23)).alloc (.cells #[.string (bs n), .int .i64 t, .int .i64 c] 42)) from bel_alloc hal1 _)
          have HB2 := Lib.hid (bel_alloc (bel_alloc HBX.out (.cells #[.string (bs n), .int .i64 t, .int .i64 c, .int .i64 tl, .string (bs d)] 23)) (.cells #[.string (bs n), .int .i64 t, .int .i64 c] 42))
          have HPk2 := Lib.hid (HPkX.out.later HWb.out)
          have HRk2 := Lib.hid (HRkX.out.later HWb.out)
          have HX2 := Lib.hid ((cel_new W (.string (bs n)) (.int .i64 t) (.int .i64 c) (.int .i64 tl) (.string (bs d)) 23).below (by simp) hal2)
          have HQ2 := Lib.hid (cel_new3 (W.alloc (.cells #[.string (bs n), .int .i64 t, .int .i64 c, .int .i64 tl, .string (bs d)] 23)) (.string (bs n)) (.int .i64 t) (.int .i64 c) 42)
          have hsx : (W.alloc (.cells #[.string (bs n), .int .i64 t, .int .i64 c, .int .i64 tl, .string (bs d)] 23)).heap.size = W.heap.size + 1 := by simp [go_sem]
          rw [hsx] at HQ2
          obtain ⟨x0, x1, x2, x3, x4⟩ := (cel_new W (.string (bs n)) (.int .i64 t) (.int .i64 c) (.int .i64 tl) (.string (bs d)) 23).five
          obtain ⟨y0, y1, y2, y3, y4⟩ := HX2.out.five
          have z0 := HQ2.out.c 0 (by simp)
          have z1 := HQ2.out.c 1 (by simp)
          have z2 := HQ2.out.c 2 (by simp)
          simp only [List.getElem_cons_zero, List.getElem_cons_succ] at z0 z1 z2
          have f5 := (HD.out _ HB2.out).2.1
          simp only at f5
          have hpl := HPkX.out.lt
          have hml := HPkX.out.map.lt
          clear hal1 hal2 hsx
          obtain ⟨⟨d0, d1, d2, d3, d4⟩, d5, d6, d7⟩ := HD.out _ HBX.out
          simp only at d0 d1 d2 d3 d4 d5 d6 d7
          go_wp2_with fail
          clear x0 x1 x2 x3 x4 y0 y1 y2 y3 y4 z0 z1 z2 f5 d0 d1 d2 d3 d4 d5 d6 d7
          obtain ⟨gx, hgx⟩ : ∃ gx, W.heap.size = gx := ⟨_, rfl⟩
          rw [hgx] at HX2 HQ2 hpl hml ⊢
          have HWt := Lib.hid (askC_any HPk2.out HG.out (by omega) (by omega) A n (by omega) t c)
          have HRt := Lib.hid (fun (wx : World) vx (h : Rk wx (q + 1) q vx K e) => rask_any h HG.out (by omega) A n (by omega) t c)
          have hnx := askW_next A n t c HG.out he66
          obtain ⟨X, hX⟩ : ∃ X, askW A n t c K e = X := ⟨_, rfl⟩
          rw [hX] at HWt HRt hnx
          obtain ⟨out, cd, K', e'⟩ := X
          simp only at hnx
          unfold WrPost at HWt
          unfold RAskPost at HRt
          simp only at HWt HRt
          have HG' := Lib.hid hnx.1
          have hK2 : K'.length ≤ 600 * (k + 1) := by have := hnx.2.1; omega
          have he2 : e' ≤ 66000 := hnx.2.2
          have tcc : (cd != cd) = false := by simp
          have tkk : (((K'.length : Nat) : Int) != (K'.length : Nat)) = false := by simp
          clear hX hnx
          refine HWt.out.mono ?_; rintro e0 w4 ⟨va, rfl, hoA, hpk, has⟩
          have HB4 := Lib.hid (below_aside HB2.out has fun b hb => ⟨Nat.lt_of_lt_of_le hb HB2.out.size, by have := Hne.out; omega⟩)
          have hsz1 := HRk2.out.size
          have HRk4 := Lib.hid (HRk2.out.aside has (fun h => by have := Hne.out; omega) fun b hb h => by have := (HRk2.out.own.lt b hb).1; have := Hne.out; omega)
          have HQ4 := Lib.hid (HQ2.out.aside (by simp) has (fun h => by omega))
          have z0 := HQ4.out.c 0 (by simp)
          have z1 := HQ4.out.c 1 (by simp)
          have z2 := HQ4.out.c 2 (by simp)
          simp only [List.getElem_cons_zero, List.getElem_cons_succ] at z0 z1 z2
          have HPk4 := Lib.hid hpk
          have HO4 := Lib.hid hoA
          obtain ⟨av, cv, rfl⟩ := hoA.shape
          clear hoA hpk has HWt HPk2 HRk2 HX2 HQ2 HB2 HWb hpl hml HPkX HRkX HBX
          go_wp2_with fail
          refine (HRt.out _ _ HRk4.out).mono ?_; rintro e0 w5 ⟨vb, vy, rfl, hob, hrk, has0, hkp⟩
          have hov := HRk4.out.own.lt
          have has : Aside (fun b => b = q ∨ q + 1 ≤ b) w4 w5 := has0.mono fun b _ hh => hh.elim .inl fun hh => .inr (hov b hh).1
          have hsl := hob.sl
          obtain ⟨ab, cb, rfl⟩ := hob.shape
          clear hov has0 hob
          have HB5 := Lib.hid (below_aside HB4.out has fun b hb => ⟨Nat.lt_of_lt_of_le hb HB4.out.size, by have := Hne.out; omega⟩)
          have hne := Hne.out
          have HPk5 := Lib.hid (HPk4.out.aside has (fun h => by omega) (fun h => by omega))
          have HO5 := Lib.hid (hkp _ _ _ hsz1 HO4.out)
          have hdr : Below w5.heap.size w5 w5.drew := (Below.refl _ _).drew
          have HSm := Lib.hid (same_any (HO5.out.below hdr).sl (hsl.later hdr))
          have HKn := Lib.hid (known_any (HPk5.out.later hdr))
          have HOv := Lib.hid (over_B (HO5.out.below hdr))
          have HPkD := Lib.hid (HPk5.out.later hdr)
          have HRkD := Lib.hid (hrk.later hdr)
          have HOD := Lib.hid (HO5.out.below hdr)
          have HBD := Lib.hid (bel_call HB5.out hdr)
          obtain ⟨ay, cy, rfl⟩ := hrk.own.shape
          have k0 := hrk.row
          have HS1 := Lib.hid hsz1
          simp only [iz_len] at HSm ⊢
          clear hne hrk hdr HPk4 HO4 HRk4 HB4 HPk5 HO5 HB5 HRt hsl has hkp hsz1
          clear z0 z1 z2
          go_wp2_with fail
          have kD := HRkD.out.row
          go_region_held3 (fun wx => wx.cell? ⟨q, 0, none⟩ = some (.slice ay K'.length cy)) (first | exact k0 | exact kD) (first | (go_at_call 22; refine HSm.out.mono ?_; rintro e0 wy ⟨rfl, rfl⟩) | (go_at_call 23; refine HKn.out.mono ?_; rintro e0 wy ⟨rfl, rfl⟩))
          go_wp2_with fail
          refine HOv.out.mono ?_; rintro e0 w7 ⟨rfl, has⟩
          have hne := Hne.out
          have hq1 := HS1.out
          have HPk7 := Lib.hid (HPkD.out.aside has (fun h => by have := h.1; omega) (fun h => by have := h.1; omega))
          have HRk7 := Lib.hid (HRkD.out.aside has (fun h => by have := h.1; omega) (fun b hb h => apart_BK HOD.out HRkD.out.own b h.2 hb))
          have HB7 := Lib.hid (below_aside HBD.out has fun b hb => ⟨Nat.lt_of_lt_of_le hb HBD.out.size, fun h => by have := h.1; omega⟩)
          clear has hne hq1 k0 kD
          go_wp2_with fail
          go_roundg (l.length - (k + 1))
          case measure => omega
          case rel => exact ⟨k + 1, K', e', _, by omega, by go_num, hK2, he2, HG', HPk7, HRk7, HB7⟩
        | false =>
          have hal1 : Below W.heap.size W (W.alloc (.cells #[.string (bs n), .int .i64 t, .int .i64 c, .int .i64 tl, .string (bs d)] 23)) := bel_alloc (Below.refl _ _) _
          have hal2 : Below (W.alloc (.cells #[.string (bs n), .int .i64 t, .int .i64 c, .int .i64 tl, .string (bs d)] 23)).heap.size (W.alloc (.cells #[.string (bs n), .int .i64 t, .int .i64 c, .int .i64 tl, .string (bs d)] 23)) ((W.alloc (.cells #[.string (bs n), .int .i64 t, .int .i64 c, .int .i64 tl, .string (bs d)] 23)).alloc (.cells #[.string (bs n), .int .i64 t, .int .i64 c] 42)) := bel_alloc (Below.refl _ _) _
          have HWb := Lib.hid (show Below W.heap.size W ((W.alloc (.cells #[.string (bs n), .int .i64 t, .int .i64 c, .int .i64 tl, .string (bs d)] 23)).alloc (.cells #[.string (bs n), .int .i64 t, .int .i64 c] 42)) from bel_alloc hal1 _)
          have HB2 := Lib.hid (bel_alloc (bel_alloc HBX.out (.cells #[.string (bs n), .int .i64 t, .int .i64 c, .int .i64 tl, .string (bs d)] 23)) (.cells #[.string (bs n), .int .i64 t, .int .i64 c] 42))
          have HPk2 := Lib.hid (HPkX.out.later HWb.out)
          have HRk2 := Lib.hid (HRkX.out.later HWb.out)
          have HX2 := Lib.hid ((cel_new W (.string (bs n)) (.int .i64 t) (.int .i64 c) (.int .i64 tl) (.string (bs d)) 23).below (by simp) hal2)
          have HQ2 := Lib.hid (cel_new3 (W.alloc (.cells #[.string (bs n), .int .i64 t, .int .i64 c, .int .i64 tl, .string (bs d)] 23)) (.string (bs n)) (.int .i64 t) (.int .i64 c) 42)
          have hsx : (W.alloc (.cells #[.string (bs n), .int .i64 t, .int .i64 c, .int .i64 tl, .string (bs d)] 23)).heap.size = W.heap.size + 1 := by simp [go_sem]
          rw [hsx] at HQ2
          obtain ⟨x0, x1, x2, x3, x4⟩ := (cel_new W (.string (bs n)) (.int .i64 t) (.int .i64 c) (.int .i64 tl) (.string (bs d)) 23).five
          obtain ⟨y0, y1, y2, y3, y4⟩ := HX2.out.five
          have z0 := HQ2.out.c 0 (by simp)
          have z1 := HQ2.out.c 1 (by simp)
          have z2 := HQ2.out.c 2 (by simp)
          simp only [List.getElem_cons_zero, List.getElem_cons_succ] at z0 z1 z2
          have f5 := (HD.out _ HB2.out).2.1
          simp only at f5
          have hpl := HPkX.out.lt
          have hml := HPkX.out.map.lt
          clear hal1 hal2 hsx
          obtain ⟨⟨d0, d1, d2, d3, d4⟩, d5, d6, d7⟩ := HD.out _ HBX.out
          simp only at d0 d1 d2 d3 d4 d5 d6 d7
          go_wp2_with fail
          clear x0 x1 x2 x3 x4 y0 y1 y2 y3 y4 z0 z1 z2 f5 d0 d1 d2 d3 d4 d5 d6 d7
          obtain ⟨gx, hgx⟩ : ∃ gx, W.heap.size = gx := ⟨_, rfl⟩
          rw [hgx] at HX2 HQ2 hpl hml ⊢
          have HWt := Lib.hid (writeC_any HPk2.out HG.out (by omega) (by omega) A n t c tl d (by omega) (by omega))
          have HRt := Lib.hid (fun (wx : World) vx (h : Rk wx (q + 1) q vx K e) => rwriteC_any h HG.out (by omega) A n t c tl d (by omega) (by omega))
          have hnx := wrC_next A ⟨n, t, c, tl, d⟩ HG.out he66
          obtain ⟨X, hX⟩ : ∃ X, wrC A ⟨n, t, c, tl, d⟩ K e = X := ⟨_, rfl⟩
          rw [hX] at HWt HRt hnx
          obtain ⟨out, cd, K', e'⟩ := X
          simp only at hnx
          unfold WrPost at HWt
          unfold RWrPost at HRt
          simp only at HWt HRt
          have HG' := Lib.hid hnx.1
          have hK2 : K'.length ≤ 600 * (k + 1) := by have := hnx.2.1; omega
          have he2 : e' ≤ 66000 := hnx.2.2
          have tcc : (cd != cd) = false := by simp
          have tkk : (((K'.length : Nat) : Int) != (K'.length : Nat)) = false := by simp
          clear hX hnx
          refine HWt.out.mono ?_; rintro e0 w4 ⟨va, rfl, hoA, hpk, has⟩
          have HB4 := Lib.hid (below_aside HB2.out has fun b hb => ⟨Nat.lt_of_lt_of_le hb HB2.out.size, by have := Hne.out; omega⟩)
          have hsz1 := HRk2.out.size
          have HRk4 := Lib.hid (HRk2.out.aside has (fun h => by have := Hne.out; omega) fun b hb h => by have := (HRk2.out.own.lt b hb).1; have := Hne.out; omega)
          have HX4 := Lib.hid (HX2.out.aside (by simp) has (fun h => by omega))
          obtain ⟨x0, x1, x2, x3, x4⟩ := HX4.out.five
          have HPk4 := Lib.hid hpk
          have HO4 := Lib.hid hoA
          obtain ⟨av, cv, rfl⟩ := hoA.shape
          clear hoA hpk has HWt HPk2 HRk2 HX2 HQ2 HB2 HWb hpl hml HPkX HRkX HBX
          go_wp2_with fail
          refine (HRt.out _ _ HRk4.out).mono ?_; rintro e0 w5 ⟨vb, vy, rfl, hsl, hrk, has, hkp⟩
          obtain ⟨ab, cb, hsl0⟩ : ∃ ab cb, vb = .slice ab out.length cb := by
            obtain ⟨ab, cb, h, _⟩ := hsl
            exact ⟨ab, cb, by rw [h, iz_len]⟩
          subst hsl0
          have HB5 := Lib.hid (below_aside HB4.out has fun b hb => ⟨Nat.lt_of_lt_of_le hb HB4.out.size, by have := Hne.out; omega⟩)
          have hne := Hne.out
          have HPk5 := Lib.hid (HPk4.out.aside has (fun h => by omega) (fun h => by omega))
          have HO5 := Lib.hid (hkp _ _ _ hsz1 HO4.out)
          have hdr : Below w5.heap.size w5 w5.drew := (Below.refl _ _).drew
          have HSm := Lib.hid (same_any (HO5.out.below hdr).sl (hsl.later hdr))
          have HKn := Lib.hid (known_any (HPk5.out.later hdr))
          have HOv := Lib.hid (over_B (HO5.out.below hdr))
          have HPkD := Lib.hid (HPk5.out.later hdr)
          have HRkD := Lib.hid (hrk.later hdr)
          have HOD := Lib.hid (HO5.out.below hdr)
          have HBD := Lib.hid (bel_call HB5.out hdr)
          obtain ⟨ay, cy, rfl⟩ := hrk.own.shape
          have k0 := hrk.row
          have HS1 := Lib.hid hsz1
          simp only [iz_len] at HSm ⊢
          clear hne hrk hdr HPk4 HO4 HRk4 HB4 HPk5 HO5 HB5 HRt hsl has hkp hsz1
          clear x0 x1 x2 x3 x4
          go_wp2_with fail
          have kD := HRkD.out.row
          go_region_held3 (fun wx => wx.cell? ⟨q, 0, none⟩ = some (.slice ay K'.length cy)) (first | exact k0 | exact kD) (first | (go_at_call 22; refine HSm.out.mono ?_; rintro e0 wy ⟨rfl, rfl⟩) | (go_at_call 23; refine HKn.out.mono ?_; rintro e0 wy ⟨rfl, rfl⟩))
          go_wp2_with fail
          refine HOv.out.mono ?_; rintro e0 w7 ⟨rfl, has⟩
          have hne := Hne.out
          have hq1 := HS1.out
          have HPk7 := Lib.hid (HPkD.out.aside has (fun h => by have := h.1; omega) (fun h => by have := h.1; omega))
          have HRk7 := Lib.hid (HRkD.out.aside has (fun h => by have := h.1; omega) (fun b hb h => apart_BK HOD.out HRkD.out.own b h.2 hb))
          have HB7 := Lib.hid (below_aside HBD.out has fun b hb => ⟨Nat.lt_of_lt_of_le hb HBD.out.size, fun h => by have := h.1; omega⟩)
          clear has hne hq1 k0 kD
          go_wp2_with fail
          go_roundg (l.length - (k + 1))
          case measure => omega
          case rel => exact ⟨k + 1, K', e', _, by omega, by go_num, hK2, he2, HG', HPk7, HRk7, HB7⟩
    · have t1 : ¬ ((k : Int) < l.length) := by omega
      have hke : k = l.length := by omega
      go_wp2_with fail
      refine (tell_on HB (HNil.out _)).mono ?_; rintro e0 w3 ⟨rfl, HB3⟩
      go_wp2_with fail
      refine (tell_on HB3 (HNil2.out _)).mono ?_; rintro e0 w4 ⟨rfl, HB4⟩
      go_wp2_with fail
      refine (tell_on HB4 (HAW.out _)).mono ?_; rintro e0 w5 ⟨rfl, HB5⟩
      go_wp2_with fail
      go_ret
      exact ⟨rfl, HB5.out⟩

/-- The statement. -/
theorem writesC_any {v : Value} {l : List AR} (w : World) (h : Ar w w.heap.size v l) : Calls Try.prog 4 #[v] w (Tells w (.bool true)) := by
  by_cases hc : longR l = true
  · exact writes_longC w h hc
  · exact writes_coreC w h (by simpa using hc)
end Go.Proofs.Ytaikpgcmcmkdcaa
