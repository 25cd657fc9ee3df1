/-
  What was written and its reading: the walk.
-/
import Derived.Test.YtaikpgcmcmkdcaaQX
import Derived.Test.YtaikpgcmcmkdcaaQK
import Derived.Test.YtaikpgcmcmkdcaaBPick
namespace Go.Proofs.Ytaikpgcmcmkdcaa
open Go.RowKit Go.Shelf
set_option linter.unusedVariables false
set_option linter.unusedSimpArgs false
set_option maxRecDepth 100000

/-- What was kept lies where it was put. -/
def RdR (b : List UInt8) (R : List (AR × Nat × Nat)) : Prop := ∀ x ∈ R, ∃ i, LiesQ b x.2.1 x.1.x i ∧ (x.1.k = true → x.2.2 = i + 4) ∧ (x.1.k = false → LiesR b x.2.1 x.1.x i x.2.2) ∧ x.1.x.l ≤ 2147483647

theorem RdR.more {b : List UInt8} {R : List (AR × Nat × Nat)} (h : RdR b R) (c : List UInt8) : RdR (b ++ c) R := fun x hx => by
  obtain ⟨i, h1, h2, h3, h4⟩ := h x hx
  exact ⟨i, h1.more c, h2, fun hk => (h3 hk).more c, h4⟩

theorem Bkd.appB2 {w wr : World} {p bm B0 e : Nat} {v7 v8 v9 v10 : Value} {b : List UInt8} {q s : List Nat} {n : List AR} {K : KK} (h : Bkd w wr p bm B0 v7 v8 v9 v10 b q s n K e) {xv : Value} {l' : List UInt8} {lo hi : Nat} (hx : Sl wr lo hi xv (iz l')) (hb : b.length + l'.length ≤ 1000000) :
    ∃ a' c' w', (Builtin.append_ #[43, 43] 43 #[v7, xv]).run Try.prog wr = .ok (.slice a' (b.length + l'.length) c') w' ∧ Bkd w w' p bm B0 (.slice a' (b.length + l'.length) c') v8 v9 v10 (b ++ l') q s n K e ∧ Aside (fun x => v7.ownBlock = some x) wr w' := by
  obtain ⟨a', c', w', h1, h2, ha⟩ := run_appBs B0 v7 xv b l' h.rb hx hb h.size
  obtain ⟨r1, r2, r3⟩ := h.rest ha fun x hx => (h.rb.lt x hx).1
  exact ⟨a', c', w', h1, ⟨h2, row_aside h.rq ha fun x hx hg => row_apartB h.rb h.rq (by decide) x hg hx, row_aside h.rs ha fun x hx hg => row_apartB h.rb h.rs (by decide) x hg hx, row_aside h.ra ha fun x hx hg => row_apartB h.rb h.ra (by decide) x hg hx, h.ne, r1, r2, r3, h.hp, h.hm, h.h0⟩, ha⟩

theorem Ar.wide {w : World} {hi hi' : Nat} {v : Value} {l : List AR} (h : Ar w hi v l) (hh : hi ≤ hi') : Ar w hi' v l := by
  obtain ⟨a, c, rfl, hx⟩ := h
  refine ⟨a, c, rfl, fun h0 => ?_⟩
  obtain ⟨b, off, e, h1, h2⟩ := hx h0
  exact ⟨b, off, e, Nat.lt_of_lt_of_le h1 hh, h2⟩

set_option maxHeartbeats 8000000 in
theorem back_longR {v va : Value} {l : List AR} {bt : List UInt8} {lo hi : Nat} (w : World) (h : Ar w w.heap.size v l) (hs : Sl w lo hi va (iz bt)) (hc : longR l = true ∨ (longR l = false ∧ 100 < bt.length)) :
    Calls Try.prog 5 #[v, va] w (Tells w (.bool true)) := by
  have HAW := Lib.hid awakeC_any
  have HN := Lib.hid new_any
  have HL := Lib.hid (fun wx (hb : Below w.heap.size w wx) => longR_any ((h.below hb (Nat.le_refl _)).wide hb.size))
  obtain ⟨ad, c, rfl, _⟩ := hs
  rw [iz_len]
  have HB := Lib.hid (Below.refl w.heap.size w)
  rcases hc with hc | ⟨hc, hb⟩
  all_goals
    rw [hc] at HL
    go_enter Try.func5, Try.ntmps5
    go_wp2_with fail
    refine (tell_on HB (HAW.out _)).mono ?_; rintro e w1 ⟨rfl, HB⟩
    go_wp2_with fail
    refine (HN.out _).mono ?_; rintro e w2 ⟨p, bm, rfl, _, _, _, hbb⟩
    replace HB := Lib.hid (bel_call HB.out hbb)
    clear hbb
    go_wp2_with fail
    refine (tell_on HB (HL.out _ HB.out)).mono ?_; rintro e w3 ⟨rfl, HB⟩
    go_wp2_with fail
    go_ret
    exact ⟨rfl, HB.out⟩

set_option maxHeartbeats 16000000 in
theorem back_coreR {v va : Value} {l : List AR} {bt : List UInt8} {lo hi : Nat} (w : World) (h : Ar w w.heap.size v l) (hs : Sl w lo hi va (iz bt)) (hhi : hi ≤ w.heap.size) (hc : longR l = false) (hbt : bt.length ≤ 100) :
    Calls Try.prog 5 #[v, va] w (Tells w (.bool true)) := by
  have HAW := Lib.hid awakeC_any
  have HN := Lib.hid new_any
  have HL := Lib.hid (fun wx (hb : Below w.heap.size w wx) => longR_any ((h.below hb (Nat.le_refl _)).wide hb.size))
  rw [hc] at HL
  obtain ⟨hl40, hn3⟩ := longR_no hc
  have HN3 := Lib.hid hn3
  have HA := Lib.hid h
  have HS := Lib.hid hs
  obtain ⟨ad, c, rfl, _⟩ := hs
  obtain ⟨aa, ca, rfl, _⟩ := h
  rw [iz_len]
  simp only [iz_len] at HS
  have HB := Lib.hid (Below.refl w.heap.size w)
  have t100 : ¬ 100 < bt.length := by omega
  clear hn3 hc
  go_enter Try.func5, Try.ntmps5
  go_wp2_with fail
  refine (tell_on HB (HAW.out _)).mono ?_; rintro e w1 ⟨rfl, HB⟩
  go_wp2_with fail
  refine (HN.out _).mono ?_; rintro e w2 ⟨p, bm, rfl, hp1, hb1, hpk, hb⟩
  have HBk := Lib.hid (show Bkd w w2 p bm w2.heap.size (.slice none 0 0) (.slice none 0 0) (.slice none 0 0) (.slice none 0 0) [] [] [] [] [] 0 from ⟨OwnB.nil _ _, World.ownsRow_nil _ _ _ _, World.ownsRow_nil _ _ _ _, World.ownsRow_nil _ _ _ _, fun x hx => by simp [Value.ownBlock] at hx, hpk, bel_call HB.out hb, Nat.le_refl _, hpk.lt, hpk.map.lt, Nat.le_trans HB.out.size hp1, Nat.le_trans HB.out.size hb1⟩)
  replace HB := Lib.hid (bel_call HB.out hb)
  obtain ⟨B0, hB0⟩ : ∃ B0, w2.heap.size = B0 := ⟨_, rfl⟩
  rw [hB0] at HBk
  clear hb hp1 hb1 hpk hB0
  go_wp2_with fail
  refine (HL.out _ HB.out).mono ?_; rintro e w3 ⟨rfl, hb⟩
  replace HBk := Lib.hid (HBk.out.later hb)
  clear HB hb
  go_wp2_with fail
  go_loopg [7, 8, 9, 10, 11] l.length (fun g v7 v8 v9 v10 v11 wr => ∃ (k : Nat) (b : List UInt8) (K : KK) (e : Nat) (P : KK) (R : List (AR × Nat × Nat)), k + g = l.length ∧ v11 = .int .i64 k ∧ b.length ≤ 63500 ∧ R.length ≤ k ∧ K.length ≤ 600 * k ∧ Hid (Bkd w wr p bm B0 v7 v8 v9 v10 b (R.map (·.2.1)) (R.map (·.2.2)) (R.map (·.1)) K e) ∧ Hid (Inv b K e P) ∧ Hid (RdR b R))
  case atStart => exact ⟨0, [], [], 0, [], [], by omega, rfl, by simp, by simp, by simp, HBk, Inv.nil, fun x hx => by simp at hx⟩
  case round =>
    obtain ⟨k, b, K, e, P, R, hk, rfl, hbl, hRl, hKl, HK, HI, HR⟩ := hrel
    clear HBk
    by_cases hlt : k < l.length
    · obtain ⟨a0, c0, he0, hcc⟩ := HA.out
      obtain ⟨g0, off, rfl, hg0, hcell⟩ := hcc (by omega)
      injection he0 with he1 he2 he3
      subst he1
      have h3000 := HN3.out k hlt
      have HD := Lib.hid (fun (wx : World) (hb : Below w.heap.size w wx) => (hcell k hlt).keep fun o => hb.cell (p := ⟨g0, o, none⟩) hg0)
      clear he2 he3 hcc hcell
      obtain ⟨y, hy⟩ : ∃ y, l[k] = y := ⟨_, rfl⟩
      rw [hy] at h3000 HD
      obtain ⟨⟨n, t, c, tl, d⟩, kk, rr, A⟩ := y
      simp only at h3000 HD
      obtain ⟨h3n, h3d⟩ := h3000
      clear hy
      have HCx := Lib.hid (fun wx => checkC_any n t c tl d (by omega) (by omega) wx)
      obtain ⟨cc, hcn⟩ : ∃ cc, chkC ⟨n, t, c, tl, d⟩ = cc := ⟨_, rfl⟩
      rw [hcn] at HCx
      obtain ⟨⟨d0, d1, d2, d3, d4⟩, _⟩ := HD.out _ HK.out.bel
      simp only at d0 d1 d2 d3 d4
      have hown := HK.out.rb.lt
      obtain ⟨a7, c7, rfl⟩ := HK.out.rb.shape
      obtain ⟨gx, hgx⟩ : ∃ gx, wr.heap.size = gx := ⟨_, rfl⟩
      have HO7 := Lib.hid (show ¬ (Value.slice a7 b.length c7).ownBlock = some gx from fun h => by have := (hown gx h).2; omega)
      have hal : Below wr.heap.size wr (wr.alloc (.cells #[.string (bs n), .int .i64 t, .int .i64 c, .int .i64 tl, .string (bs d)] 23)) := (Below.refl _ _).alloc (Nat.le_refl _) _
      have HAl := Lib.hid hal
      have HX := Lib.hid (cel_new wr (.string (bs n)) (.int .i64 t) (.int .i64 c) (.int .i64 tl) (.string (bs d)) 23)
      clear hal hown
      by_cases hch : cc = 0
      · subst hch
        by_cases hbig : 60000 < b.length
        · have t60 : decide ((60000 : Int) < b.length) = true := by simp; omega
          clear hgx
          go_wp2_with fail
          refine (HCx.out _).mono ?_; rintro e0 w4 ⟨rfl, hb4⟩
          have HK2 := Lib.hid (HK.out.later (bel_call HAl.out hb4))
          clear hb4 d0 d1 d2 d3 d4
          go_wp2_with fail
          go_roundg (l.length - (k + 1))
          case measure => omega
          case rel => exact ⟨k + 1, b, K, e, P, R, by omega, by go_num, hbl, by omega, by omega, HK2, HI, HR⟩
        · have t60 : decide ((60000 : Int) < b.length) = false := by simp; omega
          have HP := Lib.hid (fun wx => pick_any A ((bt.length + 1 : Nat) : Int) wx (by omega) (by omega))
          push_cast at HP
          have HGX := Lib.hid hgx
          clear hgx
          go_wp2_with fail
          refine (HCx.out _).mono ?_; rintro e0 w4 ⟨rfl, hb4⟩
          have HK4 := Lib.hid (HK.out.later (bel_call HAl.out hb4))
          replace HX := Lib.hid (HX.out.below (by simp) hb4)
          rw [HGX.out] at HX ⊢
          clear hb4 d0 d1 d2 d3 d4 HAl
          obtain ⟨_, f5, f6, f7⟩ := HD.out _ HK4.out.bel
          simp only at f5 f6 f7
          go_wp2_with fail
          refine (HP.out _).mono ?_; rintro e0 w5 ⟨q0, hq0, rfl, rfl⟩
          obtain ⟨sv, hsv, hsl⟩ := sl_to (HS.out.below HK4.out.bel hhi) (show q0 ≤ bt.length by omega)
          have htl : (bt.take q0).length ≤ 100 := by rw [List.length_take]; omega
          obtain ⟨a5, c5, w5, hr5, hk5, has5⟩ := HK4.out.appB2 hsl (by omega)
          have HX5 := Lib.hid (HX.out.aside (by simp) has5 HO7.out)
          have HI5 := Lib.hid (HI.out.more (bt.take q0))
          have HRd5 := Lib.hid (HR.out.more (bt.take q0))
          have HL5 := Lib.hid (show (b ++ bt.take q0).length = b.length + (bt.take q0).length from List.length_append)
          obtain ⟨b1, hb1⟩ : ∃ b1, b ++ bt.take q0 = b1 := ⟨_, rfl⟩
          obtain ⟨M, hM⟩ : ∃ M, b.length + (bt.take q0).length = M := ⟨_, rfl⟩
          have hMb : M ≤ 60100 := by omega
          rw [hM] at hr5 hk5 HL5
          rw [hb1] at hk5 HI5 HL5 HRd5
          have HR5 := Lib.hid hr5
          have HK5 := Lib.hid hk5
          clear hsl htl hr5 hk5 hb1 hM f5 f6 f7 has5 HK HK4 HX HR HI
          obtain ⟨_, f5, f6, f7⟩ := HD.out _ HK5.out.bel
          simp only at f5 f6 f7
          obtain ⟨x0, x1, x2, x3, x4⟩ := HX5.out.five
          have hlI := HI5.out.last
          rw [HL5.out] at hlI
          cases kk with
          | true =>
            obtain ⟨out, K', e', P', i, hw1, hw2, hw3, hw4, hw5, hw6⟩ := ask_lies HI5.out (x := ⟨n, t, c, tl, d⟩) (chkC_ok hcn).1 (by rw [HL5.out]; omega)
            rw [HL5.out] at hw1 hw4 hw5
            simp only at hw1
            have HWt := Lib.hid (askC_any HK5.out.pk HI5.out.good (by omega) (by omega) (M : Int) n (by omega) t c)
            rw [hw1] at HWt
            unfold WrPost at HWt
            have hw7 : out.length ≤ 3265 := by omega
            have HRN := Lib.hid (show ∀ T, out.length = T → RdR (b1 ++ out) (R ++ [((⟨⟨n, t, c, tl, d⟩, true, rr, A⟩ : AR), M, M + T)]) from fun T hT y hy => by
              rcases List.mem_append.mp hy with hy | hy
              · exact HRd5.out.more out y hy
              · obtain rfl := List.mem_singleton.mp hy
                exact ⟨i, hw4, (fun _ => by show M + T = i + 4; omega), (fun h => by cases h), (chkC_ok hcn).2.2.1⟩)
            have hKl2 : K'.length ≤ 600 * (k + 1) := by omega
            obtain ⟨T, hT⟩ : ∃ T, out.length = T := ⟨_, rfl⟩
            have HI8 := Lib.hid hw3
            have HT := Lib.hid hT
            have HR8 := Lib.hid (HRN.out T hT)
            rw [hT] at hw7
            clear hw1 hw3 hw4 hw5 hT HRN HRd5
            go_wp2_with (at_builtin; refine wpList_append_run (.tmp 58) (.tmp 69) 43 43 rfl rfl rfl rfl HR5.out ?_)
            refine HWt.out.mono ?_; rintro e0 w6 ⟨vx, rfl, ho, hpk, has⟩
            have HK6 := Lib.hid (HK5.out.name has hpk)
            have HO6 := Lib.hid ho
            obtain ⟨ax, cx, rfl⟩ := ho.shape
            rw [HT.out] at HO6 ⊢
            clear ho hpk has f5 f6 f7 x0 x1 x2 x3 x4 HX5 HWt
            obtain ⟨a7', c7', w7, hr7, hk7, hx7⟩ := HK6.out.appQ M (by rw [List.length_map]; omega)
            have HR7 := Lib.hid hr7
            have HK7 := Lib.hid hk7
            have HO7b := Lib.hid (hx7 _ _ _ HO6.out)
            clear hr7 hk7 hx7
            obtain ⟨a8, c8, w8, hr8, hk8, _⟩ := HK7.out.appB2 HO7b.out.sl (by rw [HL5.out, HT.out]; omega)
            rw [HL5.out, HT.out] at hr8 hk8
            have HR9 := Lib.hid hr8
            have HK8 := Lib.hid hk8
            clear hr8 hk8
            obtain ⟨a9, c9, w9, hr9, hk9, _⟩ := HK8.out.appS (M + T) (by rw [List.length_map]; omega)
            have HR10 := Lib.hid hr9
            have HK9 := Lib.hid hk9
            clear hr9 hk9
            obtain ⟨⟨d0, d1, d2, d3, d4⟩, d5, d6, d7⟩ := HD.out _ HK9.out.bel
            simp only at d0 d1 d2 d3 d4 d5 d6 d7
            obtain ⟨a10, c10, w10, hr10, hk10, _⟩ := HK9.out.appA ⟨⟨n, t, c, tl, d⟩, true, rr, A⟩ (by rw [List.length_map]; omega)
            simp only at hr10
            have HR11 := Lib.hid hr10
            have HK10 := Lib.hid (show Bkd w w10 p bm B0 (.slice a8 (M + T) c8) (.slice a7' ((R.map (·.2.1)).length + 1) c7') (.slice a9 ((R.map (·.2.2)).length + 1) c9) (.slice a10 ((R.map (·.1)).length + 1) c10) (b1 ++ out) ((R ++ [((⟨⟨n, t, c, tl, d⟩, true, rr, A⟩ : AR), M, M + T)]).map (·.2.1)) ((R ++ [((⟨⟨n, t, c, tl, d⟩, true, rr, A⟩ : AR), M, M + T)]).map (·.2.2)) ((R ++ [((⟨⟨n, t, c, tl, d⟩, true, rr, A⟩ : AR), M, M + T)]).map (·.1)) K' e' by
              rw [List.map_append, List.map_append, List.map_append]; exact hk10)
            have HL9 := Lib.hid (show (b1 ++ out).length = M + T by rw [List.length_append, HL5.out, HT.out])
            clear hr10 hk10
            go_wp2_with (first | (at_builtin; refine wpList_append_run (.tmp 100) (.tmp 103) 52 52 rfl rfl rfl rfl HR7.out ?_) | (at_builtin; refine wpList_append_run (.tmp 105) (.tmp 106) 43 43 rfl rfl rfl rfl HR9.out ?_) | (at_builtin; refine wpList_append_run (.tmp 108) (.tmp 111) 52 52 rfl rfl rfl rfl HR10.out ?_) | (at_builtin; refine wpList_append_run (.tmp 113) (.tmp 118) 30 30 rfl rfl rfl rfl HR11.out ?_))
            go_roundg (l.length - (k + 1))
            case measure => omega
            case rel => exact ⟨k + 1, b1 ++ out, K', e', P', R ++ [((⟨⟨n, t, c, tl, d⟩, true, rr, A⟩ : AR), M, M + T)], by omega, by go_num, by rw [HL9.out]; omega, by rw [List.length_append]; simp; omega, hKl2, (by have h := HK10.out; simp only [List.length_map] at h; exact h), HI8, HR8⟩
          | false =>
            obtain ⟨out, K', e', P', i, hw1, hw7, hw3, hw4, hw5, hw6⟩ := write_lies HI5.out (x := ⟨n, t, c, tl, d⟩) hcn (by rw [HL5.out]; omega) h3d
            rw [HL5.out] at hw1 hw4 hw5
            have HWt := Lib.hid (writeC_any HK5.out.pk HI5.out.good (by omega) (by omega) (M : Int) n t c tl d (by omega) (by omega))
            rw [hw1] at HWt
            unfold WrPost at HWt
            have HRN := Lib.hid (show ∀ T, out.length = T → RdR (b1 ++ out) (R ++ [((⟨⟨n, t, c, tl, d⟩, false, rr, A⟩ : AR), M, M + T)]) from fun T hT y hy => by
              rcases List.mem_append.mp hy with hy | hy
              · exact HRd5.out.more out y hy
              · obtain rfl := List.mem_singleton.mp hy
                exact ⟨i, hw4, (fun h => by cases h), (fun _ => by show LiesR _ _ _ _ (M + T); rw [← hT]; exact hw5), (chkC_ok hcn).2.2.1⟩)
            have hKl2 : K'.length ≤ 600 * (k + 1) := by omega
            obtain ⟨T, hT⟩ : ∃ T, out.length = T := ⟨_, rfl⟩
            have HI8 := Lib.hid hw3
            have HT := Lib.hid hT
            have HR8 := Lib.hid (HRN.out T hT)
            rw [hT] at hw7
            clear hw1 hw3 hw4 hw5 hT HRN HRd5
            go_wp2_with (at_builtin; refine wpList_append_run (.tmp 58) (.tmp 69) 43 43 rfl rfl rfl rfl HR5.out ?_)
            refine HWt.out.mono ?_; rintro e0 w6 ⟨vx, rfl, ho, hpk, has⟩
            have HK6 := Lib.hid (HK5.out.name has hpk)
            have HO6 := Lib.hid ho
            obtain ⟨ax, cx, rfl⟩ := ho.shape
            rw [HT.out] at HO6 ⊢
            clear ho hpk has f5 f6 f7 x0 x1 x2 x3 x4 HX5 HWt
            obtain ⟨a7', c7', w7, hr7, hk7, hx7⟩ := HK6.out.appQ M (by rw [List.length_map]; omega)
            have HR7 := Lib.hid hr7
            have HK7 := Lib.hid hk7
            have HO7b := Lib.hid (hx7 _ _ _ HO6.out)
            clear hr7 hk7 hx7
            obtain ⟨a8, c8, w8, hr8, hk8, _⟩ := HK7.out.appB2 HO7b.out.sl (by rw [HL5.out, HT.out]; omega)
            rw [HL5.out, HT.out] at hr8 hk8
            have HR9 := Lib.hid hr8
            have HK8 := Lib.hid hk8
            clear hr8 hk8
            obtain ⟨a9, c9, w9, hr9, hk9, _⟩ := HK8.out.appS (M + T) (by rw [List.length_map]; omega)
            have HR10 := Lib.hid hr9
            have HK9 := Lib.hid hk9
            clear hr9 hk9
            obtain ⟨⟨d0, d1, d2, d3, d4⟩, d5, d6, d7⟩ := HD.out _ HK9.out.bel
            simp only at d0 d1 d2 d3 d4 d5 d6 d7
            obtain ⟨a10, c10, w10, hr10, hk10, _⟩ := HK9.out.appA ⟨⟨n, t, c, tl, d⟩, false, rr, A⟩ (by rw [List.length_map]; omega)
            simp only at hr10
            have HR11 := Lib.hid hr10
            have HK10 := Lib.hid (show Bkd w w10 p bm B0 (.slice a8 (M + T) c8) (.slice a7' ((R.map (·.2.1)).length + 1) c7') (.slice a9 ((R.map (·.2.2)).length + 1) c9) (.slice a10 ((R.map (·.1)).length + 1) c10) (b1 ++ out) ((R ++ [((⟨⟨n, t, c, tl, d⟩, false, rr, A⟩ : AR), M, M + T)]).map (·.2.1)) ((R ++ [((⟨⟨n, t, c, tl, d⟩, false, rr, A⟩ : AR), M, M + T)]).map (·.2.2)) ((R ++ [((⟨⟨n, t, c, tl, d⟩, false, rr, A⟩ : AR), M, M + T)]).map (·.1)) K' e' by
              rw [List.map_append, List.map_append, List.map_append]; exact hk10)
            have HL9 := Lib.hid (show (b1 ++ out).length = M + T by rw [List.length_append, HL5.out, HT.out])
            clear hr10 hk10
            go_wp2_with (first | (at_builtin; refine wpList_append_run (.tmp 100) (.tmp 103) 52 52 rfl rfl rfl rfl HR7.out ?_) | (at_builtin; refine wpList_append_run (.tmp 105) (.tmp 106) 43 43 rfl rfl rfl rfl HR9.out ?_) | (at_builtin; refine wpList_append_run (.tmp 108) (.tmp 111) 52 52 rfl rfl rfl rfl HR10.out ?_) | (at_builtin; refine wpList_append_run (.tmp 113) (.tmp 118) 30 30 rfl rfl rfl rfl HR11.out ?_))
            go_roundg (l.length - (k + 1))
            case measure => omega
            case rel => exact ⟨k + 1, b1 ++ out, K', e', P', R ++ [((⟨⟨n, t, c, tl, d⟩, false, rr, A⟩ : AR), M, M + T)], by omega, by go_num, by rw [HL9.out]; omega, by rw [List.length_append]; simp; omega, hKl2, (by have h := HK10.out; simp only [List.length_map] at h; exact h), HI8, HR8⟩
      · have tc : (cc != 0) = true := by simpa using hch
        clear hgx
        go_wp2_with fail
        refine (HCx.out _).mono ?_; rintro e0 w4 ⟨rfl, hb4⟩
        have HK2 := Lib.hid (HK.out.later (bel_call HAl.out hb4))
        clear hb4 d0 d1 d2 d3 d4
        go_wp2_with fail
        go_roundg (l.length - (k + 1))
        case measure => omega
        case rel => exact ⟨k + 1, b, K, e, P, R, by omega, by go_num, hbl, by omega, by omega, HK2, HI, HR⟩
    · have hke : k = l.length := by omega
      obtain ⟨a7, c7, rfl⟩ := HK.out.rb.shape
      obtain ⟨a8, c8, rfl⟩ := row_shape HK.out.rq
      obtain ⟨a9, c9, rfl⟩ := row_shape HK.out.rs
      obtain ⟨a10, c10, rfl⟩ := row_shape HK.out.ra
      simp only [List.length_map] at HK ⊢
      have t1 : ¬ ((k : Int) < l.length) := by omega
      go_wp2_with fail
      go_loopg [15] R.length (fun g v15 wy => ∃ j : Nat, j + g = R.length ∧ v15 = .int .i64 j ∧ Hid (Bkd w wy p bm B0 (.slice a7 b.length c7) (.slice a8 R.length c8) (.slice a9 R.length c9) (.slice a10 R.length c10) b (R.map (·.2.1)) (R.map (·.2.2)) (R.map (·.1)) K e))
      case atStart => exact ⟨0, by omega, rfl, HK⟩
      case round =>
        clear HK
        obtain ⟨j, hj, rfl, HK⟩ := hrel
        by_cases hjl : j < R.length
        · obtain ⟨g8, d8, e8, hc8⟩ := OwnJ.at_ HK.out.rq j (by rw [List.length_map]; exact hjl)
          obtain ⟨g9, d9, e9, hc9⟩ := OwnJ.at_ HK.out.rs j (by rw [List.length_map]; exact hjl)
          obtain ⟨g10, d10, e10, hcA⟩ := OwnA.at_ HK.out.ra j (by rw [List.length_map]; exact hjl)
          injection e8 with e8 e82 e83
          injection e9 with e9 e92 e93
          injection e10 with e10 e102 e103
          subst e8
          subst e9
          subst e10
          clear e82 e83 e92 e93 e102 e103
          rw [List.getElem_map] at hc8 hc9 hcA
          obtain ⟨i, hLQ, hLk, hLr, hltl⟩ := HR.out R[j] (List.getElem_mem hjl)
          obtain ⟨⟨⟨⟨n, t, c, tl, d⟩, kk, rr, A⟩, q, en⟩, hRj⟩ : ∃ x, R[j] = x := ⟨_, rfl⟩
          rw [hRj] at hc8 hc9 hcA hLQ hLk hLr hltl
          simp only at hc8 hc9 hcA hLQ hLk hLr hltl
          have hqv := quesV_lies hLQ
          simp only at hqv
          have HBl := Lib.hid (show b.length ≤ 300000 by omega)
          have HQr := Lib.hid (fun (wx : World) (hb : Below wr.heap.size wr wx) => question_any (w := wx) ((HK.out.later hb).rb.sl) (Nat.le_refl _) HBl.out (q : Int))
          rw [hqv] at HQr
          obtain ⟨z0, z1, z2, z3, z4⟩ := hcA.1
          obtain ⟨_, z5, _, _⟩ := hcA
          simp only at z0 z1 z2 z3 z4 z5
          have HKc := Lib.hid (fun (wx : World) (hb : Below wr.heap.size wr wx) => show wx.cell? ⟨g8, j, none⟩ = some (.int .i64 (q : Int)) ∧ wx.cell? ⟨g9, j, none⟩ = some (.int .i64 (en : Int)) ∧ wx.cell? ⟨g10, j * 8, none⟩ = some (.string (bs n)) ∧ wx.cell? ⟨g10, j * 8 + 1, none⟩ = some (.int .i64 t) ∧ wx.cell? ⟨g10, j * 8 + 2, none⟩ = some (.int .i64 c) ∧ wx.cell? ⟨g10, j * 8 + 3, none⟩ = some (.int .i64 tl) ∧ wx.cell? ⟨g10, j * 8 + 4, none⟩ = some (.string (bs d)) ∧ wx.cell? ⟨g10, j * 8 + 5, none⟩ = some (.bool kk) from ⟨cell_later hb hc8, cell_later hb hc9, cell_later hb z0, cell_later hb z1, cell_later hb z2, cell_later hb z3, cell_later hb z4, cell_later hb z5⟩)
          have HKB := Lib.hid (fun (wx : World) (hb : Below wr.heap.size wr wx) => HK.out.later hb)
          have tn : ((bs n).toList == (bs n).toList) = true := by simp
          have td : ((bs d).toList == (bs d).toList) = true := by simp
          have hal : Below wr.heap.size wr (wr.alloc (.cells #[.string (bs n), .int .i64 t, .int .i64 c, .int .i64 tl, .string (bs d)] 23)) := (Below.refl _ _).alloc (Nat.le_refl _) _
          have HBx := Lib.hid hal
          have HX := Lib.hid (cel_new wr (.string (bs n)) (.int .i64 t) (.int .i64 c) (.int .i64 tl) (.string (bs d)) 23)
          obtain ⟨lz, hlz⟩ : ∃ lz, wr.heap.size = lz := ⟨_, rfl⟩
          have l8 : g8 < wr.heap.size := World.block_lt_of_cell? wr _ hc8
          have l9 : g9 < wr.heap.size := World.block_lt_of_cell? wr _ hc9
          have l10 : g10 < wr.heap.size := World.block_lt_of_cell? wr _ z0
          clear hal hlz hqv
          cases kk with
          | true =>
            obtain rfl : en = i + 4 := hLk rfl
            clear hLQ hLk hLr hRj
            go_wp2_with fail
            refine (HQr.out _ HBx.out).mono ?_; rintro e0 w4 ⟨rfl, hb4⟩
            have HB4 := Lib.hid (bel_call HBx.out hb4)
            replace HX := Lib.hid (HX.out.below (by simp) hb4)
            have hw5 : Below w4.heap.size w4 ((w4.alloc (.cells #[.string (bs n), .int .i64 t, .int .i64 c] 42)).alloc (.cells #[.int .i64 0, .int .i64 0] 54)) := bel_alloc ((Below.refl _ _).alloc (Nat.le_refl _) _) _
            have HB5 := Lib.hid (bel_call HB4.out hw5)
            have HK2 := Lib.hid (HKB.out _ HB5.out)
            obtain ⟨r8, r9, r0, r1, r2, r3, r4, r5⟩ := HKc.out _ HB4.out
            obtain ⟨x0, x1, x2, x3, x4⟩ := HX.out.five
            have m8 : g8 < w4.heap.size := Nat.lt_of_lt_of_le l8 HB4.out.size
            have m9 : g9 < w4.heap.size := Nat.lt_of_lt_of_le l9 HB4.out.size
            have m10 : g10 < w4.heap.size := Nat.lt_of_lt_of_le l10 HB4.out.size
            have mx : wr.heap.size < w4.heap.size := World.block_lt_of_cell? w4 _ x0
            clear hb4 hw5 hc8 hc9 z0 z1 z2 z3 z4 z5 HKc HKB
            go_wp2_with fail
            go_roundg (R.length - (j + 1))
            case measure => omega
            case rel => exact ⟨j + 1, by omega, by go_num, HK2⟩
          | false =>
            have hrv := recV_lies hLQ (hLr rfl) (by omega) hltl
            simp only at hrv
            have HRr := Lib.hid (fun (wx : World) (hb : Below wr.heap.size wr wx) => readC_any (w := wx) ((HK.out.later hb).rb.sl) (Nat.le_refl _) HBl.out (q : Int))
            rw [hrv] at HRr
            clear hLQ hLk hLr hRj hrv
            go_wp2_with fail
            refine (HQr.out _ HBx.out).mono ?_; rintro e0 w4 ⟨rfl, hb4⟩
            have HB4 := Lib.hid (bel_call HBx.out hb4)
            replace HX := Lib.hid (HX.out.below (by simp) hb4)
            have hw5 : Below w4.heap.size w4 ((w4.alloc (.cells #[.string (bs n), .int .i64 t, .int .i64 c] 42)).alloc (.cells #[.int .i64 0, .int .i64 0] 54)) := bel_alloc ((Below.refl _ _).alloc (Nat.le_refl _) _) _
            have HB5 := Lib.hid (bel_call HB4.out hw5)
            have HF : Hid (Cel ((w4.alloc (.cells #[.string (bs n), .int .i64 t, .int .i64 c] 42)).alloc (.cells #[.int .i64 0, .int .i64 0] 54)) (w4.heap.size + 1) [.int .i64 0, .int .i64 0]) := ⟨fun j hj => by
              rw [← World.size_alloc w4 (.cells #[.string (bs n), .int .i64 t, .int .i64 c] 42)]
              match j, hj with
              | 0, _ => simp [go_sem]
              | 1, _ => simp [go_sem], fun j => by rw [← World.size_alloc w4 (.cells #[.string (bs n), .int .i64 t, .int .i64 c] 42)]; simp [go_sem]⟩
            obtain ⟨r8, r9, r0, r1, r2, r3, r4, r5⟩ := HKc.out _ HB4.out
            obtain ⟨x0, x1, x2, x3, x4⟩ := HX.out.five
            have m8 : g8 < w4.heap.size := Nat.lt_of_lt_of_le l8 HB4.out.size
            have m9 : g9 < w4.heap.size := Nat.lt_of_lt_of_le l9 HB4.out.size
            have m10 : g10 < w4.heap.size := Nat.lt_of_lt_of_le l10 HB4.out.size
            have mx : wr.heap.size < w4.heap.size := World.block_lt_of_cell? w4 _ x0
            have HX5 := Lib.hid (HX.out.below (by simp) hw5)
            clear hb4 hw5 hc8 hc9 z0 z1 z2 z3 z4 z5
            go_wp2_with fail
            refine (HRr.out _ HB5.out).mono ?_; rintro e0 w6 ⟨rfl, hb6⟩
            have HB6 := Lib.hid (bel_call HB5.out hb6)
            obtain ⟨y0, y1, y2, y3, y4⟩ := (HX5.out.below (by simp) hb6).five
            have hF6 := HF.out.below (by simp) hb6
            have k0 : w6.cell? ⟨w4.heap.size + 1, 0, none⟩ = some (.int .i64 0) := hF6.c 0 (by simp)
            have k1 : w6.cell? ⟨w4.heap.size + 1, 1, none⟩ = some (.int .i64 0) := hF6.c 1 (by simp)
            have kf0 := hF6.fz 0
            have kf1 := hF6.fz 1
            obtain ⟨_, s9, _, _, _, _, _, _⟩ := HKc.out _ HB6.out
            have n9 : g9 < w6.heap.size := Nat.lt_of_lt_of_le l9 HB6.out.size
            have nx : wr.heap.size < w6.heap.size := World.block_lt_of_cell? w6 _ y0
            have nf : w4.heap.size + 1 < w6.heap.size := World.block_lt_of_cell? w6 _ k0
            have ne1 : ¬ wr.heap.size = w4.heap.size + 1 := by omega
            have ne2 : ¬ g9 = w4.heap.size + 1 := by omega
            have ne3 : ¬ w4.heap.size + 1 = wr.heap.size := by omega
            have ne4 : ¬ w4.heap.size + 1 = g9 := by omega
            have ne5 : ¬ w4.heap.size + 1 = w6.heap.size := by omega
            have hle : wr.heap.size ≤ w4.heap.size + 1 := by omega
            have hbf := (HB6.out.setCell (p := ⟨w4.heap.size + 1, 0, none⟩) hle (.int .i64 0)).setCell (p := ⟨w4.heap.size + 1, 1, none⟩) hle (.int .i64 0)
            have HK2 := Lib.hid (HKB.out _ (bel_alloc hbf (.cells #[.string (bs n), .int .i64 t, .int .i64 c, .int .i64 tl, .string (bs d)] 23)))
            clear hF6 hb6 HKc HKB r8 r9 r0 r1 r2 r3 r4 r5 x0 x1 x2 x3 x4 hbf hle
            go_wp2_with fail
            go_roundg (R.length - (j + 1))
            case measure => omega
            case rel => exact ⟨j + 1, by omega, by go_num, HK2⟩
        · go_wp2_with fail
          go_ret
          exact ⟨rfl, HK.out.bel⟩

theorem back_anyR {v va : Value} {l : List AR} {bt : List UInt8} {lo hi : Nat} (w : World) (h : Ar w w.heap.size v l) (hs : Sl w lo hi va (iz bt)) (hhi : hi ≤ w.heap.size) :
    Calls Try.prog 5 #[v, va] w (Tells w (.bool true)) := by
  by_cases hc : longR l = true
  · exact back_longR w h hs (.inl hc)
  · have hc : longR l = false := by simpa using hc
    by_cases hb : 100 < bt.length
    · exact back_longR w h hs (.inr ⟨hc, hb⟩)
    · exact back_coreR w h hs hhi hc (by omega)
end Go.Proofs.Ytaikpgcmcmkdcaa
