/-
  The statement about names that are told and read: the walk.
-/
import Derived.Test.YthhfgbfipogppaaKv
namespace Go.Proofs.Ythhfgbfipogppaa
open Go.RowKit Go.Shelf
set_option linter.unusedVariables false

set_option maxRecDepth 100000 in
set_option maxHeartbeats 8000000 in
theorem back_core {v va : Value} {l : List AV} {bt : List UInt8} {lo hi : Nat} (w : World) (h : Ac w w.heap.size v l) (hs : Sl w lo hi va (iz bt)) (hhi : hi ≤ w.heap.size) (hc : longA l = false) (hbt : bt.length ≤ 1000) :
    Calls Try.prog 5 #[v, va] w (Tells w (.bool true)) := by
  have HAW := Lib.hid awake_any
  have HN := Lib.hid new_any
  have HL := Lib.hid (fun wx (hb : Below w.heap.size w wx) => long_any (h.below hb (Nat.le_refl _)))
  rw [hc] at HL
  obtain ⟨hl60, hn400⟩ := longA_no hc
  have HN4 := Lib.hid hn400
  have HA := Lib.hid h
  have HS := Lib.hid hs
  obtain ⟨ad, c, rfl, _⟩ := hs
  obtain ⟨aa, ca, rfl, _⟩ := h
  rw [iz_len]
  simp only [iz_len] at HS
  have HB := Lib.hid (Below.refl w.heap.size w)
  have t1000 : ¬ 1000 < bt.length := by omega
  clear hn400 hc
  go_enter Try.func5, Try.ntmps5
  go_wp2_with fail
  refine (tell_on HB (HAW.out _)).mono ?_; rintro e w1 ⟨rfl, HB⟩
  go_wp2_with fail
  refine (HN.out _).mono ?_; rintro e w2 ⟨p, bm, rfl, hp1, hb1, hpk, hb⟩
  have HBk := Lib.hid (show Bk w w2 p bm w2.heap.size (.slice none 0 0) (.slice none 0 0) (.slice none 0 0) [] [] [] [] 0 from ⟨OwnB.nil _ _, OwnI.nil _ _, OwnT.nil _ _, hpk, bel_call HB.out hb, Nat.le_refl _, hpk.lt, hpk.map.lt, Nat.le_trans HB.out.size hp1, Nat.le_trans HB.out.size hb1⟩)
  replace HB := Lib.hid (bel_call HB.out hb)
  obtain ⟨B0, hB0⟩ : ∃ B0, w2.heap.size = B0 := ⟨_, rfl⟩
  rw [hB0] at HBk
  clear hb hp1 hb1 hpk hB0
  go_wp2_with fail
  refine (HL.out _ HB.out).mono ?_; rintro e w3 ⟨rfl, rfl⟩
  clear HB
  go_wp2_with fail
  go_loopg [7, 8, 9, 10] l.length (fun g v7 v8 v9 v10 wr => ∃ (k : Nat) (b : List UInt8) (K : List (List UInt8 × Nat)) (e : Nat) (P : List (List UInt8 × Nat)), k + g = l.length ∧ v10 = .int .i64 k ∧ b.length ≤ 1400 * k ∧ P.length ≤ k ∧ K.length ≤ 127 * k ∧ Hid (Bk w wr p bm B0 v7 v8 v9 b (P.map (·.2)) (P.map (·.1)) K e) ∧ Hid (Inv b K e P))
  case atStart => exact ⟨0, [], [], 0, [], by omega, rfl, by simp, by simp, by simp, HBk, Inv.nil⟩
  case round =>
    obtain ⟨k, b, K, e, P, hk, rfl, hbl, hPl, hKl, HK, HI⟩ := hrel
    clear HBk
    by_cases hlt : k < l.length
    · obtain ⟨a0, c0, he0, hcc⟩ := HA.out
      obtain ⟨g0, off, rfl, hg0, hcell⟩ := hcc (by omega)
      injection he0 with he1 he2 he3
      subst he1
      have h400 := HN4.out k hlt
      have HD := Lib.hid (fun (wx : World) (hb : Below w.heap.size w wx) => show wx.cell? ⟨g0, off + k * 3, none⟩ = some (.string (bs l[k].1)) ∧ wx.cell? ⟨g0, off + k * 3 + 1, none⟩ = some (.int .i64 l[k].2.1) from
        ⟨(hb.cell (p := ⟨g0, _, none⟩) hg0).trans (hcell k hlt).1, (hb.cell (p := ⟨g0, _, none⟩) hg0).trans (hcell k hlt).2.1⟩)
      clear he2 he3 hcc hcell
      obtain ⟨N, hN⟩ : ∃ N, l[k].1 = N := ⟨_, rfl⟩
      obtain ⟨A, hA⟩ : ∃ A, l[k].2.1 = A := ⟨_, rfl⟩
      rw [hN] at h400 HD
      rw [hA] at HD
      clear hN hA
      obtain ⟨d0, d1⟩ := HD.out _ HK.out.bel
      have HC := Lib.hid (fun wx => check_any N (by omega) wx)
      by_cases hch : chk N = 0
      · obtain ⟨hsh, hnm⟩ := shorts_of hch
        replace hnm : N = nm (labs N) := hnm
        obtain ⟨ls, hls⟩ : ∃ ls, labs N = ls := ⟨_, rfl⟩
        rw [hls] at hsh hnm
        rw [hch] at HC
        have HSh := Lib.hid hsh
        have HNm := Lib.hid hnm
        have HP := Lib.hid (fun wx => pick_any A ((bt.length + 1 : Nat) : Int) wx (by omega) (by omega))
        push_cast at HP
        clear hch hls hsh hnm
        go_wp2_with fail
        refine (HC.out _).mono ?_; rintro e0 w4 ⟨rfl, hb⟩
        have HK4 := Lib.hid (HK.out.later hb)
        clear hb
        obtain ⟨f0, f1⟩ := HD.out _ HK4.out.bel
        clear d0 d1
        go_wp2_with fail
        refine (HP.out _).mono ?_; rintro e0 w5 ⟨q0, hq0, rfl, rfl⟩
        obtain ⟨sv, hsv, hsl⟩ := sl_to (HS.out.below HK4.out.bel hhi) (show q0 ≤ bt.length by omega)
        have htl : (bt.take q0).length ≤ 1000 := by rw [List.length_take]; omega
        obtain ⟨a5, c5, w5, hr5, hk5⟩ := HK4.out.appB hsl (by omega)
        have HI5 := Lib.hid (HI.out.more (bt.take q0))
        have HL5 := Lib.hid (show (b ++ bt.take q0).length = b.length + (bt.take q0).length from List.length_append)
        obtain ⟨b1, hb1⟩ : ∃ b1, b ++ bt.take q0 = b1 := ⟨_, rfl⟩
        obtain ⟨M, hM⟩ : ∃ M, b.length + (bt.take q0).length = M := ⟨_, rfl⟩
        have hMb : M ≤ 1400 * k + 1000 := by omega
        rw [hM] at hr5 hk5 HL5
        rw [hb1] at hk5 HI5 HL5
        have HR5 := Lib.hid hr5
        have HK5 := Lib.hid hk5
        clear hsl htl hr5 hk5 hb1 hM f0 f1
        obtain ⟨f0, f1⟩ := HD.out _ HK5.out.bel
        go_wp2_with (at_builtin; refine wpList_append_run (.tmp 48) (.tmp 59) 22 22 rfl rfl rfl rfl HR5.out ?_)
        by_cases hbig : 65535 < M
        · have HNm5 := Lib.hid (name_any HK5.out.pk HI5.out.good (by omega) (by have := HI5.out.last; have := HL5.out; omega) M N (by omega))
          have hE : pkE e M N = 2 := by
            unfold pkE
            have : chk N = 0 := by rw [HNm.out]; exact chk_nm HSh.out
            rw [if_neg (fun h => h this), if_pos (by omega)]
          unfold NamePost at HNm5
          rw [hE] at HNm5
          clear hE
          refine HNm5.out.mono ?_; rintro e0 w6 ⟨vx, rfl, _, hpk, has⟩
          have HK6 := Lib.hid (HK5.out.name has hpk)
          clear has hpk HNm5 f0 f1
          go_wp2_with fail
          go_ret
          exact ⟨rfl, HK6.out.bel⟩
        · have HNm5 := Lib.hid (name_told HK5.out.pk HI5.out.good (by omega) HSh.out M (by have := HI5.out.last; have := HL5.out; omega) (by omega))
          rw [← HNm.out] at HNm5
          have HT := Lib.hid (told_le HI5.out.good HSh.out)
          rw [← HNm.out] at HT
          have HT0 := Lib.hid (told_pos K ls)
          have HI8 := Lib.hid (HI5.out.tell HSh.out)
          rw [HL5.out, ← HNm.out] at HI8
          have HKl := Lib.hid (show (K ++ fr M ls (hdn K ls)).length ≤ 127 * (k + 1) by
            rw [List.length_append]
            have h1 := fr_len ls M (hdn K ls)
            have h2 := hdn_le K ls
            have h3 := len_wire2 HSh.out.1
            have h4 := HSh.out.2
            omega)
          obtain ⟨TD, hTD⟩ : ∃ TD, told K ls = TD := ⟨_, rfl⟩
          obtain ⟨K', hK'⟩ : ∃ K', K ++ fr M ls (hdn K ls) = K' := ⟨_, rfl⟩
          rw [hTD] at HNm5 HT HT0 HI8
          rw [hK'] at HNm5 HI8 HKl
          clear hTD hK'
          refine HNm5.out.mono ?_; rintro e0 w6 ⟨vx, rfl, ho, hpk, has⟩
          obtain ⟨ax, cx, rfl⟩ := ho.shape
          have HO6 := Lib.hid ho
          have HK6 := Lib.hid (HK5.out.name has hpk)
          have HTL := Lib.hid (show TD.length = TD.length from rfl)
          obtain ⟨T, hT⟩ : ∃ T, TD.length = T := ⟨_, rfl⟩
          rw [hT] at HT HT0 HI8 HO6 HK6 ⊢
          have HTe := Lib.hid hT
          have hT1 := HT.out
          have hT0 := HT0.out
          have u1 : ¬ N.length < T := by omega
          have u2 : ((T : Int) == 0) = false := by simp; omega
          clear ho has hpk HNm5 f0 f1 hT
          obtain ⟨f0, f1⟩ := HD.out _ HK6.out.bel
          obtain ⟨a7, c7, w7, hr7, hk7, hx7⟩ := HK6.out.appI M (by rw [List.length_map]; omega)
          have HR7 := Lib.hid hr7
          have HK7 := Lib.hid hk7
          have HO7 := Lib.hid (hx7 _ _ _ HO6.out)
          clear hr7 hk7 hx7
          obtain ⟨i0, i1⟩ := HD.out _ HK7.out.bel
          obtain ⟨a8, c8, w8, hr8, hk8, hx8⟩ := HK7.out.appT N (by rw [List.length_map]; omega)
          have HR8 := Lib.hid hr8
          have HK8 := Lib.hid hk8
          have HO8 := Lib.hid (hx8 _ _ _ HO7.out)
          clear hr8 hk8 hx8
          obtain ⟨a9, c9, w9, hr9, hk9⟩ := HK8.out.appB HO8.out.sl (by rw [HL5.out, HTe.out]; omega)
          rw [HL5.out, HTe.out] at hr9 hk9
          have HR9 := Lib.hid hr9
          have HK9 := Lib.hid (show Bk w w9 p bm B0 (.slice a9 (M + T) c9) (.slice a7 ((P.map (·.2)).length + 1) c7) (.slice a8 ((P.map (·.1)).length + 1) c8) (b1 ++ TD) ((P ++ [(N, M)]).map (·.2)) ((P ++ [(N, M)]).map (·.1)) K' (M + T) by
            rw [List.map_append, List.map_append]; exact hk9)
          have HL9 := Lib.hid (show (b1 ++ TD).length = M + T by rw [List.length_append, HL5.out, HTe.out])
          clear hr9 hk9
          go_wp2_with (first | (at_builtin; refine wpList_append_run (.tmp 99) (.tmp 102) 47 47 rfl rfl rfl rfl HR7.out ?_) | (at_builtin; refine wpList_append_run (.tmp 104) (.tmp 110) 48 48 rfl rfl rfl rfl HR8.out ?_) | (at_builtin; refine wpList_append_run (.tmp 112) (.tmp 113) 22 22 rfl rfl rfl rfl HR9.out ?_))
          go_roundg (l.length - (k + 1))
          case measure => omega
          case rel => exact ⟨k + 1, b1 ++ TD, K', M + T, P ++ [(N, M)], by omega, by go_num, by rw [HL9.out]; omega, by rw [List.length_append]; simp; omega, HKl.out, (by have h := HK9.out; simp only [List.length_map] at h; exact h), HI8⟩
      · obtain ⟨cc, hcn⟩ : ∃ cc, chk N = cc := ⟨_, rfl⟩
        rw [hcn] at HC hch
        have tc : (cc != 0) = true := by simpa using hch
        clear hcn
        go_wp2_with fail
        refine (HC.out _).mono ?_; rintro e0 w4 ⟨rfl, hb⟩
        have HK2 := Lib.hid (HK.out.later hb)
        clear hb
        go_wp2_with fail
        go_roundg (l.length - (k + 1))
        case measure => omega
        case rel => exact ⟨k + 1, b, K, e, P, by omega, by go_num, by omega, by omega, by omega, HK2, HI⟩
    · have hke : k = l.length := by omega
      obtain ⟨a7, c7, rfl⟩ := HK.out.rb.shape
      obtain ⟨a8, c8, rfl⟩ := HK.out.ri.shape
      obtain ⟨a9, c9, rfl⟩ := OwnT.shape HK.out.rt
      simp only [List.length_map] at HK ⊢
      have t1 : ¬ ((k : Int) < l.length) := by omega
      go_wp2
      go_loopg [13] P.length (fun g v13 wy => ∃ j : Nat, j + g = P.length ∧ v13 = .int .i64 j ∧ Hid (Bk w wy p bm B0 (.slice a7 b.length c7) (.slice a8 P.length c8) (.slice a9 P.length c9) b (P.map (·.2)) (P.map (·.1)) K e))
      case atStart => exact ⟨0, by omega, rfl, HK⟩
      case round =>
        clear HK
        obtain ⟨j, hj, rfl, HK⟩ := hrel
        by_cases hjl : j < P.length
        · obtain ⟨g8, d8, e8, hc8⟩ := HK.out.ri.at_ j (by rw [List.length_map]; exact hjl)
          obtain ⟨g9, d9, e9, hc9⟩ := OwnT.at_ HK.out.rt j (by rw [List.length_map]; exact hjl)
          injection e8 with e8 e82 e83
          injection e9 with e9 e92 e93
          subst e8
          subst e9
          clear e82 e83 e92 e93
          rw [List.getElem_map] at hc8 hc9
          have HKr := HK.out
          obtain ⟨nx, hr, h1, h2⟩ := HI.out.read (n := P[j].1) (q := P[j].2) (List.getElem_mem hjl)
          obtain ⟨N, hN⟩ : ∃ N, P[j].1 = N := ⟨_, rfl⟩
          obtain ⟨q, hq⟩ : ∃ q, P[j].2 = q := ⟨_, rfl⟩
          rw [hN] at hr hc9
          rw [hq] at hr hc8 h1
          have HRd := Lib.hid (read_any HKr.rb.sl (Nat.le_refl _) (by omega) q)
          rw [hr] at HRd
          simp only [gotV] at HRd
          have ht : ((bs N).toList == (bs N).toList) = true := by simp
          have u1 : ¬ nx ≤ q := by omega
          have u2 : ¬ b.length < nx := by omega
          clear hr h1 h2 hN hq HKr
          go_wp2_with fail
          refine HRd.out.mono ?_; rintro e0 w4 ⟨rfl, hb⟩
          have hb2 := hb.alloc hb.size (.cells #[.int .i64 0, .int .i64 0] 26)
          have HK2 := Lib.hid (HK.out.later hb2)
          have k8 := cell_later hb hc8
          have k9 := cell_later hb hc9
          have n8 := World.block_lt_of_cell? w4 _ k8
          have n9 := World.block_lt_of_cell? w4 _ k9
          clear hb hb2 hc8 hc9
          go_wp2_with fail
          go_roundg (P.length - (j + 1))
          case measure => omega
          case rel => exact ⟨j + 1, by omega, by go_num, HK2⟩
        · go_wp2_with fail
          go_ret
          exact ⟨rfl, HK.out.bel⟩

/-- The statement. -/
theorem back_any {v va : Value} {l : List AV} {bt : List UInt8} {lo hi : Nat} (w : World) (h : Ac w w.heap.size v l) (hs : Sl w lo hi va (iz bt)) (hhi : hi ≤ w.heap.size) :
    Calls Try.prog 5 #[v, va] w (Tells w (.bool true)) := by
  by_cases hc : longA l = true
  · exact back_long w h hs (.inl hc)
  · have hc : longA l = false := by simpa using hc
    by_cases hb : 1000 < bt.length
    · exact back_long w h hs (.inr ⟨hc, hb⟩)
    · exact back_core w h hs hhi hc (by omega)
end Go.Proofs.Ythhfgbfipogppaa
