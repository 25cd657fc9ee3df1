/-
  The statement that what is encoded is decoded, and the other way about.
-/
import Derived.Test.YtckmjpnkjnihlaaJq
import Derived.Test.YtckmjpnkjnihlaaBPick
namespace Go.Proofs.Ytckmjpnkjnihlaa
open Go.RowKit Go.Shelf
set_option linter.unusedVariables false
set_option maxRecDepth 100000

theorem bs_list (l : List UInt8) : (bs l).toList = l := ByteArray.toList_mk _

/-- Are two slices of bytes the same? -/
theorem same_no {w : World} {lo hi lo' hi' : Nat} {v v' : Value} {l l' : List UInt8} (h : Sl w lo hi v (iz l)) (h' : Sl w lo' hi' v' (iz l')) (hne : ¬ l = l') :
    Calls Try.prog 14 #[v, v'] w fun e w' => e = .returned (.bool false) ∧ w = w' := by
  have c1 := conv_sl h
  have c2 := conv_sl h'
  rw [str_iz] at c1 c2
  have ht : ((bs l).toList == (bs l').toList) = false := by
    rw [bs_list, bs_list]; simpa using hne
  clear h h'
  go_enter Try.func14, Try.ntmps14
  go_wp2
  go_ret
  exact ⟨rfl, rfl⟩

theorem sz_enc (b : List UInt8) : szN ((enc b).length : Int) = b.length ∧ szB ((enc b).length : Int) = true := by
  have hl : (enc b).length = nl b.length := enc_len b
  have h4 : ¬ ((enc b).length : Int) % 4 = 1 := by rw [hl]; unfold nl; omega
  have h0 : ¬ ((enc b).length : Int) < 0 := by omega
  have hB : szB ((enc b).length : Int) = true := by unfold szB; rw [decide_eq_false h0, decide_eq_false h4]; rfl
  refine ⟨?_, hB⟩
  unfold szN
  rw [hB, if_pos rfl, hl]
  unfold nl
  omega

theorem dec_enc_all (b : List UInt8) : decE (enc b) = 0 ∧ decB (enc b) = b := ⟨(decE_iff _).mpr (fine_enc b), dec_enc b⟩

theorem back_big {w : World} (a : Option Addr) (m c : Nat) (s : List UInt8) (p q : Int) (h : 3000 < m ∨ 3000 < s.length) :
    Calls Try.prog 4 #[.slice a m c, .string (bs s), .int .i64 p, .int .u8 q] w fun e w' => e = .returned (.bool true) ∧ Below w.heap.size w w' := by
  have HAW := Lib.hid (awake_any w)
  by_cases h1 : 3000 < m
  · go_enter Try.func4, Try.ntmps4
    go_wp2_with fail
    refine HAW.out.mono ?_; rintro e w1 ⟨rfl, hb⟩
    have HB := Lib.hid hb
    clear hb
    go_wp2_with fail
    go_ret
    exact ⟨rfl, HB.out⟩
  · have h2 : 3000 < s.length := by omega
    go_enter Try.func4, Try.ntmps4
    go_wp2_with fail
    refine HAW.out.mono ?_; rintro e w1 ⟨rfl, hb⟩
    have HB := Lib.hid hb
    clear hb
    go_wp2_with fail
    go_ret
    exact ⟨rfl, HB.out⟩

theorem cutlo_run (n : List UInt8) (j : Nat) (hj : j ≤ n.length) (w : World) : (Instr.slice 9 (.string (bs n)) none (some (.int .i64 j)) none).run Try.prog w = .ok (.string (bs (n.take j))) w := by
  rw [run_slice_string_to_if w 9 _ _ _ Try.underlying9, if_pos (by simp; omega), bs_extract]
  simp

set_option maxHeartbeats 4000000 in
theorem back_any {w : World} {v : Value} (b s : List UInt8) (p : Int) (q : UInt8) (h : Sl w 0 w.heap.size v (iz b)) (hb5 : b.length ≤ 3000) (hs5 : s.length ≤ 3000) :
    Calls Try.prog 4 #[v, .string (bs s), .int .i64 p, .int .u8 (q.toNat : Nat)] w fun e w' => e = .returned (.bool true) ∧ Below w.heap.size w w' := by
  have HAW := Lib.hid (awake_any w)
  have HX := Lib.hid h
  have HD := Lib.hid decode_any
  unfold DePost at HD
  have HE := Lib.hid (fun wx (hx : Below w.heap.size w wx) => encode_any b (h.below hx (Nat.le_refl _)) hx.size (by omega))
  obtain ⟨a, c, rfl, _⟩ := h
  rw [iz_len] at HX HE ⊢
  obtain ⟨L, hL⟩ : ∃ L, enc b = L := ⟨_, rfl⟩
  have HLb := Lib.hid hL
  have hll : L.length ≤ 10000 := by rw [← hL, enc_len]; unfold nl; omega
  obtain ⟨z1, z2⟩ := sz_enc b
  have HS := Lib.hid (fun w => size_any (L.length : Int) (by omega) (by omega) w)
  obtain ⟨d1, d2⟩ := dec_enc_all b
  rw [hL] at HE z1 z2 d1 d2
  rw [z1, z2] at HS
  clear z1 z2 hL
  go_enter Try.func4, Try.ntmps4
  go_wp2_with fail
  refine HAW.out.mono ?_; rintro e w1 ⟨rfl, hb1⟩
  have HB1 := Lib.hid hb1
  clear hb1
  go_wp2_with fail
  refine (HE.out _ HB1.out).mono ?_; rintro e w2 ⟨rfl, hb2⟩
  have HB2 := Lib.hid (bel_call HB1.out hb2)
  clear hb2
  have HD3 := HD.out L (by omega) w2
  rw [d1, d2] at HD3
  have HD3 := Lib.hid HD3
  clear d1 d2
  go_wp2_with fail
  refine HD3.out.mono ?_; rintro e w3 ⟨x, rfl, hx, hb3⟩
  have HB3 := Lib.hid (bel_alloc (bel_call HB2.out hb3) (.cells #[.int .i64 0, .int .i64 (decA L)] 26))
  obtain ⟨A, hA⟩ : ∃ A, decA L = A := ⟨_, rfl⟩
  rw [hA] at HB3 ⊢
  have b33 : Below w3.heap.size w3 (w3.alloc (.cells #[.int .i64 0, .int .i64 A] 26)) := (Below.refl _ _).alloc (Nat.le_refl _) _
  have HSM := Lib.hid (same_any (hx.below b33).sl (HX.out.below HB3.out (Nat.le_refl _)))
  clear hA b33 hx hb3
  go_wp2_with fail
  refine (HS.out _).mono ?_; rintro e w4 ⟨rfl, rfl⟩
  go_wp2_with fail
  refine HSM.out.mono ?_; rintro e w4 ⟨rfl, rfl⟩
  have HD4 := Lib.hid (HD.out s (by omega) (w3.alloc (.cells #[.int .i64 0, .int .i64 A] 26)))
  obtain ⟨w4, hw4⟩ : ∃ w4, w3.alloc (.cells #[.int .i64 0, .int .i64 A] 26) = w4 := ⟨_, rfl⟩
  rw [hw4] at HD4 HB3 ⊢
  clear hw4
  go_wp2_with fail
  by_cases hf : fineB s
  · have hd4 := HD4.out
    rw [(decE_iff s).mpr hf] at hd4
    obtain ⟨D, hD⟩ : ∃ D, decB s = D := ⟨_, rfl⟩
    have hdl : D.length ≤ 300000 := by
      have hx := enc_dec s hf
      rw [hD] at hx
      have := congrArg List.length hx
      rw [enc_len] at this
      unfold nl at this
      omega
    have HED := Lib.hid (show enc D = s by rw [← hD]; exact enc_dec s hf)
    rw [hD] at hd4
    have HD4 := Lib.hid hd4
    clear hd4 hD hf
    refine HD4.out.mono ?_; rintro e w5 ⟨y, rfl, hy, hb5'⟩
    obtain ⟨A2, hA2⟩ : ∃ A, decA s = A := ⟨_, rfl⟩
    rw [hA2]
    have HB5 := Lib.hid (bel_alloc (bel_call HB3.out hb5') (.cells #[.int .i64 0, .int .i64 A2] 26))
    have b55 : Below w5.heap.size w5 (w5.alloc (.cells #[.int .i64 0, .int .i64 A2] 26)) := (Below.refl _ _).alloc (Nat.le_refl _) _
    have hey := encode_any D ((hy.below b55).sl) (Nat.le_refl _) hdl
    rw [HED.out] at hey
    have HEY := Lib.hid hey
    clear hA2 b55 hy hb5' hey
    go_wp2_with fail
    refine HEY.out.mono ?_; rintro e w6 ⟨rfl, hb6⟩
    have HB6 := Lib.hid (bel_call HB5.out hb6)
    have g0 : w6.cell? ⟨w5.heap.size, 0, none⟩ = some (.int .i64 0) := (hb6.cell (p := ⟨w5.heap.size, 0, none⟩) (by simp)).trans (by simp [go_sem])
    clear hb6
    by_cases hL0 : L = []
    · have te : (bs L).toList.isEmpty = true := by rw [hL0, bs_list]; rfl
      clear hL0
      go_wp2_with fail
      go_ret
      exact ⟨rfl, HB6.out⟩
    · have te : (bs L).toList.isEmpty = false := by
        rw [bs_list]
        cases L
        · exact absurd rfl hL0
        · rfl
      have hl1 : 1 ≤ L.length := by
        cases L
        · exact absurd rfl hL0
        · simp
      have HP := Lib.hid (pick_any p L.length w6 (by omega) (by omega))
      go_wp2_with fail
      refine HP.out.mono ?_; rintro e w7 ⟨k, hk, rfl, rfl⟩
      have hkl : k < L.length := by omega
      have hc1 := cutlo_run L k (by omega)
      have hc2 := from_run L (k + 1) (by omega)
      rw [show ((k + 1 : Nat) : Int) = (k : Int) + 1 by push_cast; rfl] at hc2
      obtain ⟨W6, hW6⟩ : ∃ W, w6 = W := ⟨_, rfl⟩
      rw [hW6] at HB6 ⊢
      clear hW6
      go_wp2_with fail
      have hcv : ∀ wx, (∀ o, wx.cell? ⟨W6.heap.size, o, none⟩ = (W6.alloc (.cells #[.int .u8 (q.toNat : Nat)] 5)).cell? ⟨W6.heap.size, o, none⟩) → (convert 22 9 (.slice (some ⟨W6.heap.size, 0, none⟩) 1 1)).run Try.prog wx = .ok (.string (bs [q])) wx := fun wx hx => by
        have h1 := sl_laid W6 [q] (n := 1) (cs := #[.int .u8 (q.toNat : Nat)]) rfl rfl
        have h2 := conv_sl (h1.keep (w' := wx) fun b o h3 h4 => by rw [show b = W6.heap.size by omega]; exact hx o)
        rw [str_iz] at h2
        exact h2
      have hcv1 := hcv (W6.alloc (.cells #[.int .u8 (q.toNat : Nat)] 5)).drew (fun _ => rfl)
      have hcv2 := hcv (W6.drew.alloc (.cells #[.int .u8 (q.toNat : Nat)] 5)) (fun _ => rfl)
      clear hcv
      go_region
      go_wp2_with fail
      rw [bs_app, bs_app]
      obtain ⟨WX, hWX⟩ : ∃ W, (W6.alloc (.cells #[.int .u8 (q.toNat : Nat)] 5)).drew = W := ⟨_, rfl⟩
      have HBX := Lib.hid (show Below w.heap.size w WX by rw [← hWX]; exact (bel_alloc HB6.out _).drew)
      rw [hWX]
      obtain ⟨O, hO⟩ : ∃ O, L.take k ++ [q] ++ L.drop (k + 1) = O := ⟨_, rfl⟩
      have hol : O.length ≤ 10000 := by
        rw [← hO]; simp only [List.length_append, List.length_take, List.length_drop, List.length_cons, List.length_nil]; omega
      rw [hO]
      have hd := HD.out O (by omega) WX
      obtain ⟨A3, hA3⟩ : ∃ A, decA O = A := ⟨_, rfl⟩
      rw [hA3] at hd
      clear hc1 hc2 hcv1 hcv2 hWX hO hA3 hkl
      by_cases hOL : O = L
      · rw [hOL] at hd
        obtain ⟨E3, hE3⟩ : ∃ E, decE L = E := ⟨_, rfl⟩
        rw [hE3] at hd
        have HD5 := Lib.hid hd
        rw [hOL]
        clear hd hE3 hOL hol
        refine HD5.out.mono ?_; rintro e w8 ⟨z, rfl, hz, hb8⟩
        have HB8 := Lib.hid (bel_alloc (bel_call HBX.out hb8) (.cells #[.int .i64 E3, .int .i64 A3] 26))
        clear hz hb8
        go_wp2_with fail
        go_ret
        exact ⟨rfl, HB8.out⟩
      · have heq : ((bs O).toList == (bs L).toList) = false := by rw [bs_list, bs_list]; simpa using hOL
        by_cases hfo : fineB O
        · rw [(decE_iff O).mpr hfo] at hd
          have hne : ¬ decB O = b := fun e => hOL (by rw [← HLb.out, ← e]; exact (enc_dec O hfo).symm)
          obtain ⟨D3, hD3⟩ : ∃ D, decB O = D := ⟨_, rfl⟩
          rw [hD3] at hd hne
          have HD5 := Lib.hid hd
          clear hd hD3 hfo hOL
          refine HD5.out.mono ?_; rintro e w8 ⟨z, rfl, hz, hb8⟩
          have HB8 := Lib.hid (bel_alloc (bel_call HBX.out hb8) (.cells #[.int .i64 0, .int .i64 A3] 26))
          have b88 : Below w8.heap.size w8 (w8.alloc (.cells #[.int .i64 0, .int .i64 A3] 26)) := (Below.refl _ _).alloc (Nat.le_refl _) _
          have hsm := same_no (hz.below b88).sl (HX.out.below HB8.out (Nat.le_refl _)) hne
          have HSM2 := Lib.hid hsm
          clear hz hb8 b88 hsm
          go_wp2_with fail
          refine HSM2.out.mono ?_; rintro e w9 ⟨rfl, rfl⟩
          go_wp2_with fail
          go_ret
          exact ⟨rfl, HB8.out⟩
        · have hE4' : decE O = 4 := by unfold decE; rw [if_neg hfo]
          rw [hE4'] at hd
          have HD5 := Lib.hid hd
          clear hd hE4' hfo hOL
          refine HD5.out.mono ?_; rintro e w8 ⟨z, rfl, hz, hb8⟩
          have HB8 := Lib.hid (bel_alloc (bel_call HBX.out hb8) (.cells #[.int .i64 4, .int .i64 A3] 26))
          clear hz hb8
          go_wp2_with fail
          go_ret
          exact ⟨rfl, HB8.out⟩
  · have hd4 := HD4.out
    have hE4 : decE s = 4 := by unfold decE; rw [if_neg hf]
    have hD0 : decB s = [] := by unfold decB; rw [if_neg hf]
    rw [hE4, hD0] at hd4
    have HD4 := Lib.hid hd4
    have hAl := decA_le s
    clear hd4 hE4 hD0 hf
    obtain ⟨A2, hA2⟩ : ∃ A, decA s = A := ⟨_, rfl⟩
    rw [hA2] at HD4 hAl
    refine HD4.out.mono ?_; rintro e w5 ⟨y, rfl, hy, hb5'⟩
    have HB6 := Lib.hid (bel_alloc (bel_call HB3.out hb5') (.cells #[.int .i64 4, .int .i64 A2] 26))
    clear hA2 hy hb5'
    by_cases hL0 : L = []
    · have te : (bs L).toList.isEmpty = true := by rw [hL0, bs_list]; rfl
      clear hL0
      go_wp2_with fail
      go_ret
      exact ⟨rfl, HB6.out⟩
    · have te : (bs L).toList.isEmpty = false := by
        rw [bs_list]
        cases L
        · exact absurd rfl hL0
        · rfl
      have hl1 : 1 ≤ L.length := by
        cases L
        · exact absurd rfl hL0
        · simp
      have HP := Lib.hid (pick_any p L.length (w5.alloc (.cells #[.int .i64 4, .int .i64 A2] 26)) (by omega) (by omega))
      go_wp2_with fail
      refine HP.out.mono ?_; rintro e w7 ⟨k, hk, rfl, rfl⟩
      have hkl : k < L.length := by omega
      have hc1 := cutlo_run L k (by omega)
      have hc2 := from_run L (k + 1) (by omega)
      rw [show ((k + 1 : Nat) : Int) = (k : Int) + 1 by push_cast; rfl] at hc2
      obtain ⟨W6, hW6⟩ : ∃ W, (w5.alloc (.cells #[.int .i64 4, .int .i64 A2] 26)) = W := ⟨_, rfl⟩
      rw [hW6] at HB6 ⊢
      clear hW6
      go_wp2_with fail
      have hcv : ∀ wx, (∀ o, wx.cell? ⟨W6.heap.size, o, none⟩ = (W6.alloc (.cells #[.int .u8 (q.toNat : Nat)] 5)).cell? ⟨W6.heap.size, o, none⟩) → (convert 22 9 (.slice (some ⟨W6.heap.size, 0, none⟩) 1 1)).run Try.prog wx = .ok (.string (bs [q])) wx := fun wx hx => by
        have h1 := sl_laid W6 [q] (n := 1) (cs := #[.int .u8 (q.toNat : Nat)]) rfl rfl
        have h2 := conv_sl (h1.keep (w' := wx) fun b o h3 h4 => by rw [show b = W6.heap.size by omega]; exact hx o)
        rw [str_iz] at h2
        exact h2
      have hcv1 := hcv (W6.alloc (.cells #[.int .u8 (q.toNat : Nat)] 5)).drew (fun _ => rfl)
      have hcv2 := hcv (W6.drew.alloc (.cells #[.int .u8 (q.toNat : Nat)] 5)) (fun _ => rfl)
      clear hcv
      go_region
      go_wp2_with fail
      rw [bs_app, bs_app]
      obtain ⟨WX, hWX⟩ : ∃ W, (W6.alloc (.cells #[.int .u8 (q.toNat : Nat)] 5)).drew = W := ⟨_, rfl⟩
      have HBX := Lib.hid (show Below w.heap.size w WX by rw [← hWX]; exact (bel_alloc HB6.out _).drew)
      rw [hWX]
      obtain ⟨O, hO⟩ : ∃ O, L.take k ++ [q] ++ L.drop (k + 1) = O := ⟨_, rfl⟩
      have hol : O.length ≤ 10000 := by
        rw [← hO]; simp only [List.length_append, List.length_take, List.length_drop, List.length_cons, List.length_nil]; omega
      rw [hO]
      have hd := HD.out O (by omega) WX
      obtain ⟨A3, hA3⟩ : ∃ A, decA O = A := ⟨_, rfl⟩
      rw [hA3] at hd
      clear hc1 hc2 hcv1 hcv2 hWX hO hA3 hkl
      by_cases hOL : O = L
      · rw [hOL] at hd
        obtain ⟨E3, hE3⟩ : ∃ E, decE L = E := ⟨_, rfl⟩
        rw [hE3] at hd
        have HD5 := Lib.hid hd
        rw [hOL]
        clear hd hE3 hOL hol
        refine HD5.out.mono ?_; rintro e w8 ⟨z, rfl, hz, hb8⟩
        have HB8 := Lib.hid (bel_alloc (bel_call HBX.out hb8) (.cells #[.int .i64 E3, .int .i64 A3] 26))
        clear hz hb8
        go_wp2_with fail
        go_ret
        exact ⟨rfl, HB8.out⟩
      · have heq : ((bs O).toList == (bs L).toList) = false := by rw [bs_list, bs_list]; simpa using hOL
        by_cases hfo : fineB O
        · rw [(decE_iff O).mpr hfo] at hd
          have hne : ¬ decB O = b := fun e => hOL (by rw [← HLb.out, ← e]; exact (enc_dec O hfo).symm)
          obtain ⟨D3, hD3⟩ : ∃ D, decB O = D := ⟨_, rfl⟩
          rw [hD3] at hd hne
          have HD5 := Lib.hid hd
          clear hd hD3 hfo hOL
          refine HD5.out.mono ?_; rintro e w8 ⟨z, rfl, hz, hb8⟩
          have HB8 := Lib.hid (bel_alloc (bel_call HBX.out hb8) (.cells #[.int .i64 0, .int .i64 A3] 26))
          have b88 : Below w8.heap.size w8 (w8.alloc (.cells #[.int .i64 0, .int .i64 A3] 26)) := (Below.refl _ _).alloc (Nat.le_refl _) _
          have hsm := same_no (hz.below b88).sl (HX.out.below HB8.out (Nat.le_refl _)) hne
          have HSM2 := Lib.hid hsm
          clear hz hb8 b88 hsm
          go_wp2_with fail
          refine HSM2.out.mono ?_; rintro e w9 ⟨rfl, rfl⟩
          go_wp2_with fail
          go_ret
          exact ⟨rfl, HB8.out⟩
        · have hE4' : decE O = 4 := by unfold decE; rw [if_neg hfo]
          rw [hE4'] at hd
          have HD5 := Lib.hid hd
          clear hd hE4' hfo hOL
          refine HD5.out.mono ?_; rintro e w8 ⟨z, rfl, hz, hb8⟩
          have HB8 := Lib.hid (bel_alloc (bel_call HBX.out hb8) (.cells #[.int .i64 4, .int .i64 A3] 26))
          clear hz hb8
          go_wp2_with fail
          go_ret
          exact ⟨rfl, HB8.out⟩
end Go.Proofs.Ytckmjpnkjnihlaa
