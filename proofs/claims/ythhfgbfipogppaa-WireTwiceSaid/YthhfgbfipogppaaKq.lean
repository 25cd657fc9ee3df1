/-
  The statement about names that are told twice.
-/
import Derived.Test.YthhfgbfipogppaaKp
import Derived.Test.YthhfgbfipogppaaTe
import Derived.Test.YthhfgbfipogppaaTp
import Derived.Outline
namespace Go.Proofs.Ythhfgbfipogppaa
open Go.RowKit Go.Shelf
set_option linter.unusedVariables false

theorem conv_own {w : World} {B : Nat} {v : Value} {l : List UInt8} (h : OwnB w B v l) : (convert 22 9 v).run Try.prog w = .ok (.string (bs l)) w := by
  rw [conv_sl h.sl, str_iz]

set_option maxRecDepth 100000 in
set_option maxHeartbeats 4000000 in
theorem twice_bad (n : List UInt8) (hn : n.length ≤ 4000000000000000000) (hc : chk n ≠ 0) (a : Int) (w : World) : Calls Try.prog 7 #[.string (bs n), .int .i64 a] w (Tells w (.bool true)) := by
  have HAW := Lib.hid awake_any
  have HN := Lib.hid new_any
  have HC := Lib.hid (fun w => check_any n hn w)
  have HB := Lib.hid (Below.refl w.heap.size w)
  obtain ⟨c, hcc⟩ : ∃ c, chk n = c := ⟨_, rfl⟩
  rw [hcc] at HC hc
  have tc : (c != 0) = true := by simpa using hc
  clear hcc
  go_enter Try.func7, Try.ntmps7
  go_wp2_with fail
  refine (tell_on HB (HAW.out _)).mono ?_; rintro e w1 ⟨rfl, HB⟩
  go_wp2_with fail
  refine (HN.out _).mono ?_; rintro e w2 ⟨p, bm, rfl, _, _, _, hb⟩
  replace HB := Lib.hid (bel_call HB.out hb)
  clear hb
  go_wp2_with fail
  refine (tell_on HB (HC.out _)).mono ?_; rintro e w3 ⟨rfl, HB⟩
  go_wp2_with fail
  go_ret
  exact ⟨rfl, HB.out⟩

set_option maxRecDepth 100000 in
set_option maxHeartbeats 4000000 in
theorem twice_fine (ls : List (List UInt8)) (hs : Shorts ls) (a : Int) (w : World) : Calls Try.prog 7 #[.string (bs (nm ls)), .int .i64 a] w (Tells w (.bool true)) := by
  have HAW := Lib.hid awake_any
  have HN := Lib.hid new_any
  have hnl : (nm ls).length ≤ 255 := by rw [nm_len]; have := hs.2; omega
  have hwl := hs.2
  have hl2 := len_wire2 hs.1
  have HC := Lib.hid (fun w => check_any (nm ls) (by omega) w)
  rw [chk_nm hs] at HC
  have HCt := Lib.hid (fun w => count_any (nm ls) (by omega) w)
  rw [show cnt (nm ls) = ls.length by unfold cnt; rw [if_pos (chk_nm hs), labs_nm hs]] at HCt
  have HP := Lib.hid (fun w => pick_any a 16001 w (by decide) (by decide))
  have HB := Lib.hid (Below.refl w.heap.size w)
  have HF := Lib.hid (fun (k : Nat) (hk : k < 16001) => fr_all (ls := ls) (a := k) (by omega) ls.length (Nat.le_refl _))
  go_enter Try.func7, Try.ntmps7
  go_wp2_with fail
  refine (tell_on HB (HAW.out _)).mono ?_; rintro e w1 ⟨rfl, HB⟩
  go_wp2_with fail
  refine (HN.out _).mono ?_; rintro e w2 ⟨p, bm, rfl, hp1, hb1, hpk, hb⟩
  have HPk := Lib.hid hpk
  have hpb := Lib.hid (show w.heap.size ≤ p ∧ w.heap.size ≤ bm from ⟨Nat.le_trans HB.out.size hp1, Nat.le_trans HB.out.size hb1⟩)
  replace HB := Lib.hid (bel_call HB.out hb)
  clear hb hp1 hb1 hpk
  go_wp2_with fail
  refine (HC.out _).mono ?_; rintro e w3 ⟨rfl, hb⟩
  replace HPk := Lib.hid (HPk.out.later hb)
  replace HB := Lib.hid (bel_call HB.out hb)
  clear hb
  go_wp2_with fail
  refine (HP.out _).mono ?_; rintro e w4 ⟨k, hk, rfl, rfl⟩
  have hkk : k < 16001 := by omega
  obtain ⟨hf1, hf2⟩ := HF.out k hkk
  have HN1 := Lib.hid (name_told HPk.out good_nil (by simp) hs k (Nat.zero_le _) (by omega))
  rw [told_nil, hdn_nil, List.nil_append] at HN1
  have HF2 := Lib.hid hf2
  obtain ⟨K, hKe⟩ : ∃ K, fr k ls ls.length = K := ⟨_, rfl⟩
  have HGK := Lib.hid (show GoodK K by rw [← hKe]; have := good_fr good_nil hs k (Nat.le_refl ls.length); rwa [List.nil_append] at this)
  rw [hKe] at HN1 HF2 hf1
  clear hf2 hKe
  go_wp2_with fail
  refine HN1.out.mono ?_; rintro e w5 ⟨va, rfl, ho, hpk, has⟩
  have HOa := Lib.hid ho
  have HPk2 := Lib.hid hpk
  have HB5 := Lib.hid (below_aside HB.out has fun b hb => ⟨Nat.lt_of_lt_of_le hb HB.out.size, by have := hpb.out; omega⟩)
  have hlt := Lib.hid (show p < w3.heap.size ∧ bm < w3.heap.size from ⟨HPk.out.lt, HPk.out.map.lt⟩)
  obtain ⟨aa, ca, rfl⟩ := ho.shape
  obtain ⟨cap, W, hcv, ho1, hb1, _⟩ := conv_B w5 (nm ls) (by omega)
  have HSm := Lib.hid (same_any (HOa.out.below hb1).sl ho1.sl)
  have HKn := Lib.hid (known_any (HPk2.out.later hb1))
  rw [hf1] at HKn
  have HKL := Lib.hid hf1
  have HOW := Lib.hid (HOa.out.below hb1)
  have HPW := Lib.hid (HPk2.out.later hb1)
  have HBW := Lib.hid (bel_call HB5.out hb1)
  obtain ⟨L, hL⟩ : ∃ L, ls.length = L := ⟨_, rfl⟩
  obtain ⟨M, hM⟩ : ∃ M, (nm ls).length = M := ⟨_, rfl⟩
  rw [hL] at HKn HCt
  have HLe := Lib.hid hL
  have HMe := Lib.hid hM
  have hL2 : L ≤ 127 := by omega
  have hM2 : M ≤ 255 := by omega
  rw [hM] at hcv HOW HSm ⊢
  clear ho hpk has ho1 hb1 hf1 hL hM hl2 hnl hwl HOa HPk HB5 HB
  go_wp2_with fail
  refine HSm.out.mono ?_; rintro e w6 ⟨rfl, rfl⟩
  go_wp2_with fail
  refine HKn.out.mono ?_; rintro e w7 ⟨rfl, rfl⟩
  go_wp2_with fail
  refine (HCt.out _).mono ?_; rintro e w8 ⟨rfl, hb⟩
  have HO8 := Lib.hid (HOW.out.below hb)
  have HP8 := Lib.hid (HPW.out.later hb)
  have HB8 := Lib.hid (bel_call HBW.out hb)
  clear hb
  go_wp2_with fail
  go_loopg [0, 9, 10] L (fun g v0 v9 v10 wr => ∃ j E : Nat, j + g = L ∧ v0 = .string (bs (nm (ls.drop j))) ∧ v9 = .int .i64 E ∧ v10 = .int .i64 j ∧ E ≤ k + 255 + 2 * j ∧ Hid (Pk wr p bm K E) ∧ Hid (OwnB wr w3.heap.size (.slice aa M ca) (nm ls)) ∧ Hid (Below w.heap.size w wr))
  case atStart => exact ⟨0, k + M, by omega, rfl, by push_cast; rfl, rfl, by omega, by rw [← HMe.out]; exact HP8, HO8, HB8⟩
  case round =>
    obtain ⟨j, E, hj, rfl, rfl, rfl, hE, HPr, HOr, HBr⟩ := hrel
    clear HO8 HP8 HB8
    have HNj := Lib.hid (name_told HPr.out HGK.out (by have := HLe.out; have := HKL.out; omega) (shorts_drop hs j) E (Nat.le_refl _) (by omega))
    have hjl : (nm (ls.drop j)).length ≤ 255 := by rw [nm_len]; have := (shorts_drop hs j).2; omega
    have HPa := Lib.hid (fun w => parent_any (nm (ls.drop j)) (by omega) w)
    clear hjl
    by_cases hlt9 : j < L
    · have hx := HF2.out j (by rw [HLe.out]; exact hlt9)
      have hne : ls.drop j ≠ [] := fun e => by have := congrArg List.length e; rw [List.length_drop, List.length_nil, HLe.out] at this; omega
      obtain ⟨e1, e2⟩ := told_known hx hne
      obtain ⟨e3, e4⟩ := par_nm (shorts_drop hs j) hne
      have hxlt := good_lt HGK.out hx
      rw [e1, e2, fr_zero, List.append_nil] at HNj
      rw [e3, e4, List.drop_drop] at HPa
      obtain ⟨x, hxx⟩ : ∃ x, k + pos ls j = x := ⟨_, rfl⟩
      rw [hxx] at HNj hxlt
      clear hx hne e1 e2 e3 e4 hxx
      go_wp2_with fail
      refine HNj.out.mono ?_; rintro e w9 ⟨vb, rfl, ho, hpk, has⟩
      obtain ⟨gb, cb, rfl, hgb⟩ := ho.some_ (by simp [pb])
      have hc0 := ho.cells hgb 0 (by simp [pb])
      have hlb : (pb x).length = 2 := rfl
      have HP9 := Lib.hid hpk
      have HO9 := Lib.hid (HOr.out.aside has fun b hv e => by have := (HOr.out.lt b hv).1; have := hlt.out; omega)
      have HB9 := Lib.hid (below_aside HBr.out has fun b hb => ⟨Nat.lt_of_lt_of_le hb HBr.out.size, by have := hpb.out; omega⟩)
      have hb0 : ((pb x).getD 0 0).toNat = 192 + x / 256 := by unfold pb; simp only [List.getD_cons_zero, UInt8.toNat_ofNat']; omega
      rw [hb0] at hc0
      rw [hlb]
      have t192 : ¬ 192 + x / 256 < 192 := by omega
      obtain ⟨y, hy⟩ : ∃ y, 192 + x / 256 = y := ⟨_, rfl⟩
      rw [hy] at hc0 t192
      clear ho hpk has hb0 hgb hy
      go_wp2_with fail
      refine (HPa.out _).mono ?_; rintro e w10 ⟨rfl, hb⟩
      have HP10 := Lib.hid (HP9.out.later hb)
      have HO10 := Lib.hid (HO9.out.below hb)
      have HB10 := Lib.hid (bel_call HB9.out hb)
      have c0 := cell_later hb hc0
      clear hb hc0
      go_wp2_with fail
      go_roundg (L - (j + 1))
      case measure => omega
      case rel => exact ⟨j + 1, E + 2, by omega, rfl, by push_cast; rfl, by push_cast; rfl, by omega, HP10, HO10, HB10⟩
    · have hjL : j = L := by omega
      subst hjL
      have hd : ls.drop j = [] := by rw [← HLe.out, List.drop_length]
      rw [hd, told_root HGK.out] at HNj
      rw [hd, par_root.1, par_root.2] at HPa
      rw [hd]
      have hfr : fr E [] (hdn K []) = [] := by simp [fr]
      rw [hfr, List.append_nil] at HNj
      clear hd hfr
      go_wp2_with fail
      refine HNj.out.mono ?_; rintro e w9 ⟨vb, rfl, ho, hpk, has⟩
      obtain ⟨gb, cb, rfl, hgb⟩ := ho.some_ (by simp)
      have HOb := Lib.hid ho
      have HP9 := Lib.hid hpk
      have HO9 := Lib.hid (HOr.out.aside has fun b hv e => by have := (HOr.out.lt b hv).1; have := hlt.out; omega)
      have HB9 := Lib.hid (below_aside HBr.out has fun b hb => ⟨Nat.lt_of_lt_of_le hb HBr.out.size, by have := hpb.out; omega⟩)
      clear ho hpk has hgb
      go_wp2_with fail
      refine (HPa.out _).mono ?_; rintro e w10 ⟨rfl, hb⟩
      have HOb10 := Lib.hid (HOb.out.below hb)
      have HP10 := Lib.hid (HP9.out.later hb)
      have HO10 := Lib.hid (HO9.out.below hb)
      have HB10 := Lib.hid (bel_call HB9.out hb)
      clear hb
      go_wp2_with fail
      have hcv2 := fun (wx : World) (h : OwnB wx w3.heap.size (.slice aa M ca) (nm ls)) => conv_own h
      have hal : Below w10.heap.size w10 (w10.alloc (.cells #[.int .u8 0] 5)).drew := ((Below.refl _ _).alloc (Nat.le_refl _) _).drew
      have HSl := Lib.hid (HOb10.out.below hal).sl
      have HLit := Lib.hid (show Sl (w10.alloc (.cells #[.int .u8 0] 5)).drew w10.heap.size (w10.heap.size + 1) (.slice (some ⟨w10.heap.size, 0, none⟩) 1 1) (iz [0]) from (sl_lit_u w10 [0]).later (Below.refl _ _).drew)
      have HOal := Lib.hid (HO10.out.below hal)
      have HKn := Lib.hid (fun (wx : World) (h : Pk wx p bm K (E + [(0 : UInt8)].length)) => (HKL.out.trans HLe.out) ▸ known_any h)
      have HPal := Lib.hid (HP10.out.later hal)
      have HBal := Lib.hid (bel_call HB10.out hal)
      clear hal
      go_region_held3 (fun wx => OwnB wx w3.heap.size (.slice aa M ca) (nm ls)) (first | exact HO10.out | exact HOal.out | exact HO11.out) (first | (go_at_call 20; refine (same_any HSl.out HLit.out).mono ?_; rintro e ww ⟨rfl, rfl⟩) | (go_at_call 21; refine (HKn.out _ HPal.out).mono ?_; rintro e ww ⟨rfl, rfl⟩) | (go_at_call 24; refine (HCt.out _).mono ?_; rintro e w11 ⟨rfl, hb⟩; have HO11 := Lib.hid (HOal.out.below hb); have HB11 := Lib.hid (bel_call HBal.out hb); clear hb))
      go_wp2_with fail
      go_ret
      exact ⟨rfl, HB11.out⟩

/-- The statement. -/
theorem twice_any (n : ByteArray) (a : Int) (w : World) (hn : n.size ≤ 140737488351232) : Calls Try.prog 7 #[.string n, .int .i64 a] w (Tells w (.bool true)) := by
  have hl : n.data.toList.length = n.size := Array.length_toList
  rw [bs_eta n]
  by_cases hc : chk n.data.toList = 0
  · obtain ⟨hs, hnm⟩ := shorts_of hc
    rw [hnm]
    exact twice_fine _ hs a w
  · exact twice_bad _ (by rw [hl]; omega) hc a w
end Go.Proofs.Ythhfgbfipogppaa
