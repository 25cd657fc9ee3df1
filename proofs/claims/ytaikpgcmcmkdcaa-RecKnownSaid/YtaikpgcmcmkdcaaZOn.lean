/-
  The statement that the chapter's examples are answered as it says.
-/
import Derived.Test.YtaikpgcmcmkdcaaQK
import Derived.Test.YtaikpgcmcmkdcaaQX
namespace Go.Proofs.Ytaikpgcmcmkdcaa
open Go.RowKit Go.Shelf
set_option linter.unusedVariables false
set_option linter.unusedSimpArgs false
set_option maxRecDepth 100000

def exA : List UInt8 := [0, 0, 1, 0, 1, 128, 0, 0, 0, 0, 4, 1, 2, 3, 4]
def exB : List UInt8 := [0, 0, 1, 0]
def exC : List UInt8 := [1, 97, 0, 0, 1, 0, 1]

theorem rda_A : rda exA ((0 : Nat) : Int) = ([0], 1, 0, 0) := rdaE (b := exA) (p := 0) (ls := []) (en := 1) (.zero (by decide) (by decide)) (by decide)
theorem rda_B : rda exB ((0 : Nat) : Int) = ([0], 1, 0, 0) := rdaE (b := exB) (p := 0) (ls := []) (en := 1) (.zero (by decide) (by decide)) (by decide)
theorem rda_C : rda exC ((0 : Nat) : Int) = ([1, 97, 0], 3, 0, 0) := rdaE (b := exC) (p := 0) (ls := [[97]]) (en := 3) (.label (by decide) (by decide) (by decide) (by decide) (.zero (by decide) (by decide))) (by decide)

theorem rec_A : recV exA 0 = .tuple #[.agg #[.string (bs [0]), .int .i64 1, .int .i64 1, .int .i64 0, .string (bs [1, 2, 3, 4])], .int .i64 15, .agg #[.int .i64 0, .int .i64 0]] := by
  obtain ⟨h1, hN, hT, hC⟩ := ques_ok rda_A (by decide)
  obtain ⟨h5, hL, hZ⟩ := head_ok rda_A (by decide)
  have eT : rT exA ((0 : Nat) : Int) = 1 := hT.trans (by decide)
  have eC : rC exA ((0 : Nat) : Int) = 1 := hC.trans (by decide)
  have eL : rL exA ((0 : Nat) : Int) = 2147483648 := hL.trans (by decide)
  have eZ : rZ exA ((0 : Nat) : Int) = 4 := hZ.trans (by decide)
  obtain ⟨L, hsp⟩ := code_ok (show (spl 1 [1, 2, 3, 4]).code = 0 from (adr_len _).mpr rfl)
  obtain ⟨_, _, _, hf, hj⟩ := spl_ok hsp
  have hk : kinds 1 = [.fix 4] := rfl
  rw [hk] at hf
  obtain ⟨x, rfl⟩ := fits_one hf
  have hx : x = [1, 2, 3, 4] := by simpa [joined] using hj
  subst hx
  obtain ⟨hr, _⟩ := lies_rdR (b := exA) (a := 11) (m := 4) hsp (.byt (by decide) (by decide) (.nil (by decide))) (by decide)
  obtain ⟨h6, hD⟩ := data_ok (L := [([1, 2, 3, 4], false)]) rda_A (by decide) (by rw [eZ, eT]; exact hr)
  have h6' : s6 exA 0 = ⟨15, 0, 0⟩ := h6.trans (by rw [eZ, show wrap64 (((1 + 10 : Nat) : Int) + 4) = 15 from IntWalk.wrap64_in _ ⟨by decide, by decide⟩])
  unfold recV
  rw [h6', if_pos rfl]
  have eN : rN exA 0 = [0] := hN
  have eD : rD exA 0 = [1, 2, 3, 4] := hD.trans rfl
  have e1 : rT exA 0 = 1 := eT
  have e2 : rC exA 0 = 1 := eC
  have e3 : rL exA 0 = 2147483648 := eL
  rw [eN, eD, e1, e2, e3]
  rfl

theorem rec_B : recV exB 0 = .tuple #[.agg #[.string ⟨#[]⟩, .int .i64 0, .int .i64 0, .int .i64 0, .string ⟨#[]⟩], .int .i64 0, .agg #[.int .i64 4, .int .i64 4]] := by
  obtain ⟨h1, _⟩ := s1_ok rda_B
  have g1 := st2_ok (b := exB) (i := 1) (by decide) 0 0
  have e2 : s2 exB ((0 : Nat) : Int) = ⟨((3 : Nat) : Int), 0, 0⟩ := by unfold s2; rw [h1]; exact g1.1
  have e3 : s3 exB ((0 : Nat) : Int) = ⟨0, 4, (exB.length : Int)⟩ := by unfold s3; rw [e2]; exact st2_short (by decide) (by decide) 0
  have b0 : (⟨0, 4, (exB.length : Int)⟩ : RS).e ≠ 0 := by simp
  have e6 : s6 exB ((0 : Nat) : Int) = ⟨0, 4, (exB.length : Int)⟩ := by
    unfold s6 s5 s4
    rw [e3, st4_bad b0, st2_bad b0, stD_bad b0]
  have e : s6 exB 0 = ⟨0, 4, 4⟩ := e6
  unfold recV
  rw [e, if_neg (by decide)]

theorem ques_C : quesV exC 0 = .tuple #[.agg #[.string (bs [1, 97, 0]), .int .i64 1, .int .i64 1], .int .i64 7, .agg #[.int .i64 0, .int .i64 0]] := by
  obtain ⟨h1, hN, hT, hC⟩ := ques_ok rda_C (by decide)
  have eT : rT exC 0 = 1 := hT.trans (by decide)
  have eC : rC exC 0 = 1 := hC.trans (by decide)
  have eN : rN exC 0 = [1, 97, 0] := hN
  have e3 : s3 exC 0 = ⟨7, 0, 0⟩ := h1
  unfold quesV
  rw [e3, if_pos rfl, eT, eC, eN]

set_option maxHeartbeats 8000000 in
theorem knownC_any (w : World) : Calls Try.prog 8 #[] w (Tells w (.bool true)) := by
  have HAW := Lib.hid awakeC_any
  have HRA := Lib.hid (fun wx => readC_any (w := wx.alloc (.cells ((iz exA).map (Value.int .u8)).toArray 5)) (b := exA) (sl_lit wx (iz exA)) (by simp) (by decide) 0)
  have HRB := Lib.hid (fun wx => readC_any (w := wx.alloc (.cells ((iz exB).map (Value.int .u8)).toArray 5)) (b := exB) (sl_lit wx (iz exB)) (by simp) (by decide) 0)
  have HQC := Lib.hid (fun wx => question_any (w := wx.alloc (.cells ((iz exC).map (Value.int .u8)).toArray 5)) (b := exC) (sl_lit wx (iz exC)) (by simp) (by decide) 0)
  rw [rec_A] at HRA
  rw [rec_B] at HRB
  rw [ques_C] at HQC
  have HRA' : Hid (∀ wx : World, Calls Try.prog 26 #[.slice (some ⟨wx.heap.size, 0, none⟩) 15 15, .int .i64 0] (wx.alloc (.cells #[.int .u8 0, .int .u8 0, .int .u8 1, .int .u8 0, .int .u8 1, .int .u8 128, .int .u8 0, .int .u8 0, .int .u8 0, .int .u8 0, .int .u8 4, .int .u8 1, .int .u8 2, .int .u8 3, .int .u8 4] 5)) (Tells (wx.alloc (.cells #[.int .u8 0, .int .u8 0, .int .u8 1, .int .u8 0, .int .u8 1, .int .u8 128, .int .u8 0, .int .u8 0, .int .u8 0, .int .u8 0, .int .u8 4, .int .u8 1, .int .u8 2, .int .u8 3, .int .u8 4] 5)) (.tuple #[.agg #[.string (bs [0]), .int .i64 1, .int .i64 1, .int .i64 0, .string (bs [1, 2, 3, 4])], .int .i64 15, .agg #[.int .i64 0, .int .i64 0]]))) := HRA.out
  have HRB' : Hid (∀ wx : World, Calls Try.prog 26 #[.slice (some ⟨wx.heap.size, 0, none⟩) 4 4, .int .i64 0] (wx.alloc (.cells #[.int .u8 0, .int .u8 0, .int .u8 1, .int .u8 0] 5)) (Tells (wx.alloc (.cells #[.int .u8 0, .int .u8 0, .int .u8 1, .int .u8 0] 5)) (.tuple #[.agg #[.string ⟨#[]⟩, .int .i64 0, .int .i64 0, .int .i64 0, .string ⟨#[]⟩], .int .i64 0, .agg #[.int .i64 4, .int .i64 4]]))) := HRB.out
  have HQC' : Hid (∀ wx : World, Calls Try.prog 25 #[.slice (some ⟨wx.heap.size, 0, none⟩) 7 7, .int .i64 0] (wx.alloc (.cells #[.int .u8 1, .int .u8 97, .int .u8 0, .int .u8 0, .int .u8 1, .int .u8 0, .int .u8 1] 5)) (Tells (wx.alloc (.cells #[.int .u8 1, .int .u8 97, .int .u8 0, .int .u8 0, .int .u8 1, .int .u8 0, .int .u8 1] 5)) (.tuple #[.agg #[.string (bs [1, 97, 0]), .int .i64 1, .int .i64 1], .int .i64 7, .agg #[.int .i64 0, .int .i64 0]]))) := HQC.out
  have HB := Lib.hid (Below.refl w.heap.size w)
  have u0 : ((bs [0]).toList == [0]) = true := by rw [bs_toList]; rfl
  have u1 : ((bs [1, 2, 3, 4]).toList == [1, 2, 3, 4]) = true := by rw [bs_toList]; rfl
  have u2 : ((bs [1, 97, 0]).toList == [1, 97, 0]) = true := by rw [bs_toList]; rfl
  clear HRA HRB HQC
  go_enter Try.func8, Try.ntmps8
  go_wp2_with fail
  refine (HRA'.out _).mono ?_; rintro e w1 ⟨rfl, hb⟩
  replace HB := Lib.hid (bel_call (bel_alloc HB.out _) hb)
  clear hb
  have hx := (cel_new w1 (.string (bs [0])) (.int .i64 1) (.int .i64 1) (.int .i64 0) (.string (bs [1, 2, 3, 4])) 23).below (by simp) ((Below.refl _ _).alloc (Nat.le_refl _) (.cells #[.int .i64 0, .int .i64 0] 54))
  have hf : ((w1.alloc (.cells #[.string (bs [0]), .int .i64 1, .int .i64 1, .int .i64 0, .string (bs [1, 2, 3, 4])] 23)).alloc (.cells #[.int .i64 0, .int .i64 0] 54)).cell? ⟨w1.heap.size + 1, 0, none⟩ = some (.int .i64 0) := by rw [← World.size_alloc w1 (.cells #[.string (bs [0]), .int .i64 1, .int .i64 1, .int .i64 0, .string (bs [1, 2, 3, 4])] 23)]; simp [go_sem]
  have h2 := HRB'.out ((w1.alloc (.cells #[.string (bs [0]), .int .i64 1, .int .i64 1, .int .i64 0, .string (bs [1, 2, 3, 4])] 23)).alloc (.cells #[.int .i64 0, .int .i64 0] 54))
  have ha2 : Below ((w1.alloc (.cells #[.string (bs [0]), .int .i64 1, .int .i64 1, .int .i64 0, .string (bs [1, 2, 3, 4])] 23)).alloc (.cells #[.int .i64 0, .int .i64 0] 54)).heap.size ((w1.alloc (.cells #[.string (bs [0]), .int .i64 1, .int .i64 1, .int .i64 0, .string (bs [1, 2, 3, 4])] 23)).alloc (.cells #[.int .i64 0, .int .i64 0] 54)) (((w1.alloc (.cells #[.string (bs [0]), .int .i64 1, .int .i64 1, .int .i64 0, .string (bs [1, 2, 3, 4])] 23)).alloc (.cells #[.int .i64 0, .int .i64 0] 54)).alloc (.cells #[.int .u8 0, .int .u8 0, .int .u8 1, .int .u8 0] 5)) := (Below.refl _ _).alloc (Nat.le_refl _) _
  have HX := Lib.hid (hx.below (by simp) ha2)
  have HF := Lib.hid (cell_later ha2 hf)
  replace HB := Lib.hid (bel_call (bel_alloc (bel_alloc HB.out _) _) ha2)
  simp only [World.size_alloc] at h2
  have H2 := Lib.hid h2
  clear h2 hx hf ha2
  go_wp2_with fail
  refine H2.out.mono ?_; rintro e w2 ⟨rfl, hb⟩
  replace hb : Below (((w1.alloc (.cells #[.string (bs [0]), .int .i64 1, .int .i64 1, .int .i64 0, .string (bs [1, 2, 3, 4])] 23)).alloc (.cells #[.int .i64 0, .int .i64 0] 54)).alloc (.cells #[.int .u8 0, .int .u8 0, .int .u8 1, .int .u8 0] 5)).heap.size (((w1.alloc (.cells #[.string (bs [0]), .int .i64 1, .int .i64 1, .int .i64 0, .string (bs [1, 2, 3, 4])] 23)).alloc (.cells #[.int .i64 0, .int .i64 0] 54)).alloc (.cells #[.int .u8 0, .int .u8 0, .int .u8 1, .int .u8 0] 5)) w2 := by simp only [World.size_alloc]; simp only [World.size_alloc] at hb; exact hb
  replace HX := Lib.hid (HX.out.below (by simp) hb)
  replace HF := Lib.hid (cell_later hb HF.out)
  replace HB := Lib.hid (bel_call HB.out hb)
  clear hb
  have hbb : Below w2.heap.size w2 ((w2.alloc (.cells #[.string ⟨#[]⟩, .int .i64 0, .int .i64 0, .int .i64 0, .string ⟨#[]⟩] 23)).alloc (.cells #[.int .i64 4, .int .i64 4] 54)) := bel_alloc ((Below.refl _ _).alloc (Nat.le_refl _) _) _
  have hf0 : ((w2.alloc (.cells #[.string ⟨#[]⟩, .int .i64 0, .int .i64 0, .int .i64 0, .string ⟨#[]⟩] 23)).alloc (.cells #[.int .i64 4, .int .i64 4] 54)).cell? ⟨w2.heap.size + 1, 0, none⟩ = some (.int .i64 4) := by rw [← World.size_alloc w2 (.cells #[.string ⟨#[]⟩, .int .i64 0, .int .i64 0, .int .i64 0, .string ⟨#[]⟩] 23)]; simp [go_sem]
  have hf1 : ((w2.alloc (.cells #[.string ⟨#[]⟩, .int .i64 0, .int .i64 0, .int .i64 0, .string ⟨#[]⟩] 23)).alloc (.cells #[.int .i64 4, .int .i64 4] 54)).cell? ⟨w2.heap.size + 1, 1, none⟩ = some (.int .i64 4) := by rw [← World.size_alloc w2 (.cells #[.string ⟨#[]⟩, .int .i64 0, .int .i64 0, .int .i64 0, .string ⟨#[]⟩] 23)]; simp [go_sem]
  have h3 := HQC'.out ((w2.alloc (.cells #[.string ⟨#[]⟩, .int .i64 0, .int .i64 0, .int .i64 0, .string ⟨#[]⟩] 23)).alloc (.cells #[.int .i64 4, .int .i64 4] 54))
  have ha3 : Below ((w2.alloc (.cells #[.string ⟨#[]⟩, .int .i64 0, .int .i64 0, .int .i64 0, .string ⟨#[]⟩] 23)).alloc (.cells #[.int .i64 4, .int .i64 4] 54)).heap.size ((w2.alloc (.cells #[.string ⟨#[]⟩, .int .i64 0, .int .i64 0, .int .i64 0, .string ⟨#[]⟩] 23)).alloc (.cells #[.int .i64 4, .int .i64 4] 54)) (((w2.alloc (.cells #[.string ⟨#[]⟩, .int .i64 0, .int .i64 0, .int .i64 0, .string ⟨#[]⟩] 23)).alloc (.cells #[.int .i64 4, .int .i64 4] 54)).alloc (.cells #[.int .u8 1, .int .u8 97, .int .u8 0, .int .u8 0, .int .u8 1, .int .u8 0, .int .u8 1] 5)) := (Below.refl _ _).alloc (Nat.le_refl _) _
  replace HX := Lib.hid ((HX.out.below (by simp) hbb).below (by simp) ha3)
  replace HF := Lib.hid (cell_later ha3 (cell_later hbb HF.out))
  have HG := Lib.hid (And.intro (cell_later ha3 hf0) (cell_later ha3 hf1))
  replace HB := Lib.hid (bel_call (bel_call HB.out hbb) ha3)
  simp only [World.size_alloc] at h3
  have H3 := Lib.hid h3
  clear h3 hbb ha3 hf0 hf1
  go_wp2_with fail
  refine H3.out.mono ?_; rintro e w3 ⟨rfl, hb⟩
  replace hb : Below (((w2.alloc (.cells #[.string ⟨#[]⟩, .int .i64 0, .int .i64 0, .int .i64 0, .string ⟨#[]⟩] 23)).alloc (.cells #[.int .i64 4, .int .i64 4] 54)).alloc (.cells #[.int .u8 1, .int .u8 97, .int .u8 0, .int .u8 0, .int .u8 1, .int .u8 0, .int .u8 1] 5)).heap.size (((w2.alloc (.cells #[.string ⟨#[]⟩, .int .i64 0, .int .i64 0, .int .i64 0, .string ⟨#[]⟩] 23)).alloc (.cells #[.int .i64 4, .int .i64 4] 54)).alloc (.cells #[.int .u8 1, .int .u8 97, .int .u8 0, .int .u8 0, .int .u8 1, .int .u8 0, .int .u8 1] 5)) w3 := by simp only [World.size_alloc]; simp only [World.size_alloc] at hb; exact hb
  replace HX := Lib.hid (HX.out.below (by simp) hb)
  replace HF := Lib.hid (cell_later hb HF.out)
  replace HG := Lib.hid (And.intro (cell_later hb HG.out.1) (cell_later hb HG.out.2))
  replace HB := Lib.hid (bel_call HB.out hb)
  clear hb
  have hbb : Below w3.heap.size w3 ((w3.alloc (.cells #[.string (bs [1, 97, 0]), .int .i64 1, .int .i64 1] 42)).alloc (.cells #[.int .i64 0, .int .i64 0] 54)) := bel_alloc ((Below.refl _ _).alloc (Nat.le_refl _) _) _
  have hy := (cel_new3 w3 (.string (bs [1, 97, 0])) (.int .i64 1) (.int .i64 1) 42).below (by simp) ((Below.refl _ _).alloc (Nat.le_refl _) (.cells #[.int .i64 0, .int .i64 0] 54))
  have hz : ((w3.alloc (.cells #[.string (bs [1, 97, 0]), .int .i64 1, .int .i64 1] 42)).alloc (.cells #[.int .i64 0, .int .i64 0] 54)).cell? ⟨w3.heap.size + 1, 0, none⟩ = some (.int .i64 0) := by rw [← World.size_alloc w3 (.cells #[.string (bs [1, 97, 0]), .int .i64 1, .int .i64 1] 42)]; simp [go_sem]
  obtain ⟨c0, c1, c2, c3, c4⟩ := HX.out.five
  have f0 := HF.out
  have f1 := HG.out.1
  have f2 := HG.out.2
  have l0 := World.block_lt_of_cell? w3 _ c0
  have l1 := World.block_lt_of_cell? w3 _ f0
  have l2 := World.block_lt_of_cell? w3 _ f1
  simp only at l0 l1 l2
  have l3 : w2.heap.size < w3.heap.size := by omega
  replace HB := Lib.hid (bel_call HB.out hbb)
  have HY := Lib.hid hy
  have HZ := Lib.hid hz
  clear hbb hy hz HX HF HG
  go_wp2_with fail
  refine (HAW.out _).mono ?_; rintro e w4 ⟨rfl, hb⟩
  have HYb := HY.out.below (by simp) hb
  have y0 : w4.cell? ⟨w3.heap.size, 0, none⟩ = some (.string (bs [1, 97, 0])) := HYb.c 0 (by simp)
  have y1 : w4.cell? ⟨w3.heap.size, 1, none⟩ = some (.int .i64 1) := HYb.c 1 (by simp)
  have y2 : w4.cell? ⟨w3.heap.size, 2, none⟩ = some (.int .i64 1) := HYb.c 2 (by simp)
  have z0 := cell_later hb HZ.out
  replace HB := Lib.hid (bel_call HB.out hb)
  clear hb HYb c0 c1 c2 c3 c4 f0 f1 f2 l0 l1 l2 l3
  go_wp2_with fail
  go_ret
  exact ⟨rfl, HB.out⟩
end Go.Proofs.Ytaikpgcmcmkdcaa
