/-
  Parse.
-/
import Derived.Test.YtknfgcmidpgifaaDoorZ05
import Derived.Laws.MakeOwn
import Derived.Deep.RegionHeld3
import Derived.Lib.ConvBytes
import Derived.Lib.ParseIntBCases
import Derived.Outline
import Derived.LoopIn
import Derived.LoopNIn
import Derived.TacticsInMore
import Derived.OwnWalkIn
import Derived.Shelf.RegionOpen
import Derived.Shelf.Abstract
import Derived.RangeFuncCalls
import Derived.RangeFuncBound
import Derived.RangeFuncNested
namespace Go.Proofs.YtknfgcmidpgifaaDoor
open Go.RowKit Go.Shelf
set_option linter.unusedVariables false
set_option linter.unusedSimpArgs false
set_option maxRecDepth 100000

theorem scan_len : ∀ (b : List UInt8) (cr : Bool) (l : List UInt8) (ls : List (List UInt8)), scan cr l b = some ls → ls.length ≤ b.length ∧ ∀ x ∈ ls, x.length ≤ l.length + b.length
  | [], false, _, _, h => by simp [scan] at h
  | [], true, _, _, h => by simp [scan] at h
  | c :: r, false, l, ls, h => by
    rw [scan] at h
    split at h
    · obtain ⟨h1, h2⟩ := scan_len r _ _ _ h
      exact ⟨by simp; omega, fun x hx => by have := h2 x hx; simp; omega⟩
    · split at h
      · cases h
      · obtain ⟨h1, h2⟩ := scan_len r _ _ _ h
        exact ⟨by simp; omega, fun x hx => by have := h2 x hx; simp at this ⊢; omega⟩
  | c :: r, true, l, ls, h => by
    rw [scan] at h
    split at h
    · split at h
      · split at h
        · injection h with h; subst h; simp
        · cases h
      · cases hs : scan false [] r with
        | none => rw [hs] at h; cases h
        | some m =>
          rw [hs] at h
          injection h with h
          subst h
          obtain ⟨h1, h2⟩ := scan_len r _ _ _ hs
          refine ⟨by simp; omega, fun x hx => ?_⟩
          rcases List.mem_cons.mp hx with rfl | hx
          · simp
          · have := h2 x hx; simp at this ⊢; omega
    · cases h
theorem lines_len (b : List UInt8) : (linesB b).length ≤ b.length ∧ ∀ x ∈ linesB b, x.length ≤ b.length := by
  unfold linesB
  cases h : scan false [] b with
  | none => simp
  | some ls => simpa using scan_len b _ _ _ h

/-- A head whose row of fields is the call's own. -/
def Ho (w : World) (B : Nat) (v : Value) (h : Hd) : Prop := ∃ sl, v = .agg #[.string (bs h.m), .string (bs h.t), .int .i64 h.v, sl] ∧ OwnF w B sl h.fs
theorem ho_zero (w : World) (B : Nat) : Ho w B (hdv z0) z0 := ⟨_, rfl, OwnF.nil _ _⟩
theorem Ho.below {w w' : World} {B : Nat} {v : Value} {h : Hd} (hh : Ho w B v h) (hb : Below w.heap.size w w') : Ho w' B v h := by
  obtain ⟨sl, rfl, h1⟩ := hh
  exact ⟨sl, rfl, h1.below hb⟩
/-- What Parse tells. -/
def HedPost (w : World) (X : Hd × Int) (e : Ending) (w' : World) : Prop := ∃ v, e = .returned (.tuple #[v, .int .i64 X.2]) ∧ Ho w' w.heap.size v X.1 ∧ Below w.heap.size w w'

theorem flds_len : ∀ (ls : List (List UInt8)) (acc : List Fd), acc.length ≤ 32 → (fldsA acc ls).1.length ≤ 32 ∧ (fldsA acc ls).1.length ≤ acc.length + ls.length
  | [], acc, h => by simpa [fldsA] using h
  | l :: r, acc, h => by
    rw [fldsA]
    split
    · simp
    · split
      · simp
      · rename_i h32 _
        obtain ⟨h1, h2⟩ := flds_len r (acc ++ [(ahd l, trimB (bhd l))]) (by simp; omega)
        refine ⟨h1, ?_⟩
        simp at h2 ⊢; omega
theorem flds_fits (M : Nat) : ∀ (ls : List (List UInt8)) (acc : List Fd), (∀ x ∈ ls, x.length ≤ M) → (∀ x ∈ acc, x.1.length ≤ M ∧ x.2.length ≤ M) → ∀ x ∈ (fldsA acc ls).1, x.1.length ≤ M ∧ x.2.length ≤ M
  | [], acc, _, h => by simpa [fldsA] using h
  | l :: r, acc, hl, h => by
    rw [fldsA]
    split
    · simp
    · split
      · simp
      · refine flds_fits M r _ (fun x hx => hl x (by simp [hx])) fun x hx => ?_
        rcases List.mem_append.mp hx with hx | hx
        · exact h x hx
        · simp only [List.mem_singleton] at hx
          subst hx
          have := hl l (by simp)
          have h1 := ahd_len l
          have h2 := bhd_len l
          have h3 := trimB_len (bhd l)
          exact ⟨by simp only; omega, by simp only; omega⟩

set_option maxHeartbeats 8000000 in
theorem parse_any {w : World} {v : Value} (b : List UInt8) (hs : Sl w 0 w.heap.size v (iz b)) (hE : Env w) (hl : b.length ≤ 1000000) : Calls Tryd.prog 6 #[v] w (HedPost w (parH b)) := by
  obtain ⟨N, hN⟩ : ∃ N, w.heap.size = N := ⟨_, rfl⟩
  have hb0 : Below w.heap.size w (w.alloc (.cells #[.string ⟨#[]⟩, .string ⟨#[]⟩, .int .i64 0, .slice none 0 0] 27)) := (Below.refl _ _).alloc (Nat.le_refl _) _
  have hx := cel_new4 w (.string ⟨#[]⟩) (.string ⟨#[]⟩) (.int .i64 0) (.slice none 0 0) 27
  have hsz : (w.alloc (.cells #[.string ⟨#[]⟩, .string ⟨#[]⟩, .int .i64 0, .slice none 0 0] 27)).heap.size = N + 1 := by simp [hN]
  have hs1 : Sl (w.alloc (.cells #[.string ⟨#[]⟩, .string ⟨#[]⟩, .int .i64 0, .slice none 0 0] 27)) 0 (w.alloc (.cells #[.string ⟨#[]⟩, .string ⟨#[]⟩, .int .i64 0, .slice none 0 0] 27)).heap.size v (iz b) := (hs.below hb0 (Nat.le_refl _)).wide (Nat.le_refl _) hb0.size
  obtain ⟨va, vc, rfl⟩ := sl_shape hs rfl
  have hE1 := hE.later hb0
  rw [hN] at hx hb0
  have HB0 := Lib.hid hb0
  have HX0 := Lib.hid hx
  obtain ⟨W, hW⟩ : ∃ W, w.alloc (.cells #[.string ⟨#[]⟩, .string ⟨#[]⟩, .int .i64 0, .slice none 0 0] 27) = W := ⟨_, rfl⟩
  rw [hW] at HB0 HX0 hs1 hsz hE1
  have HSZ := Lib.hid hsz
  have HD0 := Lib.hid (Below.refl W.heap.size W)
  have HE := Lib.hid hE1
  have HS := Lib.hid hs1
  have HNN := Lib.hid hN
  obtain ⟨X, hX⟩ : ∃ X, parH b = X := ⟨_, rfl⟩
  rw [hX]
  unfold parH at hX
  clear hb0 hx hsz hE1 hE hs hs1
  by_cases h4 : 4096 < b.length
  · have HF := Lib.hid (show X = (z0, 431) by rw [← hX, if_pos h4])
    have t1 : (4096 : Int) < b.length := by omega
    obtain ⟨c0, c1, c2, c3⟩ := HX0.out.four
    have cf := HX0.out.fz
    clear hX h4
    go_enter Tryd.func6, Tryd.ntmps6
    go_wp2_with fail
    have HB0 := Lib.hid (HB0.out.trans (HD0.out.mono (by have := HSZ.out; omega)))
    have HK := Lib.hid (cel_put4 HX0.out (.string ⟨#[]⟩) (.string ⟨#[]⟩) (.int .i64 0) (.slice none 0 0))
    have HBf := Lib.hid (below_put4 HB0.out (Nat.le_refl _) (.string ⟨#[]⟩) (.string ⟨#[]⟩) (.int .i64 0) (.slice none 0 0))
    obtain ⟨m0, m1, m2, m3⟩ := HK.out.four
    unfold put4 at HBf m0 m1 m2 m3
    refine bodyPost_ret (v := .tuple #[hdv z0, .int .i64 431]) (by simp [results, Tryd.results6, go_sem, m0, m1, m2, m3]; rfl) rfl ⟨hdv z0, by rw [HF.out], by rw [HF.out]; exact ho_zero _ _, by rw [HNN.out]; exact HBf.out⟩
  · have t1 : ¬ ((4096 : Int) < b.length) := by omega
    have HQ2 := Lib.hid (show par1 (linesB b) = X by rw [← hX, if_neg h4])
    have HLN := Lib.hid (lines_any b HS.out HE.out (by omega))
    have HLB := Lib.hid (show (linesB b).length ≤ 4096 ∧ ∀ x ∈ linesB b, x.length ≤ 4096 from by
      obtain ⟨q1, q2⟩ := lines_len b
      exact ⟨by omega, fun x hx => by have := q2 x hx; omega⟩)
    obtain ⟨L, hL⟩ : ∃ L, linesB b = L := ⟨_, rfl⟩
    rw [hL] at HQ2 HLN HLB
    clear hX h4 hL
    go_enter Tryd.func6, Tryd.ntmps6
    go_wp2_with fail
    refine (HLN.out).mono ?_; rintro e w1 ⟨v1, rfl, ho1, hb1⟩
    have HD1 := Lib.hid (bel_call HD0.out hb1)
    have HX1 := Lib.hid (HX0.out.below (by simp) hb1)
    have HO1 := Lib.hid ho1
    clear hb1 ho1
    obtain ⟨a1, c1, rfl⟩ := HO1.out.shape
    cases L with
    | nil =>
      have HF := Lib.hid (show X = (z0, 400) from HQ2.out.symm)
      obtain ⟨c0, c1, c2, c3⟩ := HX1.out.four
      have cf := HX1.out.fz
      go_wp2_with fail
      have HB1 := Lib.hid (HB0.out.trans (HD1.out.mono (by have := HSZ.out; omega)))
      have HK := Lib.hid (cel_put4 HX1.out (.string ⟨#[]⟩) (.string ⟨#[]⟩) (.int .i64 0) (.slice none 0 0))
      have HBf := Lib.hid (below_put4 HB1.out (Nat.le_refl _) (.string ⟨#[]⟩) (.string ⟨#[]⟩) (.int .i64 0) (.slice none 0 0))
      obtain ⟨m0, m1, m2, m3⟩ := HK.out.four
      unfold put4 at HBf m0 m1 m2 m3
      refine bodyPost_ret (v := .tuple #[hdv z0, .int .i64 400]) (by simp [results, Tryd.results6, go_sem, m0, m1, m2, m3]; rfl) rfl ⟨hdv z0, by rw [HF.out], by rw [HF.out]; exact ho_zero _ _, by rw [HNN.out]; exact HBf.out⟩
    | cons l0 ls =>
      have t2 : ((((l0 :: ls).length : Nat) : Int) == 0) = false := by rw [beq_eq_false_iff_ne, List.length_cons]; omega
      go_wp2_with fail
      refine (allPlaces_any w1).mono ?_; rintro e w2 ⟨g, rfl, hg2, hp2, hb2⟩
      have HD2 := Lib.hid (bel_call HD1.out hb2)
      have HX2 := Lib.hid (HX1.out.below (by simp) hb2)
      have HO2 := Lib.hid (HO1.out.below hb2)
      have HP2 := Lib.hid hp2
      have HG := Lib.hid hg2
      clear hb2 hp2 hg2 HO1
      obtain ⟨g1, o1, rfl, _, _, hc⟩ := st_at HO2.out.st (by simp)
      have q0 := hc 0 (by simp)
      simp only [Nat.add_zero, List.getElem_cons_zero] at q0
      have HFI := Lib.hid (first_any l0 g (by have := HLB.out.2 l0 (by simp); omega) HP2.out (HE.out.later HD2.out))
      clear hc
      obtain ⟨F, hF⟩ : ∃ F, fstL l0 = F := ⟨_, rfl⟩
      obtain ⟨⟨fm, ft, fv, ff⟩, st⟩ := F
      have hff : ff = [] := by have := fst_fs l0; rw [hF] at this; exact this
      subst hff
      have HQ3 := Lib.hid (show (if st ≠ 200 then (z0, st) else par2 ⟨fm, ft, fv, []⟩ ls) = X by rw [← HQ2.out, par1, hF])
      unfold FstPost at HFI
      rw [hF] at HFI
      unfold hdv at HFI
      simp only at HFI
      clear hF HQ2
      go_wp2_with fail
      refine (HFI.out).mono ?_; rintro e w3 ⟨rfl, hb3⟩
      have HD3 := Lib.hid (bel_call HD2.out hb3)
      have HX3 := Lib.hid (HX2.out.below (by simp) hb3)
      have HO3 := Lib.hid (HO2.out.below hb3)
      have HP3 := Lib.hid (HP2.out.later hb3)
      obtain ⟨w3a, hw3⟩ : ∃ wx, w3.alloc (.cells #[.string (bs fm), .string (bs ft), .int .i64 fv, .slice none 0 0] 27) = wx := ⟨_, rfl⟩
      have hba : Below w3.heap.size w3 w3a := by rw [← hw3]; exact (Below.refl _ _).alloc (Nat.le_refl _) _
      have HXh := Lib.hid (show Cel w3a w3.heap.size [.string (bs fm), .string (bs ft), .int .i64 fv, .slice none 0 0] by rw [← hw3]; exact cel_new4 w3 _ _ _ _ _)
      have HD3a := Lib.hid (bel_call HD3.out hba)
      have HX3a := Lib.hid (HX3.out.below (by simp) hba)
      have HO3a := Lib.hid (HO3.out.below hba)
      have HP3a := Lib.hid (HP3.out.later hba)
      have HSa := Lib.hid (show w3a.heap.size = w3.heap.size + 1 by rw [← hw3, World.size_alloc])
      have HHN := Lib.hid (show N < w3.heap.size by have := HD3.out.size; have := HSZ.out; omega)
      clear hb3 HO2 HP2 HO3 HP3 hba
      by_cases hst : st = 200
      · subst hst
        have HQ4 := Lib.hid (show par2 ⟨fm, ft, fv, []⟩ ls = X by rw [← HQ3.out, if_neg (by simp)])
        obtain ⟨sv, hsv, hst1⟩ := st_from (p := 1) HO3a.out.st (by simp)
        have hsv : ∀ wx, (Instr.slice 37 (.slice (some ⟨g1, o1, none⟩) (ls.length + 1) c1) (some (.int .i64 1)) none none).run Tryd.prog wx = .ok sv wx := hsv
        have hst1 : St w3a _ _ sv ls := hst1
        obtain ⟨ads, cs, rfl⟩ : ∃ ads cs, sv = .slice ads ls.length cs := by obtain ⟨ads, cs, e, _⟩ := hst1; exact ⟨ads, cs, e⟩
        have HFL := Lib.hid (fields_any ls g hst1 (Nat.le_refl _) HP3a.out (HE.out.later HD3a.out) (by have := HLB.out.1; rw [List.length_cons] at this; omega) (fun x hx => by have := HLB.out.2 x (by simp [hx]); omega))
        obtain ⟨Z, hZ⟩ : ∃ Z, fldsA [] ls = Z := ⟨_, rfl⟩
        obtain ⟨fs, fst⟩ := Z
        have HQ5 := Lib.hid (show (if fst ≠ 200 then (z0, fst) else if hostL fs fv = false then (z0, 400) else (⟨fm, ft, fv, fs⟩, 200)) = X by rw [← HQ4.out, par2, hZ])
        have HFN := Lib.hid (show fs.length ≤ 32 ∧ ∀ x ∈ fs, x.1.length ≤ 4096 ∧ x.2.length ≤ 4096 from by
          have q1 := (flds_len ls [] (by simp)).1
          have q2 := flds_fits 4096 ls [] (fun x hx => HLB.out.2 x (by simp [hx])) (by simp)
          rw [hZ] at q1 q2
          exact ⟨q1, q2⟩)
        unfold FldPost at HFL
        rw [hZ] at HFL
        clear hZ HQ3 HQ4 hst1
        have HW3 := Lib.hid hw3
        clear hw3
        go_wp2_with fail
        rw [HW3.out]
        refine (HFL.out).mono ?_; rintro e w4 ⟨v4, rfl, ho4, hb4⟩
        obtain ⟨a4, c4, rfl⟩ := OwnF.shape ho4
        have HD4 := Lib.hid (bel_call HD3a.out hb4)
        have HX4 := Lib.hid (HX3a.out.below (by simp) hb4)
        have HXh4 := Lib.hid (HXh.out.below (by simp) hb4)
        obtain ⟨h0, h1, h2, h3⟩ := HXh4.out.four
        have hf := HXh4.out.fz
        have hset : Aside (fun k => k = w3.heap.size) w4 (w4.setCell ⟨w3.heap.size, 3, none⟩ (.slice a4 fs.length c4)) := Aside.setCell w4 (p := ⟨w3.heap.size, 3, none⟩) _ rfl
        have HXh5 := Lib.hid (show Cel (w4.setCell ⟨w3.heap.size, 3, none⟩ (.slice a4 fs.length c4)) w3.heap.size [.string (bs fm), .string (bs ft), .int .i64 fv, .slice a4 fs.length c4] from HXh4.out.set (o := 3) (by simp) (.slice a4 fs.length c4))
        have HX5b := Lib.hid (HX4.out.aside (by simp) hset (by have := HHN.out; omega))
        have ho5 := row_aside ho4 hset (fun k hk hg => by have := (World.ownsRow.lt ho4 k hk).1; have := HSa.out; omega)
        have HO5 := Lib.hid (show OwnF (w4.setCell ⟨w3.heap.size, 3, none⟩ (.slice a4 fs.length c4)) w3a.heap.size (.slice a4 fs.length c4) fs from ho5)
        have HD5 := Lib.hid (show Below W.heap.size W (w4.setCell ⟨w3.heap.size, 3, none⟩ (.slice a4 fs.length c4)) from HD4.out.setCell (p := ⟨w3.heap.size, 3, none⟩) (by have := HD3.out.size; show W.heap.size ≤ w3.heap.size; omega) (.slice a4 fs.length c4))
        have HHs := Lib.hid (hosted_any (w := w4.setCell ⟨w3.heap.size, 3, none⟩ (.slice a4 fs.length c4)) (h := ⟨fm, ft, fv, fs⟩) ⟨.slice a4 fs.length c4, rfl, HO5.out.sf (by have := HFN.out.1; omega)⟩ (Nat.le_refl _) ⟨by have := HFN.out.1; simp only; omega, fun x hx => by have := HFN.out.2 x hx; omega⟩)
        clear hb4 ho4 HXh HX3a HX4 HXh4 hset ho5
        by_cases hfs : fst = 200
        · subst hfs
          have t5 : ((200 : Int) != 200) = false := rfl
          have HQ6 := Lib.hid (show (if hostL fs fv = false then (z0, 400) else (⟨fm, ft, fv, fs⟩, 200)) = X from (if_neg (fun h => h rfl)).symm.trans HQ5.out)
          clear HQ5
          obtain ⟨KH, hKH⟩ : ∃ K, hostL fs fv = K := ⟨_, rfl⟩
          simp only [hKH] at HHs
          rw [hKH] at HQ6
          clear hKH
          go_wp2_with fail
          refine (HHs.out).mono ?_; rintro e w6 ⟨rfl, hb6⟩
          have HD6 := Lib.hid (bel_call HD5.out hb6)
          have HX6 := Lib.hid (HX5b.out.below (by simp) hb6)
          have HXh6 := Lib.hid (HXh5.out.below (by simp) hb6)
          have HO6 := Lib.hid (HO5.out.below hb6)
          clear hb6 h0 h1 h2 h3 hf
          obtain ⟨c0, c1', c2, c3⟩ := HX6.out.four
          have cf := HX6.out.fz
          cases KH with
          | false =>
            have HF := Lib.hid (show X = (z0, 400) by rw [← HQ6.out, if_pos rfl])
            clear HQ6
            go_wp2_with fail
            have HB6 := Lib.hid (HB0.out.trans (HD6.out.mono (by have := HSZ.out; omega)))
            have HK := Lib.hid (cel_put4 HX6.out (.string ⟨#[]⟩) (.string ⟨#[]⟩) (.int .i64 0) (.slice none 0 0))
            have HBf := Lib.hid (below_put4 HB6.out (Nat.le_refl _) (.string ⟨#[]⟩) (.string ⟨#[]⟩) (.int .i64 0) (.slice none 0 0))
            obtain ⟨m0, m1, m2, m3⟩ := HK.out.four
            unfold put4 at HBf m0 m1 m2 m3
            refine bodyPost_ret (v := .tuple #[hdv z0, .int .i64 400]) (by simp [results, Tryd.results6, go_sem, m0, m1, m2, m3]; rfl) rfl ⟨hdv z0, by rw [HF.out], by rw [HF.out]; exact ho_zero _ _, by rw [HNN.out]; exact HBf.out⟩
          | true =>
            have HF := Lib.hid (show X = (⟨fm, ft, fv, fs⟩, 200) by rw [← HQ6.out, if_neg (by simp)])
            clear HQ6
            obtain ⟨h0, h1, h2, h3⟩ := HXh6.out.four
            go_wp2_with fail
            have HB6 := Lib.hid (HB0.out.trans (HD6.out.mono (by have := HSZ.out; omega)))
            have HK := Lib.hid (cel_put4 HX6.out (.string (bs fm)) (.string (bs ft)) (.int .i64 fv) (.slice a4 fs.length c4))
            have HBf := Lib.hid (below_put4 HB6.out (Nat.le_refl _) (.string (bs fm)) (.string (bs ft)) (.int .i64 fv) (.slice a4 fs.length c4))
            have HOf := Lib.hid (show OwnF (put4 w6 N (.string (bs fm)) (.string (bs ft)) (.int .i64 fv) (.slice a4 fs.length c4)) w.heap.size (.slice a4 fs.length c4) fs from by
              have hlt := World.ownsRow.lt HO6.out
              have := HD3a.out.size
              have := HSZ.out
              refine row_base (row_aside HO6.out (aside_put4 w6 N _ _ _ _) (fun k hk hg => ?_)) (by rw [HNN.out]; omega)
              have := (hlt k hk).1
              omega)
            obtain ⟨m0, m1, m2, m3⟩ := HK.out.four
            unfold put4 at HBf HOf m0 m1 m2 m3
            clear c0 c1' c2 c3 h0 h1 h2 h3 cf
            refine bodyPost_ret (v := .tuple #[.agg #[.string (bs fm), .string (bs ft), .int .i64 fv, .slice a4 fs.length c4], .int .i64 200]) (by simp [results, Tryd.results6, go_sem, m0, m1, m2, m3]) rfl ⟨_, by rw [HF.out], by rw [HF.out]; exact ⟨_, rfl, HOf.out⟩, by rw [HNN.out]; exact HBf.out⟩
        · have t5 : (fst != 200) = true := by rw [bne_iff_ne]; exact hfs
          have HF := Lib.hid (show X = (z0, fst) by rw [← HQ5.out, if_pos hfs])
          clear hfs HQ5 HHs
          obtain ⟨w5, hw5⟩ : ∃ wx, w4.setCell ⟨w3.heap.size, 3, none⟩ (.slice a4 fs.length c4) = wx := ⟨_, rfl⟩
          rw [hw5] at HX5b HD5
          obtain ⟨c0, c1', c2, c3⟩ := HX5b.out.four
          have cf := HX5b.out.fz
          go_wp2_with fail
          have HB5 := Lib.hid (HB0.out.trans (HD5.out.mono (by have := HSZ.out; omega)))
          have HK := Lib.hid (cel_put4 HX5b.out (.string ⟨#[]⟩) (.string ⟨#[]⟩) (.int .i64 0) (.slice none 0 0))
          have HBf := Lib.hid (below_put4 HB5.out (Nat.le_refl _) (.string ⟨#[]⟩) (.string ⟨#[]⟩) (.int .i64 0) (.slice none 0 0))
          obtain ⟨m0, m1, m2, m3⟩ := HK.out.four
          unfold put4 at HBf m0 m1 m2 m3
          refine bodyPost_ret (v := .tuple #[hdv z0, .int .i64 fst]) (by simp [results, Tryd.results6, go_sem, m0, m1, m2, m3]; rfl) rfl ⟨hdv z0, by rw [HF.out], by rw [HF.out]; exact ho_zero _ _, by rw [HNN.out]; exact HBf.out⟩
      · have t4 : (st != 200) = true := by rw [bne_iff_ne]; exact hst
        have HF := Lib.hid (show X = (z0, st) by rw [← HQ3.out, if_pos hst])
        clear hst HQ3
        have HW3 := Lib.hid hw3
        clear hw3
        rw [← HW3.out] at HX3a HD3a
        obtain ⟨c0, c1', c2, c3⟩ := HX3a.out.four
        have cf := HX3a.out.fz
        go_wp2_with fail
        have HB3a := Lib.hid (HB0.out.trans (HD3a.out.mono (by have := HSZ.out; omega)))
        have HK := Lib.hid (cel_put4 HX3a.out (.string ⟨#[]⟩) (.string ⟨#[]⟩) (.int .i64 0) (.slice none 0 0))
        have HBf := Lib.hid (below_put4 HB3a.out (Nat.le_refl _) (.string ⟨#[]⟩) (.string ⟨#[]⟩) (.int .i64 0) (.slice none 0 0))
        obtain ⟨m0, m1, m2, m3⟩ := HK.out.four
        unfold put4 at HBf m0 m1 m2 m3
        refine bodyPost_ret (v := .tuple #[hdv z0, .int .i64 st]) (by simp [results, Tryd.results6, go_sem, m0, m1, m2, m3]; rfl) rfl ⟨hdv z0, by rw [HF.out], by rw [HF.out]; exact ho_zero _ _, by rw [HNN.out]; exact HBf.out⟩
  end Go.Proofs.YtknfgcmidpgifaaDoor

/-
  Heads, as the statements compare, measure and copy them.
-/
namespace Go.Proofs.YtknfgcmidpgifaaDoor
open Go.RowKit Go.Shelf
set_option linter.unusedVariables false
set_option linter.unusedSimpArgs false
set_option maxRecDepth 100000

theorem neqF (x : Fd) (w : World) : (binOp .neq 33 (.agg #[.string (bs x.1), .string (bs x.2)]) (.agg #[.string (bs x.1), .string (bs x.2)])).run Tryd.prog w = .ok (.bool false) w := by
  have hS : Tryd.prog.underlying 33 = some (.struct (Tryd.prog.fieldsOf 33)) := by kernel_rfl
  have hI : Tryd.prog.stoodInHeld 33 = false := by kernel_rfl
  have u9 := Tryd.underlying9
  have a9 := Tryd.isAgg9
  have z9 := Tryd.sizeOf9
  rw [run_neq_struct, run_equalIn_agg _ _ _ _ _ hS hI]
  simp only [Program.fieldsOf, Tryd.underlying33]
  go_simp

set_option maxHeartbeats 1000000 in
theorem sameF_yes {w : World} {hi hi' : Nat} {u v : Value} {l : List Fd} (h : SF w hi u l) (h' : SF w hi' v l) (h1 : hi ≤ w.heap.size) (h2 : hi' ≤ w.heap.size) :
    Calls Tryd.prog 25 #[u, v] w (Tells w (.bool true)) := by
  have HN := Lib.hid (Lst.len h)
  obtain ⟨a, c, rfl⟩ := Lst.shape h
  obtain ⟨a', c', rfl⟩ := Lst.shape h'
  have HS := Lib.hid h
  have HS' := Lib.hid h'
  have HH := Lib.hid (And.intro h1 h2)
  have HB := Lib.hid (Below.refl w.heap.size w)
  clear h h' h1 h2
  go_enter Tryd.func25, Tryd.ntmps25
  go_wp2_with fail
  go_loopg [5] l.length (fun g v5 wr => ∃ k : Nat, k + g = l.length ∧ v5 = .int .i64 k ∧ Hid (Below w.heap.size w wr))
  case atStart => exact ⟨0, by omega, rfl, HB⟩
  case round =>
    clear HB
    obtain ⟨k, hk, rfl, HB⟩ := hrel
    have hlen := HN.out
    by_cases hlt : k < l.length
    · obtain ⟨b, off, c2, he, hb, hc⟩ := HS.out.at_ k hlt
      obtain ⟨b', off', c2', he', hb', hc'⟩ := HS'.out.at_ k hlt
      injection he with he hn3 hc3
      injection he' with he' hn3' hc3'
      clear hn3 hc3 hn3' hc3'
      subst he; subst he'
      obtain ⟨p0, p1⟩ := hc.keep fun o => HB.out.cell (p := ⟨b, o, none⟩) (by have := HH.out.1; show b < w.heap.size; omega)
      obtain ⟨q0, q1⟩ := hc'.keep fun o => HB.out.cell (p := ⟨b', o, none⟩) (by have := HH.out.2; show b' < w.heap.size; omega)
      have HE := fun wx => neqF l[k] wx
      obtain ⟨x, hx⟩ : ∃ x, l[k] = x := ⟨_, rfl⟩
      rw [hx] at p0 p1 q0 q1 HE
      have HB2 := Lib.hid (fun n => below_drewN HB.out n)
      clear hc hc' hx HB
      go_wp2_with fail
      go_quiet (fail)
      go_wp2_with fail
      go_roundg (l.length - (k + 1))
      case measure => omega
      case rel => exact ⟨k + 1, by omega, by go_num, HB2.out _⟩
    · have t1 : ¬ ((k : Int) < l.length) := by omega
      go_wp2_with fail
      go_ret
      exact ⟨rfl, HB.out⟩

set_option maxHeartbeats 1000000 in
theorem sameH_yes {w : World} {hi hi' : Nat} {u v : Value} {h : Hd} (hu : Hv w hi u h) (hv : Hv w hi' v h) (h1 : hi ≤ w.heap.size) (h2 : hi' ≤ w.heap.size) :
    Calls Tryd.prog 8 #[u, v] w (Tells w (.bool true)) := by
  obtain ⟨m, t, n, l⟩ := h
  obtain ⟨s, rfl, hs⟩ := hu
  obtain ⟨s', rfl, hs'⟩ := hv
  simp only at hs hs' ⊢
  have hb1 : Below w.heap.size w (w.alloc (.cells #[.string (bs m), .string (bs t), .int .i64 n, s] 27)) := (Below.refl _ _).alloc (Nat.le_refl _) _
  have hb2 : Below w.heap.size w ((w.alloc (.cells #[.string (bs m), .string (bs t), .int .i64 n, s] 27)).alloc (.cells #[.string (bs m), .string (bs t), .int .i64 n, s'] 27)) := hb1.alloc hb1.size _
  have HF := Lib.hid (sameF_yes (show SF _ hi s l from Lst.below hs hb2 h1) (show SF _ hi' s' l from Lst.below hs' hb2 h2) (Nat.le_trans h1 hb2.size) (Nat.le_trans h2 hb2.size))
  have HB2 := Lib.hid hb2
  clear hs hs' hb1 hb2
  go_enter Tryd.func8, Tryd.ntmps8
  go_wp2_with fail
  refine (HF.out).mono ?_; rintro e w2 ⟨rfl, hb3⟩
  have HB3 := Lib.hid (HB2.out.trans (hb3.mono HB2.out.size))
  clear hb3
  go_wp2_with fail
  go_ret
  exact ⟨rfl, HB3.out⟩

/-! ### how much -/
end Go.Proofs.YtknfgcmidpgifaaDoor

/-
  The statements' own helpers: of, status; awake.
-/
namespace Go.Proofs.YtknfgcmidpgifaaDoor
open Go.RowKit Go.Shelf
set_option linter.unusedVariables false
set_option linter.unusedSimpArgs false
set_option maxRecDepth 100000

def mGet : List UInt8 := [71, 69, 84]
def tA : List UInt8 := [47, 97]
def hof (n : Int) (name value : List UInt8) : Hd := ⟨mGet, tA, n, [(name, value)]⟩

theorem own_one (w : World) (B : Nat) (x : Fd) (hB : B ≤ w.heap.size) : OwnF (w.alloc (.cells #[.string (bs x.1), .string (bs x.2)] 33)) B (.slice (some ⟨w.heap.size, 0, none⟩) 1 1) [x] :=
  ⟨rfl, .inr ⟨w.heap.size, 1, _, rfl, hB, World.alloc_heap_new _ _, Nat.le_refl _, by unfold maxLen; omega, rfl, rfl⟩⟩

set_option maxHeartbeats 1000000 in
theorem of_any (n : Int) (name value : List UInt8) (w : World) : Calls Tryd.prog 10 #[.int .i64 n, .string (bs name), .string (bs value)] w fun e w' => ∃ a, e = .returned (.agg #[.string (bs mGet), .string (bs tA), .int .i64 n, .slice a 1 1]) ∧ OwnF w' w.heap.size (.slice a 1 1) [(name, value)] ∧ Below w.heap.size w w' := by
  obtain ⟨N, hN⟩ : ∃ N, w.heap.size = N := ⟨_, rfl⟩
  obtain ⟨W1, hW1⟩ : ∃ W, w.alloc (.cells #[.string ⟨#[]⟩, .string ⟨#[]⟩, .int .i64 0, .slice none 0 0] 27) = W := ⟨_, rfl⟩
  obtain ⟨W2, hW2⟩ : ∃ W, W1.alloc (.cells #[.string (bs name), .string (bs value)] 33) = W := ⟨_, rfl⟩
  have s1 : W1.heap.size = N + 1 := by rw [← hW1]; simp [hN]
  have b1 : Below w.heap.size w W1 := by rw [← hW1]; exact (Below.refl _ _).alloc (Nat.le_refl _) _
  have b12 : Below W1.heap.size W1 W2 := by rw [← hW2]; exact (Below.refl _ _).alloc (Nat.le_refl _) _
  have b2 : Below N w W2 := by rw [← hN]; exact bel_call b1 b12
  have x1 : Cel W1 N [.string ⟨#[]⟩, .string ⟨#[]⟩, .int .i64 0, .slice none 0 0] := by rw [← hW1, ← hN]; exact cel_new4 _ _ _ _ _ _
  have x2 := x1.below (by simp) b12
  have o2 : OwnF W2 (N + 1) (.slice (some ⟨N + 1, 0, none⟩) 1 1) [(name, value)] := by
    rw [← hW2]
    have := own_one W1 (N + 1) (name, value) (by omega)
    rw [s1] at this
    exact this
  have HK := Lib.hid (cel_put4 x2 (.string (bs mGet)) (.string (bs tA)) (.int .i64 n) (.slice (some ⟨N + 1, 0, none⟩) 1 1))
  have HBf := Lib.hid (below_put4 b2 (Nat.le_refl _) (.string (bs mGet)) (.string (bs tA)) (.int .i64 n) (.slice (some ⟨N + 1, 0, none⟩) 1 1))
  have HOf := Lib.hid (show OwnF (put4 W2 N (.string (bs mGet)) (.string (bs tA)) (.int .i64 n) (.slice (some ⟨N + 1, 0, none⟩) 1 1)) N (.slice (some ⟨N + 1, 0, none⟩) 1 1) [(name, value)] from
    row_base (row_aside o2 (aside_put4 W2 N _ _ _ _) (fun k hk hg => by have := (World.ownsRow.lt o2 k hk).1; omega)) (by omega))
  obtain ⟨c0, c1, c2, c3⟩ := x2.four
  have cf := x2.fz
  obtain ⟨m0, m1, m2, m3⟩ := HK.out.four
  have e1 : bs mGet = ⟨#[71, 69, 84]⟩ := rfl
  have e2 : bs tA = ⟨#[47, 97]⟩ := rfl
  rw [e1, e2] at HBf HOf m0 m1 m2 m3
  rw [e1, e2]
  unfold put4 at HBf HOf m0 m1 m2 m3
  clear x1 x2 o2 b1 b12 b2 HK e1 e2
  go_enter Tryd.func10, Tryd.ntmps10
  go_wp2_with fail
  refine bodyPost_ret (by simp [results, Tryd.results10, go_sem, m0, m1, m2, m3]) rfl ⟨some ⟨N + 1, 0, none⟩, rfl, by rw [hN]; exact HOf.out, by rw [hN]; exact HBf.out⟩

set_option maxHeartbeats 1000000 in
theorem status_any {w : World} (s : List UInt8) (hs : s.length ≤ 1000000) (hE : Env w) : Calls Tryd.prog 11 #[.string (bs s)] w (Tells w (.int .i64 (parH s).2)) := by
  obtain ⟨cap, W, hcv, ho, hb, _⟩ := conv_B w s hs
  have HP := Lib.hid (parse_any s ((ho.sl).wide (Nat.zero_le _) (Nat.le_refl _)) (hE.later hb) hs)
  have HB := Lib.hid hb
  obtain ⟨R, hR⟩ : ∃ R, parH s = R := ⟨_, rfl⟩
  obtain ⟨hd, st⟩ := R
  unfold HedPost at HP
  rw [hR] at HP ⊢
  clear ho hb hR hE
  go_enter Tryd.func11, Tryd.ntmps11
  go_wp2_with fail
  refine (HP.out).mono ?_; rintro e w2 ⟨v, rfl, ⟨sl, rfl, ho⟩, hb2⟩
  obtain ⟨a2, c2, rfl⟩ := OwnF.shape ho
  have HB2 := Lib.hid (bel_call HB.out hb2)
  clear ho hb2
  go_wp2_with fail
  go_ret
  exact ⟨rfl, bel_alloc HB2.out _⟩
end Go.Proofs.YtknfgcmidpgifaaDoor

/-
  The statements' awake.
-/
namespace Go.Proofs.YtknfgcmidpgifaaDoor
open Go.RowKit Go.Shelf
set_option linter.unusedVariables false
set_option linter.unusedSimpArgs false
set_option maxRecDepth 100000

/-- Bytes that were just laid. -/
theorem sl_const (w : World) (l : List UInt8) (fz : Nat × Nat) (cs : Array Value) (h : cs = (l.map fun c => Value.int .u8 (c.toNat : Nat)).toArray) :
    Sl (w.alloc (.cells cs 5 fz)) w.heap.size (w.heap.size + 1) (.slice (some ⟨w.heap.size, 0, none⟩) l.length l.length) (iz l) := by
  subst h
  refine ⟨_, l.length, by rw [iz_len], by rw [iz_len]; exact Nat.le_refl _, fun h => by simp at h, fun _ => ⟨_, _, rfl, Nat.le_refl _, by omega, fun j hj => ?_⟩⟩
  rw [iz_len] at hj
  rw [World.cell?, heap_alloc_new, Nat.zero_add]
  simp only [List.getElem?_toArray, List.getElem?_map, List.getElem?_eq_getElem hj, Option.map_some]
  rw [iz_get l j hj]
  rfl

def ex1 : List UInt8 := [71, 69, 84, 32, 47, 97, 32, 72, 84, 84, 80, 47, 49, 46, 49, 13, 10, 72, 111, 115, 116, 58, 32, 120, 13, 10, 13, 10]
def ex2 : List UInt8 := [71, 69, 84, 32, 47, 97, 32, 72, 84, 84, 80, 47, 49, 46, 49, 13, 10, 13, 10]
def ex3 : List UInt8 := [71, 69, 84, 32, 47, 97, 32, 72, 84, 84, 80, 47, 50, 46, 48, 13, 10, 13, 10]
def nH : List UInt8 := [72, 111, 115, 116]
theorem par_ex1 : parH ex1 = (hof 1 nH [120], 200) := by rfl
theorem par_ex2 : (parH ex2).2 = 400 := by rfl
theorem par_ex3 : (parH ex3).2 = 505 := by rfl

theorem Calls.at_world {P : Program} {f : Nat} {args : Array Value} {w w' : World} {R : Ending → World → Prop} (h : w = w') (hc : Calls P f args w' R) : Calls P f args w R := h ▸ hc

set_option maxHeartbeats 8000000 in
theorem awake_any {w : World} (hE : Env w) : Calls Tryd.prog 4 #[] w (Tells w (.bool true)) := by
  have hcv := fun (w : World) (C : Array Value) (n c : Nat) => Lib.run_convert_bytes_const (P := Tryd.prog) w 22 5 C n c Tryd.underlying22 Tryd.underlying5
  obtain ⟨X0, hX0⟩ : ∃ X, w.alloc (.cells (ex1.map fun c => Value.int .u8 (c.toNat : Nat)).toArray 5 (28, 29)) = X := ⟨_, rfl⟩
  have hs0 : Sl X0 w.heap.size (w.heap.size + 1) (.slice (some ⟨w.heap.size, 0, none⟩) 28 28) (iz ex1) := by rw [← hX0]; exact sl_const w ex1 (28, 29) _ rfl
  have hb0 : Below w.heap.size w X0 := by rw [← hX0]; exact (Below.refl _ _).alloc (Nat.le_refl _) _
  have hz0 : X0.heap.size = w.heap.size + 1 := by rw [← hX0]; simp
  have HP := Lib.hid (parse_any ex1 (hs0.wide (Nat.zero_le _) (by rw [hz0]; exact Nat.le_refl _)) (hE.later hb0) (by decide))
  unfold HedPost at HP
  rw [par_ex1] at HP
  have HB0 := Lib.hid hb0
  have HE := Lib.hid hE
  have HX0 := Lib.hid hX0
  clear hs0 hb0 hz0 hE hX0
  go_enter Tryd.func4, Tryd.ntmps4
  go_wp2_with fail
  refine Calls.at_world (show _ = X0 from HX0.out) ?_
  refine (HP.out).mono ?_; rintro e w1 ⟨v1, rfl, ⟨sl, hv1, ho⟩, hb1⟩
  have hv1 : v1 = .agg #[.string (bs mGet), .string (bs tA), .int .i64 1, sl] := hv1
  subst hv1
  obtain ⟨a1, c1, hsl⟩ := OwnF.shape ho
  have hsl : sl = .slice a1 1 c1 := hsl
  subst hsl
  have HB1 := Lib.hid (bel_call HB0.out hb1)
  have hh1 : Hv w1 w1.heap.size (.agg #[.string (bs mGet), .string (bs tA), .int .i64 1, .slice a1 1 c1]) (hof 1 nH [120]) := ⟨_, rfl, OwnF.sf ho (by decide)⟩
  obtain ⟨W, hW⟩ : ∃ W, w1.alloc (.cells #[.string (bs mGet), .string (bs tA), .int .i64 1, .slice a1 1 c1] 27) = W := ⟨_, rfl⟩
  have hbW : Below w1.heap.size w1 W := by rw [← hW]; exact (Below.refl _ _).alloc (Nat.le_refl _) _
  have hxW : Cel W w1.heap.size [.string (bs mGet), .string (bs tA), .int .i64 1, .slice a1 1 c1] := by rw [← hW]; exact cel_new4 _ _ _ _ _ _
  have HXW := Lib.hid hxW
  have HBW := Lib.hid (bel_call HB1.out hbW)
  have HHW := Lib.hid (hh1.later hbW)
  have HW := Lib.hid hW
  clear ho hb1 hh1 hbW hW hxW
  go_wp2_with fail
  rw [HW.out]
  have hq : ∀ w2, Below W.heap.size W w2 → w2.cell? ⟨w1.heap.size, 0, none⟩ = some (.string (bs mGet)) ∧ w2.cell? ⟨w1.heap.size, 1, none⟩ = some (.string (bs tA)) ∧ w2.cell? ⟨w1.heap.size, 2, none⟩ = some (.int .i64 1) ∧ w2.cell? ⟨w1.heap.size, 3, none⟩ = some (.slice a1 1 c1) := fun w2 hb => (HXW.out.below (by simp) hb).four
  have HQ := Lib.hid hq
  have HOF := Lib.hid (fun w => of_any 1 nH [120] w)
  have HS2 := Lib.hid (fun (w2 : World) (hb : Below W.heap.size W w2) => status_any ex2 (by decide) (HE.out.later (bel_call HBW.out hb)))
  have HS3 := Lib.hid (fun (w2 : World) (hb : Below W.heap.size W w2) => status_any ex3 (by decide) (HE.out.later (bel_call HBW.out hb)))
  rw [par_ex2] at HS2
  rw [par_ex3] at HS3
  clear hq hcv HP HX0 HW
  go_region_held3 (fun wx => wx.cell? ⟨w1.heap.size, 0, none⟩ = some (.string (bs mGet)) ∧ wx.cell? ⟨w1.heap.size, 1, none⟩ = some (.string (bs tA)) ∧ wx.cell? ⟨w1.heap.size, 2, none⟩ = some (.int .i64 1) ∧ wx.cell? ⟨w1.heap.size, 3, none⟩ = some (.slice a1 1 c1)) (first | exact HQ.out _ (Below.refl _ W).drew | exact HQ.out _ HB2.out | exact HQ.out _ HB3.out | exact HQ.out _ HB4.out | exact HQ.out _ HB5.out) (first
    | (go_at_call 10; refine (HOF.out W.drew).mono ?_; rintro e w2 ⟨a2, rfl, ho2, hb2⟩; have HB2 : Hid (Below W.heap.size W w2) := bel_call (Below.refl _ W).drew hb2; have HO2 : Hid (SF w2 w2.heap.size (.slice a2 1 1) [(nH, [120])]) := OwnF.sf ho2 (by decide); clear ho2 hb2)
    | (go_at_call 8; refine (sameH_yes (HHW.out.later HB2.out) (h := hof 1 nH [120]) ⟨_, rfl, HO2.out⟩ (Nat.le_refl _) (Nat.le_refl _)).mono ?_; rintro e w3 ⟨rfl, hb3⟩; have HB3 : Hid (Below W.heap.size W w3) := bel_call HB2.out hb3; clear hb3)
    | (go_at_call 11; refine (HS3.out _ HB4.out).mono ?_; rintro e w5 ⟨rfl, hb5⟩; have HB5 : Hid (Below W.heap.size W w5) := bel_call HB4.out hb5; clear hb5)
    | (go_at_call 11; refine (HS2.out _ HB3.out).mono ?_; rintro e w4 ⟨rfl, hb4⟩; have HB4 : Hid (Below W.heap.size W w4) := bel_call HB3.out hb4; clear hb4))
  all_goals
    go_wp2_with fail
    go_ret
    exact ⟨rfl, bel_call HBW.out HB5.out⟩
end Go.Proofs.YtknfgcmidpgifaaDoor

/-
  Check.
-/
namespace Go.Proofs.YtknfgcmidpgifaaDoor
open Go.RowKit Go.Shelf
set_option linter.unusedVariables false
set_option linter.unusedSimpArgs false
set_option maxRecDepth 100000

theorem Hv.sf {w : World} {hi : Nat} {x y z sl : Value} {h : Hd} (hv : Hv w hi (.agg #[x, y, z, sl]) h) : SF w hi sl h.fs := by
  obtain ⟨s, e, h1⟩ := hv
  injection e with e
  have := congrArg (fun q : Array Value => q[3]?) e
  simp at this
  rw [this]; exact h1

end Go.Proofs.YtknfgcmidpgifaaDoor

/-
  The document's bytes of a head.
-/
namespace Go.Proofs.YtknfgcmidpgifaaDoor
open Go.RowKit Go.Shelf
set_option linter.unusedVariables false
set_option linter.unusedSimpArgs false
set_option maxRecDepth 100000

theorem adds_run (a b : List UInt8) (ha : a.length ≤ 1000000) (hb : b.length ≤ 1000000) (w : World) : (Op.stringOp .add (bs a) (bs b)).run Tryd.prog w = .ok (.string (bs (a ++ b))) w := by
  have h1 := bs_size a
  have h2 := bs_size b
  rw [run_string_add_sum w _ _ (by omega)]
  congr 2
end Go.Proofs.YtknfgcmidpgifaaDoor

/-
  The statement HeadWrites.
-/
namespace Go.Proofs.YtknfgcmidpgifaaDoor
open Go.RowKit Go.Shelf
set_option linter.unusedVariables false
set_option linter.unusedSimpArgs false
set_option maxRecDepth 100000

theorem OwnF.lt {w : World} {B : Nat} {v : Value} {l : List Fd} (h : OwnF w B v l) : ∀ k, v.ownBlock = some k → B ≤ k ∧ k < w.heap.size := World.ownsRow.lt h
end Go.Proofs.YtknfgcmidpgifaaDoor

/-
  strings.SplitSeq; loops over an iterator in a loop: what is left to be taken over at the return.
-/
namespace Go.Proofs.YtknfgcmidpgifaaDoor
open Go.RowKit Go.Shelf
set_option linter.unusedVariables false
set_option linter.unusedSimpArgs false
set_option maxRecDepth 100000

/-- Blocks of deferred calls, none of which holds one; each below the one ahead of it. -/
def MkL (lo : Nat) : List Deferred → Nat → World → Prop
  | [], _, _ => True
  | d :: r, hi, W => ∃ D, lo ≤ D ∧ D < hi ∧ d.target = .collected D ∧ W.heap[D]? = some (.deferred (some [])) ∧ MkL lo r D W
theorem MkL.keep {lo : Nat} {W W' : World} : ∀ {ds : List Deferred} {hi : Nat}, MkL lo ds hi W → (∀ b, lo ≤ b → b < hi → W'.heap[b]? = W.heap[b]?) → MkL lo ds hi W'
  | [], _, _, _ => trivial
  | d :: r, hi, ⟨D, h1, h2, h3, h4, h5⟩, hk => ⟨D, h1, h2, h3, (hk D h1 h2).trans h4, MkL.keep h5 fun b hb hb2 => hk b hb (by omega)⟩
theorem MkL.wide {lo : Nat} {W : World} : ∀ {ds : List Deferred} {hi hi' : Nat}, MkL lo ds hi W → hi ≤ hi' → MkL lo ds hi' W
  | [], _, _, _, _ => trivial
  | d :: r, hi, hi', ⟨D, h1, h2, h3, h4, h5⟩, hh => ⟨D, h1, by omega, h3, h4, h5⟩

end Go.Proofs.YtknfgcmidpgifaaDoor

/-
  Whether the connection goes on.
-/
namespace Go.Proofs.YtknfgcmidpgifaaDoor
open Go.RowKit Go.Shelf
set_option linter.unusedVariables false
set_option linter.unusedSimpArgs false
set_option maxRecDepth 100000
attribute [local go_sem] Oper.semAt_some

/-- The two boxes. -/
def KC (w : World) (N : Nat) (kc : Bool) : Prop := w.cell? ⟨N + 1 + 1, 0, none⟩ = some (.bool kc) ∧ w.frozen? ⟨N + 1 + 1, 0, none⟩ = false ∧ w.cell? ⟨N + 1, 0, none⟩ = some (.bool false) ∧ w.frozen? ⟨N + 1, 0, none⟩ = false
theorem KC.aside {w w' : World} {N : Nat} {kc : Bool} {G : Nat → Prop} (h : KC w N kc) (ha : Aside G w w') (h1 : ¬ G (N + 1)) (h2 : ¬ G (N + 1 + 1)) : KC w' N kc := by
  obtain ⟨e1, e2, e3, e4⟩ := h
  have l1 := World.block_lt_of_cell? w _ e1
  have l3 := World.block_lt_of_cell? w _ e3
  exact ⟨ha.cell_lt e1 h2, (ha.frozen (p := ⟨N + 1 + 1, 0, none⟩) l1 h2).trans e2, ha.cell_lt e3 h1, (ha.frozen (p := ⟨N + 1, 0, none⟩) l3 h1).trans e4⟩
theorem KC.set {w : World} {N : Nat} {kc : Bool} (h : KC w N kc) (b : Bool) : KC (w.setCell ⟨N + 1 + 1, 0, none⟩ (.bool b)) N b := by
  obtain ⟨e1, e2, e3, e4⟩ := h
  refine ⟨World.cell?_setCell_same _ _ _ e1, by rw [World.frozen?_setCell]; exact e2, (World.cell?_setCell_other _ _ _ _ (fun e => ?_)).trans e3, by rw [World.frozen?_setCell]; exact e4⟩
  have := congrArg Addr.block e
  simp at this
end Go.Proofs.YtknfgcmidpgifaaDoor

/-
  The document's words; its Keep.
-/
namespace Go.Proofs.YtknfgcmidpgifaaDoor
open Go.RowKit Go.Shelf
set_option linter.unusedVariables false
set_option linter.unusedSimpArgs false
set_option maxRecDepth 100000

def SpPost (w : World) (L : List (List UInt8)) (e : Ending) (w' : World) : Prop := ∃ v, e = .returned v ∧ OwnT w' w.heap.size v L ∧ Below w.heap.size w w'

set_option maxHeartbeats 4000000 in
theorem rsplit_any {w : World} (s : List UInt8) (c : UInt8) (hs : s.length ≤ 900000) : Calls Tryd.prog 18 #[.string (bs s), .int .u8 (c.toNat : Nat)] w (SpPost w (spl c s)) := by
  obtain ⟨X, hX⟩ : ∃ X, spl c s = X := ⟨_, rfl⟩
  rw [hX]
  have H0 := Lib.hid (show splA c [] [] s = X by rw [splA_0]; exact hX)
  have HB := Lib.hid (Below.refl w.heap.size w)
  clear hX
  go_enter Tryd.func18, Tryd.ntmps18
  go_wp2_with fail
  go_loopg [5, 6, 7] s.length (fun g v5 v6 v7 wr => ∃ (k : Nat) (out : List (List UInt8)) (wd : List UInt8), k + g = s.length ∧ v7 = .int .i64 k ∧ v6 = .string (bs wd) ∧ out.length + wd.length ≤ k ∧ Hid (OwnT wr w.heap.size v5 out) ∧ Hid (splA c out wd (s.drop k) = X) ∧ Hid (Below w.heap.size w wr))
  case atStart => exact ⟨0, [], [], by omega, rfl, rfl, by simp, OwnT.nil _ _, by simpa using H0, HB⟩
  case round =>
    clear H0 HB
    obtain ⟨k, out, wd, hk, rfl, rfl, hlen, HO, HS, HB⟩ := hrel
    obtain ⟨a5, c5, rfl⟩ := HO.out.shape
    have hkb : k ≤ 900000 := by omega
    by_cases hlt : k < s.length
    · have ia := ix_run s k hlt
      have hcut := cut_run s k (k + 1) (by omega) (by omega)
      have hdr : s.drop k = s[k] :: s.drop (k + 1) := List.drop_eq_getElem_cons hlt
      rw [show k + 1 - k = 1 by omega, hdr] at hcut
      have hS := HS.out
      rw [hdr] at hS
      obtain ⟨x, hx⟩ : ∃ x, s[k] = x := ⟨_, rfl⟩
      rw [hx] at ia hS hcut
      have hcut : ∀ w, (Instr.slice 9 (.string (bs s)) (some (.int .i64 k)) (some (.int .i64 (k + 1))) none).run Tryd.prog w = .ok (.string (bs [x])) w := fun w => by
        have := hcut w
        simpa using this
      by_cases hxc : x = c
      · subst hxc
        have HS2 := Lib.hid (show splA x (out ++ [wd]) [] (s.drop (k + 1)) = X by rw [← hS, splA_sep])
        clear hS hdr hx hcut
        go_wp2_with (at_builtin; refine wpList_appT rfl (.tmp 19) (.tmp 21) rfl rfl w.heap.size ?l1 ?h1 _ _ out [wd] rfl rfl ?a1 ?b1 ?c1 ?d1 ?_)
        case l1 => exact wr.heap.size
        case h1 => exact wr.heap.size + 1
        case a1 => exact HO.out.below ((Below.refl _ _).alloc (Nat.le_refl _) _)
        case b1 => exact st_one wr wd
        case c1 => first | omega | (simp; omega)
        case d1 => have := HB.out.size; simp; omega
        intro a' c' w' HO3 hb3
        have HB3 := Lib.hid ((HB.out.alloc HB.out.size _).trans hb3.out)
        clear hb3
        go_wp2_with fail
        go_roundg (s.length - (k + 1))
        case measure => omega
        case rel => exact ⟨k + 1, out ++ [wd], [], by omega, by go_num, rfl, by simp; omega, HO3, HS2, HB3⟩
      · have HS2 := Lib.hid (show splA c out (wd ++ [x]) (s.drop (k + 1)) = X by rw [← hS, splA_go _ _ _ _ _ hxc])
        have t1 : ((x.toNat : Int) == c.toNat) = false := by
          rw [beq_eq_false_iff_ne]
          exact fun e => hxc (UInt8.toNat_inj.mp (by exact_mod_cast e))
        have r1 : ∀ w, (Op.stringOp .add (bs wd) (bs [x])).run Tryd.prog w = .ok (.string (bs (wd ++ [x]))) w := fun w => adds_run wd [x] (by omega) (by simp) w
        clear hS hdr hx hxc
        go_wp2_with fail
        go_roundg (s.length - (k + 1))
        case measure => omega
        case rel => exact ⟨k + 1, out, wd ++ [x], by omega, by go_num, rfl, by simp; omega, HO, HS2, HB⟩
    · have t1 : ¬ ((k : Int) < s.length) := by omega
      have HXX := Lib.hid (show X = out ++ [wd] by rw [← HS.out, List.drop_of_length_le (by omega), splA_nil])
      go_wp2_with (at_builtin; refine wpList_appT rfl (.tmp 30) (.tmp 32) rfl rfl w.heap.size ?l1 ?h1 _ _ out [wd] rfl rfl ?a1 ?b1 ?c1 ?d1 ?_)
      case l1 => exact wr.heap.size
      case h1 => exact wr.heap.size + 1
      case a1 => exact HO.out.below ((Below.refl _ _).alloc (Nat.le_refl _) _)
      case b1 => exact st_one wr wd
      case c1 => first | omega | (simp; omega)
      case d1 => have := HB.out.size; simp; omega
      intro a' c' w' HO3 hb3
      have HB3 := Lib.hid ((HB.out.alloc HB.out.size _).trans hb3.out)
      clear hb3
      go_wp2_with fail
      go_ret
      exact ⟨_, rfl, by rw [HXX.out]; exact HO3.out, HB3.out⟩

end Go.Proofs.YtknfgcmidpgifaaDoor

/-
  The statement HeadLengths.
-/
namespace Go.Proofs.YtknfgcmidpgifaaDoor
open Go.RowKit Go.Shelf
set_option linter.unusedVariables false
set_option linter.unusedSimpArgs false
set_option maxRecDepth 100000

/-- A field more, in a row that stands in a box's last cell: what runs, what lies behind it. -/
theorem box_app {w : World} {B q n c : Nat} {a : Option Addr} {l : List Fd} {b0 b1 b2 : Value} (x : Fd) (ho : OwnF w B (.slice a n c) l) (hn : n = l.length) (hx : Cel w q [b0, b1, b2, .slice a n c]) (hq : ∀ k, (Value.slice a n c).ownBlock = some k → k ≠ q) (hB : B ≤ w.heap.size) (hl : n + 1 ≤ 1000000) :
    ∃ a' c' w', (Builtin.append_ #[25, 25] 25 #[.slice a n c, .slice (some ⟨w.heap.size, 0, none⟩) 1 1]).run Tryd.prog (w.alloc (.cells #[.string (bs x.1), .string (bs x.2)] 33)) = .ok (.slice a' (n + 1) c') w' ∧
      w'.cell? ⟨q, 3, none⟩ = some (.slice a n c) ∧ (∀ j, w'.frozen? ⟨q, j, none⟩ = false) ∧
      Cel (w'.setCell ⟨q, 3, none⟩ (.slice a' (n + 1) c')) q [b0, b1, b2, .slice a' (n + 1) c'] ∧ OwnF (w'.setCell ⟨q, 3, none⟩ (.slice a' (n + 1) c')) B (.slice a' (n + 1) c') (l ++ [x]) ∧
      (∀ k, (Value.slice a' (n + 1) c').ownBlock = some k → k ≠ q) ∧ Aside (fun b => b = q ∨ B ≤ b) w (w'.setCell ⟨q, 3, none⟩ (.slice a' (n + 1) c')) := by
  subst hn
  have hal : Below w.heap.size w (w.alloc (.cells #[.string (bs x.1), .string (bs x.2)] 33)) := (Below.refl _ _).alloc (Nat.le_refl _) _
  have ho1 := ho.below hal
  have hlt := World.ownsRow.lt ho
  obtain ⟨a', c', w', h1, h2, h3, h4⟩ := run_appF ho1 (sf_one w x) (by simpa using hl) (by rw [World.size_alloc]; omega)
  simp only [List.length_singleton] at h1 h2 h4
  have hxx := (hx.below (by simp) hal).aside (by simp) h3 (fun h => hq _ h rfl)
  have hql := hx.lt (by simp)
  have hq' : ∀ k, (Value.slice a' (l.length + 1) c').ownBlock = some k → k ≠ q := fun k hk => by
    rcases h4 with h4 | h4
    · rw [h4] at hk; exact hq k hk
    · rw [h4, World.size_alloc] at hk
      injection hk with hk
      omega
  have hst : Aside (fun k => k = q) w' (w'.setCell ⟨q, 3, none⟩ (.slice a' (l.length + 1) c')) := Aside.setCell w' (p := ⟨q, 3, none⟩) _ rfl
  refine ⟨a', c', w', h1, hxx.c 3 (by simp), hxx.fz, hxx.set (o := 3) (by simp) _, row_aside h2 hst (fun k hk hg => hq' k hk hg), hq', ?_⟩
  exact (((Aside.of_all hal).trans (h3.mono fun k _ hk => .inr (hlt k hk).1)).trans (hst.mono fun k _ hk => .inl hk))

theorem hv_own {w : World} {B n c : Nat} {a : Option Addr} {l : List Fd} {m t : List UInt8} {v : Int} (ho : OwnF w B (.slice a n c) l) (hl : l.length ≤ 1000000) : Hv w w.heap.size (.agg #[.string (bs m), .string (bs t), .int .i64 v, .slice a n c]) ⟨m, t, v, l⟩ := ⟨_, rfl, ho.sf hl⟩

end Go.Proofs.YtknfgcmidpgifaaDoor

/-
  What is parsed may be, but for how long it is; blanks; a byte 10 in a line.
-/
namespace Go.Proofs.YtknfgcmidpgifaaDoor
open Go.RowKit Go.Shelf
set_option linter.unusedVariables false
set_option linter.unusedSimpArgs false
set_option maxRecDepth 100000

theorem par2_fail (h : Hd) (ls : List (List UInt8)) (hf : (par2 h ls).2 ≠ 200) : (par2 h ls).1 = z0 := by
  unfold par2 at hf ⊢
  split
  · rfl
  · rename_i h1
    rw [if_neg h1] at hf
    split
    · rfl
    · rename_i h2
      rw [if_neg h2] at hf
      exact absurd rfl hf
/-- **A status alone comes with no head.** -/
theorem par_fail (b : List UInt8) (h : (parH b).2 ≠ 200) : (parH b).1 = z0 := by
  unfold parH at h ⊢
  split
  · rfl
  · rename_i h1
    rw [if_neg h1] at h
    cases hl : linesB b with
    | nil => rfl
    | cons l ls =>
      rw [hl] at h
      rw [par1] at h ⊢
      split
      · rfl
      · rename_i h2
        rw [if_neg h2] at h
        exact par2_fail _ _ h

end Go.Proofs.YtknfgcmidpgifaaDoor

/-
  The statement HeadBack.
-/
namespace Go.Proofs.YtknfgcmidpgifaaDoor
open Go.RowKit Go.Shelf
set_option linter.unusedVariables false
set_option linter.unusedSimpArgs false
set_option maxRecDepth 100000

theorem Ho.agg {w : World} {B : Nat} {v : Value} {h : Hd} (hh : Ho w B v h) : ∃ a c, v = .agg #[.string (bs h.m), .string (bs h.t), .int .i64 h.v, .slice a h.fs.length c] ∧ OwnF w B (.slice a h.fs.length c) h.fs := by
  obtain ⟨sl, rfl, ho⟩ := hh
  obtain ⟨a, c, rfl⟩ := OwnF.shape ho
  exact ⟨a, c, rfl, ho⟩
theorem slb {w w' : World} {v : Value} {l : List UInt8} (h : Sl w 0 w.heap.size v (iz l)) (hb : Below w.heap.size w w') : Sl w' 0 w'.heap.size v (iz l) := (h.below hb (Nat.le_refl _)).wide (Nat.le_refl _) hb.size

end Go.Proofs.YtknfgcmidpgifaaDoor
