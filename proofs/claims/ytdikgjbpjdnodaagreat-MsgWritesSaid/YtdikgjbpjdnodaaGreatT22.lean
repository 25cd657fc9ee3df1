/-
  The numbers at a message's head: numbers, Head.
-/
import Derived.Test.YtdikgjbpjdnodaaGreatT20
import Derived.Test.YtdikgjbpjdnodaaGreatT21
import Derived.Test.YtdikgjbpjdnodaaGreatT00
namespace Go.Proofs.YtdikgjbpjdnodaaGreat
open Go.RowKit Go.Shelf
set_option linter.unusedVariables false
set_option linter.unusedSimpArgs false
set_option maxRecDepth 100000

/-- The first k numbers, then noughts. -/
def pre (b : List UInt8) : Nat → List Value
  | 0 => [.int .i64 0, .int .i64 0, .int .i64 0, .int .i64 0, .int .i64 0, .int .i64 0]
  | k + 1 => (pre b k).set k (.int .i64 (hd b k))
theorem pre_len (b : List UInt8) : ∀ k, (pre b k).length = 6
  | 0 => rfl
  | k + 1 => by rw [pre, List.length_set]; exact pre_len b k

/-- What numbers tells. -/
def numsV (b : List UInt8) : Value := if 12 ≤ b.length then .tuple #[.agg #[.int .i64 (hd b 0), .int .i64 (hd b 1), .int .i64 (hd b 2), .int .i64 (hd b 3), .int .i64 (hd b 4), .int .i64 (hd b 5)], .int .i64 12, .agg #[.int .i64 0, .int .i64 0]]
  else .tuple #[.agg #[.int .i64 0, .int .i64 0, .int .i64 0, .int .i64 0, .int .i64 0, .int .i64 0], .int .i64 0, .agg #[.int .i64 4, .int .i64 b.length]]

theorem hd_ok {w : World} {lo hi : Nat} {vb : Value} {b : List UInt8} (hS : Sl w lo hi vb (iz b)) (hhi : hi ≤ w.heap.size) (hbl : b.length ≤ 300000) (k : Nat) (hk : 2 * k + 2 ≤ b.length) (K : Int) (hK : K = ((2 * k : Nat) : Int)) :
    Calls Tryz.prog 62 #[vb, .int .i64 K] w (Tells w (.tuple #[.int .i64 (hd b k), .int .i64 (K + 2), .agg #[.int .i64 0, .int .i64 0]])) := by
  subst hK
  refine (get16_any hS (iz_byte b) (by rw [iz_len]; omega) hhi ((2 * k : Nat) : Int)).mono ?_
  rintro e w' ⟨rfl, hb⟩
  refine ⟨?_, hb⟩
  unfold getF getE getA
  rw [iz_len, if_pos (by omega), if_pos (by omega), if_neg (by omega), if_neg (by omega), if_neg (by omega), Int.toNat_natCast]
  rfl
theorem hd_no {w : World} {lo hi : Nat} {vb : Value} {b : List UInt8} (hS : Sl w lo hi vb (iz b)) (hhi : hi ≤ w.heap.size) (hbl : b.length ≤ 300000) (k : Nat) (hk : b.length < 2 * k + 2) (hk2 : 2 * k ≤ b.length) (K : Int) (hK : K = ((2 * k : Nat) : Int)) :
    Calls Tryz.prog 62 #[vb, .int .i64 K] w (Tells w (.tuple #[.int .i64 0, .int .i64 0, .agg #[.int .i64 4, .int .i64 b.length]])) := by
  subst hK
  refine (get16_any hS (iz_byte b) (by rw [iz_len]; omega) hhi ((2 * k : Nat) : Int)).mono ?_
  rintro e w' ⟨rfl, hb⟩
  refine ⟨?_, hb⟩
  unfold getF getE getA
  rw [iz_len, if_neg (by omega), if_neg (by omega), if_neg (by omega), if_pos (by omega), if_pos (by omega)]

theorem cel_new2 (w : World) (a b : Value) (T : TypeId) : Cel (w.alloc (.cells #[a, b] T)) w.heap.size [a, b] := ⟨fun j hj => by
    match j, hj with
    | 0, _ => simp [go_sem]
    | 1, _ => simp [go_sem], fun j => by simp [go_sem]⟩

set_option maxHeartbeats 4000000 in
theorem nums_any {w : World} {lo hi : Nat} {vb : Value} {b : List UInt8} (hS : Sl w lo hi vb (iz b)) (hhi : hi ≤ w.heap.size) (hbl : b.length ≤ 300000) :
    Calls Tryz.prog 53 #[vb] w (Tells w (numsV b)) := by
  obtain ⟨H, hH⟩ : ∃ H, w.heap.size = H := ⟨_, rfl⟩
  obtain ⟨W1, hW1⟩ : ∃ W, w.alloc (.cells #[.int .i64 0, .int .i64 0, .int .i64 0, .int .i64 0, .int .i64 0, .int .i64 0] 87) = W := ⟨_, rfl⟩
  obtain ⟨W2, hW2⟩ : ∃ W, W1.alloc (.cells #[.int .i64 0, .int .i64 0] 43) = W := ⟨_, rfl⟩
  have s1 : W1.heap.size = H + 1 := by rw [← hW1, World.size_alloc, hH]
  have b1 : Below w.heap.size w W1 := by rw [← hW1]; exact (Below.refl _ _).alloc (Nat.le_refl _) _
  have b2 : Below w.heap.size w W2 := by rw [← hW2]; exact b1.alloc (by omega) _
  have x1 : Cel W1 H (pre b 0) := by rw [← hW1, ← hH]; exact cel_new6 w _ _ _ _ _ _ _
  have x2 : Cel W2 H (pre b 0) := x1.below (by rw [pre_len]; decide) (by rw [← hW2]; exact (Below.refl _ _).alloc (Nat.le_refl _) _)
  have y2 : Cel W2 (H + 1) [.int .i64 0, .int .i64 0] := by rw [← hW2, ← s1]; exact cel_new2 W1 _ _ _
  have HX := Lib.hid x2
  have HY := Lib.hid y2
  have HB := Lib.hid b2
  have HG := Lib.hid (fun wx (hb : Below w.heap.size w wx) k (hk : 2 * k + 2 ≤ b.length) K hK => hd_ok (hS.below hb hhi) (Nat.le_trans hhi hb.size) hbl k hk K hK)
  have HN := Lib.hid (fun wx (hb : Below w.heap.size w wx) k (hk : b.length < 2 * k + 2) (hk2 : 2 * k ≤ b.length) K hK => hd_no (hS.below hb hhi) (Nat.le_trans hhi hb.size) hbl k hk hk2 K hK)
  have HH := Lib.hid hH
  obtain ⟨V, hV⟩ : ∃ V, numsV b = V := ⟨_, rfl⟩
  rw [hV]
  unfold numsV at hV
  have HV := Lib.hid hV
  clear hV x1 x2 y2 b1 b2
  go_enter Tryz.func53, Tryz.ntmps53
  go_wp2_with fail
  go_loopg [3, 6] 6 (fun g v3 v6 wr => ∃ k : Nat, k + g = 6 ∧ v6 = .int .i64 k ∧ v3 = .int .i64 (2 * (k : Int)) ∧ 2 * k ≤ b.length ∧ Hid (Cel wr H (pre b k)) ∧ Hid (Cel wr (H + 1) [.int .i64 0, .int .i64 0]) ∧ Hid (Below w.heap.size w wr))
  case atStart => exact ⟨0, by omega, rfl, rfl, by omega, HX, HY, HB⟩
  case round =>
    clear HX HY HB hW1 hW2 s1
    obtain ⟨k, hk, rfl, rfl, hkl, HX, HY, HB⟩ := hrel
    by_cases hk6 : k < 6
    · by_cases hok : 2 * k + 2 ≤ b.length
      · have HC := Lib.hid (HG.out wr HB.out k hok (2 * (k : Int)) (by push_cast; rfl))
        obtain ⟨hv, hhv⟩ : ∃ x, hd b k = x := ⟨_, rfl⟩
        have HHV := Lib.hid hhv
        rw [hhv] at HC
        clear hhv
        go_wp2_with fail
        refine HC.out.mono ?_; rintro e w1 ⟨rfl, hb⟩
        replace HX := Lib.hid (HX.out.below (by rw [pre_len]; decide) hb)
        replace HY := Lib.hid (HY.out.below (by simp) hb)
        replace HB := Lib.hid (bel_call HB.out hb)
        have x1 := HX.out.c k (by rw [pre_len]; exact hk6)
        have f1 := HX.out.fz
        have y0 := HY.out.c 0 (by simp)
        have y1 := HY.out.c 1 (by simp)
        simp only [List.getElem_cons_zero, List.getElem_cons_succ] at y0 y1
        have f2 := HY.out.fz
        clear hb
        go_wp2_with fail
        go_roundg (6 - (k + 1))
        case measure => omega
        case rel =>
          refine ⟨k + 1, by omega, by go_num, (by congr 1; try (push_cast; try omega)), by omega, ?_, ?_, ?_⟩
          · have := ((HX.out.set (o := k) (by rw [pre_len]; exact hk6) (.int .i64 hv)).other (a := ⟨H + 1, 0, none⟩) (by simp) (.int .i64 0)).other (a := ⟨H + 1, 1, none⟩) (by simp) (.int .i64 0)
            rw [← HHV.out] at this ⊢
            exact this
          · have := ((HY.out.other (a := ⟨H, k, none⟩) (by simp) (.int .i64 hv)).set (o := 0) (by simp) (.int .i64 0)).set (o := 1) (by simp) (.int .i64 0)
            simp only [List.set_cons_zero, List.set_cons_succ] at this
            exact this
          · have hh := HH.out
            exact ((HB.out.setCell (by show w.heap.size ≤ H; omega) _).setCell (by show w.heap.size ≤ H + 1; omega) _).setCell (by show w.heap.size ≤ H + 1; omega) _
      · have HC := Lib.hid (HN.out wr HB.out k (by omega) hkl (2 * (k : Int)) (by push_cast; rfl))
        have HV2 := Lib.hid (show Value.tuple #[.agg #[.int .i64 0, .int .i64 0, .int .i64 0, .int .i64 0, .int .i64 0, .int .i64 0], .int .i64 0, .agg #[.int .i64 4, .int .i64 b.length]] = V by rw [← HV.out, if_neg (by omega)])
        clear HV
        go_wp2_with fail
        refine HC.out.mono ?_; rintro e w1 ⟨rfl, hb⟩
        replace HX := Lib.hid (HX.out.below (by rw [pre_len]; decide) hb)
        replace HY := Lib.hid (HY.out.below (by simp) hb)
        replace HB := Lib.hid (bel_call HB.out hb)
        have x1 := HX.out.c k (by rw [pre_len]; exact hk6)
        have f1 := HX.out.fz
        have y0 := HY.out.c 0 (by simp)
        have y1 := HY.out.c 1 (by simp)
        simp only [List.getElem_cons_zero, List.getElem_cons_succ] at y0 y1
        have f2 := HY.out.fz
        have hx1 := ((HX.out.set (o := k) (by rw [pre_len]; exact hk6) (.int .i64 0)).other (a := ⟨H + 1, 0, none⟩) (by simp) (.int .i64 4)).other (a := ⟨H + 1, 1, none⟩) (by simp) (.int .i64 b.length)
        have hy1 := ((HY.out.other (a := ⟨H, k, none⟩) (by simp) (.int .i64 0)).set (o := 0) (by simp) (.int .i64 4)).set (o := 1) (by simp) (.int .i64 b.length)
        simp only [List.set_cons_zero, List.set_cons_succ] at hy1
        have hb1 := ((HB.out.setCell (p := ⟨H, k, none⟩) (by have := HH.out; show w.heap.size ≤ H; omega) (.int .i64 0)).setCell (p := ⟨H + 1, 0, none⟩) (by have := HH.out; show w.heap.size ≤ H + 1; omega) (.int .i64 4)).setCell (p := ⟨H + 1, 1, none⟩) (by have := HH.out; show w.heap.size ≤ H + 1; omega) (.int .i64 b.length)
        obtain ⟨X, hX⟩ : ∃ X, ((w1.setCell ⟨H, k, none⟩ (.int .i64 0)).setCell ⟨H + 1, 0, none⟩ (.int .i64 4)).setCell ⟨H + 1, 1, none⟩ (.int .i64 b.length) = X := ⟨_, rfl⟩
        rw [hX] at hx1 hy1 hb1
        have HX1 := Lib.hid hx1
        have HY1 := Lib.hid hy1
        have HB1 := Lib.hid hb1
        have hl6 : ((pre b k).set k (.int .i64 0)).length = 6 := by rw [List.length_set, pre_len]
        have z0 := hx1.c 0 (by omega)
        have z1 := hx1.c 1 (by omega)
        have z2 := hx1.c 2 (by omega)
        have z3 := hx1.c 3 (by omega)
        have z4 := hx1.c 4 (by omega)
        have z5 := hx1.c 5 (by omega)
        have g1 := hx1.fz
        have q0 := hy1.c 0 (by simp)
        have q1 := hy1.c 1 (by simp)
        simp only [List.getElem_cons_zero, List.getElem_cons_succ] at q0 q1
        have g2 := hy1.fz
        obtain ⟨p0, hp0⟩ : ∃ p, ((pre b k).set k (.int .i64 0))[0]'(by omega) = p := ⟨_, rfl⟩
        obtain ⟨p1, hp1⟩ : ∃ p, ((pre b k).set k (.int .i64 0))[1]'(by omega) = p := ⟨_, rfl⟩
        obtain ⟨p2, hp2⟩ : ∃ p, ((pre b k).set k (.int .i64 0))[2]'(by omega) = p := ⟨_, rfl⟩
        obtain ⟨p3, hp3⟩ : ∃ p, ((pre b k).set k (.int .i64 0))[3]'(by omega) = p := ⟨_, rfl⟩
        obtain ⟨p4, hp4⟩ : ∃ p, ((pre b k).set k (.int .i64 0))[4]'(by omega) = p := ⟨_, rfl⟩
        obtain ⟨p5, hp5⟩ : ∃ p, ((pre b k).set k (.int .i64 0))[5]'(by omega) = p := ⟨_, rfl⟩
        rw [hp0] at z0
        rw [hp1] at z1
        rw [hp2] at z2
        rw [hp3] at z3
        rw [hp4] at z4
        rw [hp5] at z5
        clear hx1 hy1 hb1 hb hp0 hp1 hp2 hp3 hp4 hp5
        go_wp2_with fail
        go_region
        go_wp2_with fail
        have hc6 : Cel X H [p0, p1, p2, p3, p4, p5] := ⟨fun j hj => by
            match j, hj with
            | 0, _ => exact z0
            | 1, _ => exact z1
            | 2, _ => exact z2
            | 3, _ => exact z3
            | 4, _ => exact z4
            | 5, _ => exact z5
            , g1⟩
        have r6 := (((((((hc6.set (o := 0) (by simp) (.int .i64 0)).set (o := 1) (by simp) (.int .i64 0)).set (o := 2) (by simp) (.int .i64 0)).set (o := 3) (by simp) (.int .i64 0)).set (o := 4) (by simp) (.int .i64 0)).set (o := 5) (by simp) (.int .i64 0)).other (a := ⟨H + 1, 0, none⟩) (by simp) (.int .i64 4)).other (a := ⟨H + 1, 1, none⟩) (by simp) (.int .i64 b.length)
        have r2 := (((((((HY1.out.other (a := ⟨H, 0, none⟩) (by simp) (.int .i64 0)).other (a := ⟨H, 1, none⟩) (by simp) (.int .i64 0)).other (a := ⟨H, 2, none⟩) (by simp) (.int .i64 0)).other (a := ⟨H, 3, none⟩) (by simp) (.int .i64 0)).other (a := ⟨H, 4, none⟩) (by simp) (.int .i64 0)).other (a := ⟨H, 5, none⟩) (by simp) (.int .i64 0)).set (o := 0) (by simp) (.int .i64 4)).set (o := 1) (by simp) (.int .i64 b.length)
        simp only [List.set_cons_zero, List.set_cons_succ] at r6 r2
        have m0 := r6.c 0 (by simp)
        have m1 := r6.c 1 (by simp)
        have m2 := r6.c 2 (by simp)
        have m3 := r6.c 3 (by simp)
        have m4 := r6.c 4 (by simp)
        have m5 := r6.c 5 (by simp)
        have l0 := r2.c 0 (by simp)
        have l1 := r2.c 1 (by simp)
        simp only [List.getElem_cons_zero, List.getElem_cons_succ] at m0 m1 m2 m3 m4 m5 l0 l1
        clear z0 z1 z2 z3 z4 z5 q0 q1 x1 y0 y1 hc6 r6 r2
        refine bodyPost_ret (by simp [results, Tryz.results53, go_sem, m0, m1, m2, m3, m4, m5, l0, l1]; rfl) rfl ⟨by rw [← HV2.out], ?_⟩
        have hh := HH.out
        exact ((((((((HB1.out.setCell (by show w.heap.size ≤ H; omega) _).setCell (by show w.heap.size ≤ H; omega) _).setCell (by show w.heap.size ≤ H; omega) _).setCell (by show w.heap.size ≤ H; omega) _).setCell (by show w.heap.size ≤ H; omega) _).setCell (by show w.heap.size ≤ H; omega) _).setCell (by show w.heap.size ≤ H + 1; omega) _).setCell (by show w.heap.size ≤ H + 1; omega) _).drew
    · obtain rfl : k = 6 := by omega
      have HV2 := Lib.hid (show Value.tuple #[.agg #[.int .i64 (hd b 0), .int .i64 (hd b 1), .int .i64 (hd b 2), .int .i64 (hd b 3), .int .i64 (hd b 4), .int .i64 (hd b 5)], .int .i64 12, .agg #[.int .i64 0, .int .i64 0]] = V by rw [← HV.out, if_pos (by omega)])
      have hc6 : Cel wr H [.int .i64 (hd b 0), .int .i64 (hd b 1), .int .i64 (hd b 2), .int .i64 (hd b 3), .int .i64 (hd b 4), .int .i64 (hd b 5)] := by
        have := HX.out
        simpa [pre] using this
      clear HV HX
      obtain ⟨z0, z1, z2, z3, z4, z5⟩ := hc6.six
      have f1 := hc6.fz
      have y0 := HY.out.c 0 (by simp)
      have y1 := HY.out.c 1 (by simp)
      simp only [List.getElem_cons_zero, List.getElem_cons_succ] at y0 y1
      have f2 := HY.out.fz
      go_wp2_with fail
      have r6 := (((((((hc6.set (o := 0) (by simp) (.int .i64 (hd b 0))).set (o := 1) (by simp) (.int .i64 (hd b 1))).set (o := 2) (by simp) (.int .i64 (hd b 2))).set (o := 3) (by simp) (.int .i64 (hd b 3))).set (o := 4) (by simp) (.int .i64 (hd b 4))).set (o := 5) (by simp) (.int .i64 (hd b 5))).other (a := ⟨H + 1, 0, none⟩) (by simp) (.int .i64 0)).other (a := ⟨H + 1, 1, none⟩) (by simp) (.int .i64 0)
      have r2 := (((((((HY.out.other (a := ⟨H, 0, none⟩) (by simp) (.int .i64 (hd b 0))).other (a := ⟨H, 1, none⟩) (by simp) (.int .i64 (hd b 1))).other (a := ⟨H, 2, none⟩) (by simp) (.int .i64 (hd b 2))).other (a := ⟨H, 3, none⟩) (by simp) (.int .i64 (hd b 3))).other (a := ⟨H, 4, none⟩) (by simp) (.int .i64 (hd b 4))).other (a := ⟨H, 5, none⟩) (by simp) (.int .i64 (hd b 5))).set (o := 0) (by simp) (.int .i64 0)).set (o := 1) (by simp) (.int .i64 0)
      simp only [List.set_cons_zero, List.set_cons_succ] at r6 r2
      obtain ⟨m0, m1, m2, m3, m4, m5⟩ := r6.six
      have l0 := r2.c 0 (by simp)
      have l1 := r2.c 1 (by simp)
      simp only [List.getElem_cons_zero, List.getElem_cons_succ] at l0 l1
      clear z0 z1 z2 z3 z4 z5 y0 y1 hc6 r6 r2
      refine bodyPost_ret (by simp [results, Tryz.results53, go_sem, m0, m1, m2, m3, m4, m5, l0, l1]; rfl) rfl ⟨by rw [← HV2.out], ?_⟩
      have hh := HH.out
      exact ((((((((HB.out.setCell (by show w.heap.size ≤ H; omega) _).setCell (by show w.heap.size ≤ H; omega) _).setCell (by show w.heap.size ≤ H; omega) _).setCell (by show w.heap.size ≤ H; omega) _).setCell (by show w.heap.size ≤ H; omega) _).setCell (by show w.heap.size ≤ H; omega) _).setCell (by show w.heap.size ≤ H + 1; omega) _).setCell (by show w.heap.size ≤ H + 1; omega) _)

end Go.Proofs.YtdikgjbpjdnodaaGreat
