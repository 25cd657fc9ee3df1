/-
  The statement about which records are the same.
-/
import Derived.Test.YtaikpgcmcmkdcaaQK
import Derived.Test.YtaikpgcmcmkdcaaQR
import Derived.Test.YtaikpgcmcmkdcaaBPick
namespace Go.Proofs.Ytaikpgcmcmkdcaa
open Go.RowKit Go.Shelf
set_option linter.unusedVariables false
set_option linter.unusedSimpArgs false
set_option maxRecDepth 100000

theorem sameC_same (x : Rc) : sameC x x = decide (chkC x = 0) := by unfold sameC; simp
theorem sameC_comm (a b : Rc) : sameC a b = sameC b a := by
  unfold sameC
  rw [Bool.and_comm (decide (chkC a = 0)) (decide (chkC b = 0))]
  congr 1
  by_cases h : lowC a = lowC b
  · simp [h]
  · have h2 : ¬ lowC b = lowC a := fun e => h e.symm
    simp [h, h2]
theorem sameC_iff (a b : Rc) : sameC a b = true ↔ chkC a = 0 ∧ chkC b = 0 ∧ lowC a = lowC b := by unfold sameC; simp [and_assoc]
theorem sameC_trans {a b c : Rc} (h1 : sameC a b = true) (h2 : sameC b c = true) : sameC a c = true := by
  rw [sameC_iff] at h1 h2 ⊢
  exact ⟨h1.1, h2.2.1, h1.2.2.trans h2.2.2⟩
theorem lowD_len (t : Int) (d : List UInt8) : (lowD t d).length = d.length := by
  rcases hs : spl t d with L | ⟨c, a⟩
  · exact (low_spl hs).2.1
  · rw [low_bad hs]
theorem sameC_parts {a b : Rc} (h : sameC a b = true) : a.t = b.t ∧ a.c = b.c ∧ a.d.length = b.d.length := by
  rw [sameC_iff] at h
  have h3 := h.2.2
  unfold lowC at h3
  injection h3 with _ h3
  injection h3 with h4 h3
  injection h3 with h5 h6
  have := congrArg List.length h6
  rw [lowD_len, lowD_len] at this
  exact ⟨h4, h5, this⟩
theorem chkC_ttl {x : Rc} (h : chkC x = 0) (k : Int) (h0 : 0 ≤ k) (h1 : k ≤ 2147483647) : chkC { x with l := k } = 0 := by
  unfold chkC at h ⊢
  split at h
  · rename_i h2; exact absurd h h2
  · rename_i h2
    split at h
    · exact absurd h (by decide)
    · simp only
      rw [if_neg h2, if_neg (by omega)]
      exact h
theorem sameC_ttl {x : Rc} (h : chkC x = 0) (k : Int) (h0 : 0 ≤ k) (h1 : k ≤ 2147483647) : sameC x { x with l := k } = true := by
  rw [sameC_iff]
  exact ⟨h, chkC_ttl h k h0 h1, rfl⟩
theorem sameC_class {x : Rc} (k : Int) (h0 : k ≠ x.c) : sameC x { x with c := k } = false := by
  rw [Bool.eq_false_iff]
  intro h
  exact h0 (sameC_parts h).2.1.symm

set_option maxHeartbeats 400000 in
theorem pick_ttl (x : Int) (w : World) : Calls Try.prog 17 #[.int .i64 x, .int .i64 2147483648] w fun e w' => ∃ k : Nat, k < 2147483648 ∧ e = .returned (.int .i64 k) ∧ w = w' := by
  go_enter Try.func17, Try.ntmps17
  go_wp2
  · go_ret
    refine ⟨(wrap64 (x.tmod 2147483648 + 2147483648)).toNat, ?_, ?_, rfl⟩
    all_goals
      have h3 : -2147483648 < x.tmod 2147483648 := by
        have := Int.tmod_lt_of_pos (-x) (b := 2147483648) (by omega)
        rw [Int.neg_tmod] at this
        omega
      have e : wrap64 (x.tmod 2147483648 + 2147483648) = x.tmod 2147483648 + 2147483648 := IntWalk.wrap64_in _ ⟨by omega, by omega⟩
      rw [e]
    · omega
    · rw [Int.toNat_of_nonneg (by omega)]; rfl
  · go_ret
    have := Int.tmod_lt_of_pos x (b := 2147483648) (by omega)
    refine ⟨(x.tmod 2147483648).toNat, by omega, ?_, rfl⟩
    rw [Int.toNat_of_nonneg (by omega)]; rfl

theorem big_three {w : World} (n : List UInt8) (t c l : Int) (d : List UInt8) (n2 : List UInt8) (t2 c2 l2 : Int) (d2 : List UInt8) (n3 : List UInt8) (t3 c3 l3 : Int) (d3 : List UInt8) :
    Calls Try.prog 9 #[.slice (some ⟨w.heap.size, 0, none⟩) 3 3, .int .i64 3000] (w.alloc (.cells #[.string (bs n), .int .i64 t, .int .i64 c, .int .i64 l, .string (bs d), .string (bs n2), .int .i64 t2, .int .i64 c2, .int .i64 l2, .string (bs d2), .string (bs n3), .int .i64 t3, .int .i64 c3, .int .i64 l3, .string (bs d3)] 23)) fun e w' => e = .returned (.bool ([(⟨n, t, c, l, d⟩ : Rc), ⟨n2, t2, c2, l2, d2⟩, ⟨n3, t3, c3, l3, d3⟩].any bigR)) ∧ w.alloc (.cells #[.string (bs n), .int .i64 t, .int .i64 c, .int .i64 l, .string (bs d), .string (bs n2), .int .i64 t2, .int .i64 c2, .int .i64 l2, .string (bs d2), .string (bs n3), .int .i64 t3, .int .i64 c3, .int .i64 l3, .string (bs d3)] 23) = w' :=
  big_any (w := w.alloc (.cells #[.string (bs n), .int .i64 t, .int .i64 c, .int .i64 l, .string (bs d), .string (bs n2), .int .i64 t2, .int .i64 c2, .int .i64 l2, .string (bs d2), .string (bs n3), .int .i64 t3, .int .i64 c3, .int .i64 l3, .string (bs d3)] 23)) (g := w.heap.size) (c := 3) (l := [⟨n, t, c, l, d⟩, ⟨n2, t2, c2, l2, d2⟩, ⟨n3, t3, c3, l3, d3⟩]) (by simp) (fun j hj => by
    match j, hj with
    | 0, _ => exact ⟨by simp [go_sem], by simp [go_sem], by simp [go_sem], by simp [go_sem], by simp [go_sem]⟩
    | 1, _ => exact ⟨by simp [go_sem], by simp [go_sem], by simp [go_sem], by simp [go_sem], by simp [go_sem]⟩
    | 2, _ => exact ⟨by simp [go_sem], by simp [go_sem], by simp [go_sem], by simp [go_sem], by simp [go_sem]⟩)

set_option maxHeartbeats 16000000 in
theorem samesC_any (n : List UInt8) (t c l : Int) (d : List UInt8) (n2 : List UInt8) (t2 c2 l2 : Int) (d2 : List UInt8) (n3 : List UInt8) (t3 c3 l3 : Int) (d3 : List UInt8) (q : Int) (w : World) :
    Calls Try.prog 7 #[.agg #[.string (bs n), .int .i64 t, .int .i64 c, .int .i64 l, .string (bs d)], .agg #[.string (bs n2), .int .i64 t2, .int .i64 c2, .int .i64 l2, .string (bs d2)], .agg #[.string (bs n3), .int .i64 t3, .int .i64 c3, .int .i64 l3, .string (bs d3)], .int .i64 q] w (Tells w (.bool true)) := by
  have HAW := Lib.hid awakeC_any
  have hb1 : Below w.heap.size w (w.alloc (.cells #[.string (bs n), .int .i64 t, .int .i64 c, .int .i64 l, .string (bs d)] 23)) := (Below.refl _ _).alloc (Nat.le_refl _) _
  obtain ⟨W1, hW1⟩ : ∃ W1, w.alloc (.cells #[.string (bs n), .int .i64 t, .int .i64 c, .int .i64 l, .string (bs d)] 23) = W1 := ⟨_, rfl⟩
  obtain ⟨W2, hW2⟩ : ∃ W2, W1.alloc (.cells #[.string (bs n2), .int .i64 t2, .int .i64 c2, .int .i64 l2, .string (bs d2)] 23) = W2 := ⟨_, rfl⟩
  obtain ⟨W0, hW0⟩ : ∃ W0, W2.alloc (.cells #[.string (bs n3), .int .i64 t3, .int .i64 c3, .int .i64 l3, .string (bs d3)] 23) = W0 := ⟨_, rfl⟩
  have z1 : W1.heap.size = w.heap.size + 1 := by rw [← hW1, World.size_alloc]
  have z2 : W2.heap.size = w.heap.size + 2 := by rw [← hW2, World.size_alloc, z1]
  have q1 : Below w.heap.size w W1 := by rw [← hW1]; exact hb1
  have q2 : Below W1.heap.size W1 W2 := by rw [← hW2]; exact (Below.refl _ _).alloc (Nat.le_refl _) _
  have q3 : Below W2.heap.size W2 W0 := by rw [← hW0]; exact (Below.refl _ _).alloc (Nat.le_refl _) _
  have hx : Cel W1 w.heap.size [.string (bs n), .int .i64 t, .int .i64 c, .int .i64 l, .string (bs d)] := by rw [← hW1]; exact cel_new w _ _ _ _ _ _
  have hy : Cel W2 W1.heap.size [.string (bs n2), .int .i64 t2, .int .i64 c2, .int .i64 l2, .string (bs d2)] := by rw [← hW2]; exact cel_new W1 _ _ _ _ _ _
  have hz : Cel W0 W2.heap.size [.string (bs n3), .int .i64 t3, .int .i64 c3, .int .i64 l3, .string (bs d3)] := by rw [← hW0]; exact cel_new W2 _ _ _ _ _ _
  rw [z1] at hy
  rw [z2] at hz
  obtain ⟨g, hg⟩ : ∃ g, w.heap.size = g := ⟨_, rfl⟩
  have HX := Lib.hid ((hx.below (by simp) q2).below (by simp) q3)
  have HY := Lib.hid (hy.below (by simp) q3)
  have HZ := Lib.hid hz
  have HBD := Lib.hid (bel_call (bel_call q1 q2) q3)
  rw [hg] at HX HY HZ
  rw [hg] at z1 z2
  clear hx hy hz q1 q2 q3 hb1
  by_cases hbig : [(⟨n, t, c, l, d⟩ : Rc), ⟨n2, t2, c2, l2, d2⟩, ⟨n3, t3, c3, l3, d3⟩].any bigR = true
  · have hbig := hbig
    go_enter Try.func7, Try.ntmps7
    go_wp2_with fail
    refine (HAW.out _).mono ?_; rintro e w1 ⟨rfl, hb⟩
    replace HX := Lib.hid (HX.out.below (by simp) hb)
    replace HY := Lib.hid (HY.out.below (by simp) hb)
    replace HZ := Lib.hid (HZ.out.below (by simp) hb)
    replace HBD := Lib.hid (bel_call HBD.out hb)
    clear hb
    obtain ⟨a0, a1, a2, a3, a4⟩ := HX.out.five
    obtain ⟨b0, b1, b2, b3, b4⟩ := HY.out.five
    obtain ⟨f0, f1, f2, f3, f4⟩ := HZ.out.five
    have HBG := Lib.hid (big_three (w := w1) n t c l d n2 t2 c2 l2 d2 n3 t3 c3 l3 d3)
    have hb : Below w1.heap.size w1 (w1.alloc (.cells #[.string (bs n), .int .i64 t, .int .i64 c, .int .i64 l, .string (bs d), .string (bs n2), .int .i64 t2, .int .i64 c2, .int .i64 l2, .string (bs d2), .string (bs n3), .int .i64 t3, .int .i64 c3, .int .i64 l3, .string (bs d3)] 23)) := (Below.refl _ _).alloc (Nat.le_refl _) _
    replace HX := Lib.hid (HX.out.below (by simp) hb)
    replace HY := Lib.hid (HY.out.below (by simp) hb)
    replace HZ := Lib.hid (HZ.out.below (by simp) hb)
    replace HBD := Lib.hid (bel_call HBD.out hb)
    clear hb
    rw [hbig] at HBG
    go_wp2_with fail
    refine HBG.out.mono ?_; rintro e w2 ⟨rfl, rfl⟩
    clear a0 a1 a2 a3 a4 b0 b1 b2 b3 b4 f0 f1 f2 f3 f4
    go_wp2_with fail
    go_ret
    exact ⟨rfl, HBD.out⟩
  · have hbig : [(⟨n, t, c, l, d⟩ : Rc), ⟨n2, t2, c2, l2, d2⟩, ⟨n3, t3, c3, l3, d3⟩].any bigR = false := by simpa using hbig
    have hlen : n.length ≤ 3000 ∧ d.length ≤ 3000 ∧ n2.length ≤ 3000 ∧ d2.length ≤ 3000 ∧ n3.length ≤ 3000 ∧ d3.length ≤ 3000 := by
      have h := hbig
      simp [bigR] at h
      omega
    obtain ⟨h1, h2, h3, h4, h5, h6⟩ := hlen
    have HAB := Lib.hid (fun wx => sameC_any n t c l d n2 t2 c2 l2 d2 (by omega) (by omega) (by omega) (by omega) wx)
    have HBA := Lib.hid (fun wx => sameC_any n2 t2 c2 l2 d2 n t c l d (by omega) (by omega) (by omega) (by omega) wx)
    have HBC := Lib.hid (fun wx => sameC_any n2 t2 c2 l2 d2 n3 t3 c3 l3 d3 (by omega) (by omega) (by omega) (by omega) wx)
    have HAC := Lib.hid (fun wx => sameC_any n t c l d n3 t3 c3 l3 d3 (by omega) (by omega) (by omega) (by omega) wx)
    have HAA := Lib.hid (fun wx => sameC_any n t c l d n t c l d (by omega) (by omega) (by omega) (by omega) wx)
    have HAD := Lib.hid (fun (k : Int) wx => sameC_any n t c l d n t c k d (by omega) (by omega) (by omega) (by omega) wx)
    have HAE := Lib.hid (fun (k : Int) wx => sameC_any n t c l d n t k l d (by omega) (by omega) (by omega) (by omega) wx)
    have HCk := Lib.hid (fun wx => checkC_any n t c l d (by omega) (by omega) wx)
    have HPi := Lib.hid (fun wx => pick_ttl q wx)
    rw [sameC_comm ⟨n2, t2, c2, l2, d2⟩ ⟨n, t, c, l, d⟩] at HBA
    rw [sameC_same] at HAA
    have hE0 : chkC ⟨n, t, c, l, d⟩ = 0 → 0 ≤ c ∧ c ≤ 65535 := fun h => by
      have h1 := h
      unfold chkC at h1
      split at h1
      · rename_i h2; exact absurd h1 h2
      · rename_i h2
        have h2 : askE n t c = 0 := by simpa using h2
        unfold askE at h2
        split at h2
        · rename_i h3; exact absurd h2 h3
        · split at h2
          · exact absurd h2 (by decide)
          · omega
    clear h1 h2 h3 h4 h5 h6
    by_cases hAB : sameC ⟨n, t, c, l, d⟩ ⟨n2, t2, c2, l2, d2⟩ = true
    · have hC0 : chkC ⟨n, t, c, l, d⟩ = 0 := ((sameC_iff _ _).mp hAB).1
      obtain ⟨p1, p2, p3⟩ := sameC_parts hAB
      simp only at p1 p2 p3
      rw [hAB] at HAB HBA
      by_cases hBC : sameC ⟨n2, t2, c2, l2, d2⟩ ⟨n3, t3, c3, l3, d3⟩ = true
      · rw [sameC_trans hAB hBC] at HAC
        rw [hBC] at HBC
        have hcb := hE0 hC0
        obtain ⟨ce, hce⟩ : ∃ ce, (c + 1).tmod 65536 = ce := ⟨_, rfl⟩
        have hcn : ce ≠ c := by
          rw [← hce, Int.tmod_eq_emod_of_nonneg (by omega)]
          omega
        have hcw : wrap64 (c + 1) = c + 1 := IntWalk.wrap64_in _ ⟨by omega, by omega⟩
        have HADk := Lib.hid (fun (k : Nat) (hk : k < 2147483648) wx => show Calls Try.prog 12 #[.agg #[.string (bs n), .int .i64 t, .int .i64 c, .int .i64 l, .string (bs d)], .agg #[.string (bs n), .int .i64 t, .int .i64 c, .int .i64 (k : Int), .string (bs d)]] wx (Tells wx (.bool true)) from by have h := HAD.out (k : Int) wx; rw [show sameC ⟨n, t, c, l, d⟩ ⟨n, t, c, (k : Int), d⟩ = true from sameC_ttl hC0 (k : Int) (by omega) (by omega)] at h; exact h)
        have HAEk := Lib.hid (fun wx => show Calls Try.prog 12 #[.agg #[.string (bs n), .int .i64 t, .int .i64 c, .int .i64 l, .string (bs d)], .agg #[.string (bs n), .int .i64 t, .int .i64 ce, .int .i64 l, .string (bs d)]] wx (Tells wx (.bool false)) from by have h := HAE.out ce wx; rw [show sameC ⟨n, t, c, l, d⟩ ⟨n, t, ce, l, d⟩ = false from sameC_class (x := ⟨n, t, c, l, d⟩) ce hcn] at h; exact h)
        rw [hC0] at HCk HAA
        rw [show decide ((0 : Int) = 0) = true from rfl] at HAA
        clear HAD HAE hC0 hE0 hcn
        have hns : (bs d).size = d.length := bs_size d
        have hns2 : (bs d2).size = d2.length := bs_size d2
        have tt : (t == t2) = true := by simpa using p1
        have tc2 : (c == c2) = true := by simpa using p2
        have td : ((d.length : Int) == (d2.length : Int)) = true := by rw [p3]; simp
        clear hAB hBC p1 p2 p3
        go_enter Try.func7, Try.ntmps7
        go_wp2_with fail
        refine (HAW.out _).mono ?_; rintro e w1 ⟨rfl, hb⟩
        replace HX := Lib.hid (HX.out.below (by simp) hb)
        replace HY := Lib.hid (HY.out.below (by simp) hb)
        replace HZ := Lib.hid (HZ.out.below (by simp) hb)
        replace HBD := Lib.hid (bel_call HBD.out hb)
        clear hb
        obtain ⟨a0, a1, a2, a3, a4⟩ := HX.out.five
        obtain ⟨b0, b1, b2, b3, b4⟩ := HY.out.five
        obtain ⟨f0, f1, f2, f3, f4⟩ := HZ.out.five
        have HBG := Lib.hid (big_three (w := w1) n t c l d n2 t2 c2 l2 d2 n3 t3 c3 l3 d3)
        have hb : Below w1.heap.size w1 (w1.alloc (.cells #[.string (bs n), .int .i64 t, .int .i64 c, .int .i64 l, .string (bs d), .string (bs n2), .int .i64 t2, .int .i64 c2, .int .i64 l2, .string (bs d2), .string (bs n3), .int .i64 t3, .int .i64 c3, .int .i64 l3, .string (bs d3)] 23)) := (Below.refl _ _).alloc (Nat.le_refl _) _
        replace HX := Lib.hid (HX.out.below (by simp) hb)
        replace HY := Lib.hid (HY.out.below (by simp) hb)
        replace HZ := Lib.hid (HZ.out.below (by simp) hb)
        replace HBD := Lib.hid (bel_call HBD.out hb)
        clear hb
        rw [hbig] at HBG
        go_wp2_with fail
        refine HBG.out.mono ?_; rintro e w2 ⟨rfl, rfl⟩
        clear a0 a1 a2 a3 a4 b0 b1 b2 b3 b4 f0 f1 f2 f3 f4
        have hb := (Below.refl (w1.alloc (.cells #[.string (bs n), .int .i64 t, .int .i64 c, .int .i64 l, .string (bs d), .string (bs n2), .int .i64 t2, .int .i64 c2, .int .i64 l2, .string (bs d2), .string (bs n3), .int .i64 t3, .int .i64 c3, .int .i64 l3, .string (bs d3)] 23)).heap.size (w1.alloc (.cells #[.string (bs n), .int .i64 t, .int .i64 c, .int .i64 l, .string (bs d), .string (bs n2), .int .i64 t2, .int .i64 c2, .int .i64 l2, .string (bs d2), .string (bs n3), .int .i64 t3, .int .i64 c3, .int .i64 l3, .string (bs d3)] 23))).drew
        replace HX := Lib.hid (HX.out.below (by simp) hb)
        replace HY := Lib.hid (HY.out.below (by simp) hb)
        replace HZ := Lib.hid (HZ.out.below (by simp) hb)
        replace HBD := Lib.hid (bel_call HBD.out hb)
        clear hb
        go_wp2_with fail
        refine wp_region_held_drew (S := (fun wx => (wx.cell? ⟨g, 0, none⟩ = some (.string (bs n)) ∧ wx.cell? ⟨g, 1, none⟩ = some (.int .i64 t) ∧ wx.cell? ⟨g, 2, none⟩ = some (.int .i64 c) ∧ wx.cell? ⟨g, 3, none⟩ = some (.int .i64 l) ∧ wx.cell? ⟨g, 4, none⟩ = some (.string (bs d))) ∧ (wx.cell? ⟨g + 1, 0, none⟩ = some (.string (bs n2)) ∧ wx.cell? ⟨g + 1, 1, none⟩ = some (.int .i64 t2) ∧ wx.cell? ⟨g + 1, 2, none⟩ = some (.int .i64 c2) ∧ wx.cell? ⟨g + 1, 3, none⟩ = some (.int .i64 l2) ∧ wx.cell? ⟨g + 1, 4, none⟩ = some (.string (bs d2))) ∧ (wx.cell? ⟨g + 2, 0, none⟩ = some (.string (bs n3)) ∧ wx.cell? ⟨g + 2, 1, none⟩ = some (.int .i64 t3) ∧ wx.cell? ⟨g + 2, 2, none⟩ = some (.int .i64 c3) ∧ wx.cell? ⟨g + 2, 3, none⟩ = some (.int .i64 l3) ∧ wx.cell? ⟨g + 2, 4, none⟩ = some (.string (bs d3))))) (by kernel_rfl) ⟨HX.out.five, HY.out.five, HZ.out.five⟩ (fun hHeld => ?_)
        refine wpAnyH_take (i := 0) (oi := { dst := some 19, op := Op.load 23 (Operand.tmp 4), type := 23, pos := "outright.go:96", after := #[], guard := none }) (v := ?_) rfl (by kernel_rfl) (by kernel_rfl) (by kernel_rfl) (fun _ _ _ h => h) (Or.inl ⟨by rfl, ?_⟩) (by assumption) ?_
        rotate_left 1
        · intro w hSw; (try dsimp only at hSw); go_simp; try (with_reducible rfl)
        try simp only [Act.put, List.setIfInBounds_toArray, List.set_cons_zero, List.set_cons_succ]
        refine wpAnyH_take (i := 1) (oi := { dst := some 20, op := Op.load 23 (Operand.tmp 5), type := 23, pos := "outright.go:96", after := #[], guard := none }) (v := ?_) rfl (by kernel_rfl) (by kernel_rfl) (by kernel_rfl) (fun _ _ _ h => h) (Or.inl ⟨by rfl, ?_⟩) (by assumption) ?_
        rotate_left 1
        · intro w hSw; (try dsimp only at hSw); go_simp; try (with_reducible rfl)
        try simp only [Act.put, List.setIfInBounds_toArray, List.set_cons_zero, List.set_cons_succ]
        refine wpAnyH_take (i := 3) (oi := { dst := some 22, op := Op.load 23 (Operand.tmp 5), type := 23, pos := "outright.go:96", after := #[], guard := none }) (v := ?_) rfl (by kernel_rfl) (by kernel_rfl) (by kernel_rfl) (fun _ _ _ h => h) (Or.inl ⟨by rfl, ?_⟩) (by assumption) ?_
        rotate_left 1
        · intro w hSw; (try dsimp only at hSw); go_simp; try (with_reducible rfl)
        try simp only [Act.put, List.setIfInBounds_toArray, List.set_cons_zero, List.set_cons_succ]
        refine wpAnyH_take (i := 4) (oi := { dst := some 23, op := Op.load 23 (Operand.tmp 4), type := 23, pos := "outright.go:96", after := #[], guard := none }) (v := ?_) rfl (by kernel_rfl) (by kernel_rfl) (by kernel_rfl) (fun _ _ _ h => h) (Or.inl ⟨by rfl, ?_⟩) (by assumption) ?_
        rotate_left 1
        · intro w hSw; (try dsimp only at hSw); go_simp; try (with_reducible rfl)
        try simp only [Act.put, List.setIfInBounds_toArray, List.set_cons_zero, List.set_cons_succ]
        refine wpAnyH_ready (rs := [2]) (by kernel_rfl) (by simp) ?_
        refine AllReadyH.cons (o := { dst := some 21, op := Op.call { callee := Callee.value (Operand.func 12), args := #[Operand.tmp 19, Operand.tmp 20], argTypes := #[23, 23] }, type := 4, pos := "outright.go:96", after := #[{ on := 0, ground := Ground.data }, { on := 1, ground := Ground.data }], guard := none }) rfl (fun K hK => ?_) (AllReadyH.nil)
        go_simp
        refine (HAB.out _).mono ?_; rintro e w1 ⟨rfl, hb⟩
        replace HX := Lib.hid (HX.out.below (by simp) hb)
        replace HY := Lib.hid (HY.out.below (by simp) hb)
        replace HZ := Lib.hid (HZ.out.below (by simp) hb)
        replace HBD := Lib.hid (bel_call HBD.out hb)
        clear hb
        try go_wp2_with fail
        refine hK.out _ _ ⟨HX.out.five, HY.out.five, HZ.out.five⟩ (fun hHeld => ?_)
        clear hK K
        try simp only [Act.put, List.setIfInBounds_toArray, List.set_cons_zero, List.set_cons_succ]
        refine wpAnyH_ready (rs := [5]) (by kernel_rfl) (by simp) ?_
        refine AllReadyH.cons (o := { dst := some 24, op := Op.call { callee := Callee.value (Operand.func 12), args := #[Operand.tmp 22, Operand.tmp 23], argTypes := #[23, 23] }, type := 4, pos := "outright.go:96", after := #[{ on := 3, ground := Ground.data }, { on := 4, ground := Ground.data }, { on := 2, ground := Ground.chain }], guard := none }) rfl (fun K hK => ?_) (AllReadyH.nil)
        go_simp
        refine (HBA.out _).mono ?_; rintro e w1 ⟨rfl, hb⟩
        replace HX := Lib.hid (HX.out.below (by simp) hb)
        replace HY := Lib.hid (HY.out.below (by simp) hb)
        replace HZ := Lib.hid (HZ.out.below (by simp) hb)
        replace HBD := Lib.hid (bel_call HBD.out hb)
        clear hb
        try go_wp2_with fail
        refine hK.out _ _ ⟨HX.out.five, HY.out.five, HZ.out.five⟩ (fun hHeld => ?_)
        clear hK K
        try simp only [Act.put, List.setIfInBounds_toArray, List.set_cons_zero, List.set_cons_succ]
        refine wpAnyH_take (i := 6) (oi := { dst := some 25, op := Op.binOp BinOp.neq 4 (Operand.tmp 21) (Operand.tmp 24) 4, type := 4, pos := "outright.go:96", after := #[{ on := 2, ground := Ground.data }, { on := 5, ground := Ground.data }], guard := none }) (v := ?_) rfl (by kernel_rfl) (by kernel_rfl) (by kernel_rfl) (fun _ _ _ h => h) (Or.inl ⟨by rfl, ?_⟩) (by assumption) ?_
        rotate_left 1
        · intro w hSw; (try dsimp only at hSw); go_simp; try (with_reducible rfl)
        try simp only [Act.put, List.setIfInBounds_toArray, List.set_cons_zero, List.set_cons_succ]
        refine wpAnyH_take (i := 7) (oi := { dst := some 26, op := Op.move (Operand.tmp 25), type := 4, pos := "outright.go:96", after := #[{ on := 6, ground := Ground.data }, { on := 5, ground := Ground.chain }], guard := none }) (v := ?_) rfl (by kernel_rfl) (by kernel_rfl) (by kernel_rfl) (fun _ _ _ h => h) (Or.inl ⟨by rfl, ?_⟩) (by assumption) ?_
        rotate_left 1
        · intro w hSw; (try dsimp only at hSw); go_simp; try (with_reducible rfl)
        try simp only [Act.put, List.setIfInBounds_toArray, List.set_cons_zero, List.set_cons_succ]
        refine wpAnyH_take (i := 8) (oi := { dst := some 27, op := Op.load 23 (Operand.tmp 4), type := 23, pos := "outright.go:96", after := #[{ on := 7, ground := Ground.guard }], guard := some (7, false) }) (v := ?_) rfl (by kernel_rfl) (by kernel_rfl) (by kernel_rfl) (fun _ _ _ h => h) (Or.inl ⟨by rfl, ?_⟩) (by assumption) ?_
        rotate_left 1
        · intro w hSw; (try dsimp only at hSw); go_simp; try (with_reducible rfl)
        try simp only [Act.put, List.setIfInBounds_toArray, List.set_cons_zero, List.set_cons_succ]
        refine wpAnyH_take (i := 9) (oi := { dst := some 28, op := Op.load 23 (Operand.tmp 5), type := 23, pos := "outright.go:96", after := #[{ on := 7, ground := Ground.guard }], guard := some (7, false) }) (v := ?_) rfl (by kernel_rfl) (by kernel_rfl) (by kernel_rfl) (fun _ _ _ h => h) (Or.inl ⟨by rfl, ?_⟩) (by assumption) ?_
        rotate_left 1
        · intro w hSw; (try dsimp only at hSw); go_simp; try (with_reducible rfl)
        try simp only [Act.put, List.setIfInBounds_toArray, List.set_cons_zero, List.set_cons_succ]
        refine wpAnyH_ready (rs := [10]) (by kernel_rfl) (by simp) ?_
        refine AllReadyH.cons (o := { dst := some 29, op := Op.call { callee := Callee.value (Operand.func 12), args := #[Operand.tmp 27, Operand.tmp 28], argTypes := #[23, 23] }, type := 4, pos := "outright.go:96", after := #[{ on := 8, ground := Ground.data }, { on := 9, ground := Ground.data }, { on := 7, ground := Ground.chain }, { on := 7, ground := Ground.guard }], guard := some (7, false) }) rfl (fun K hK => ?_) (AllReadyH.nil)
        go_simp
        refine (HAB.out _).mono ?_; rintro e w1 ⟨rfl, hb⟩
        replace HX := Lib.hid (HX.out.below (by simp) hb)
        replace HY := Lib.hid (HY.out.below (by simp) hb)
        replace HZ := Lib.hid (HZ.out.below (by simp) hb)
        replace HBD := Lib.hid (bel_call HBD.out hb)
        clear hb
        try go_wp2_with fail
        refine hK.out _ _ ⟨HX.out.five, HY.out.five, HZ.out.five⟩ (fun hHeld => ?_)
        clear hK K
        try simp only [Act.put, List.setIfInBounds_toArray, List.set_cons_zero, List.set_cons_succ]
        refine wpAnyH_take (i := 11) (oi := { dst := some 30, op := Op.move (Operand.tmp 29), type := 4, pos := "outright.go:96", after := #[{ on := 10, ground := Ground.data }, { on := 10, ground := Ground.chain }, { on := 7, ground := Ground.guard }], guard := some (7, false) }) (v := ?_) rfl (by kernel_rfl) (by kernel_rfl) (by kernel_rfl) (fun _ _ _ h => h) (Or.inl ⟨by rfl, ?_⟩) (by assumption) ?_
        rotate_left 1
        · intro w hSw; (try dsimp only at hSw); go_simp; try (with_reducible rfl)
        try simp only [Act.put, List.setIfInBounds_toArray, List.set_cons_zero, List.set_cons_succ]
        refine wpAnyH_take (i := 12) (oi := { dst := some 31, op := Op.load 23 (Operand.tmp 5), type := 23, pos := "outright.go:96", after := #[{ on := 11, ground := Ground.guard }], guard := some (11, true) }) (v := ?_) rfl (by kernel_rfl) (by kernel_rfl) (by kernel_rfl) (fun _ _ _ h => h) (Or.inl ⟨by rfl, ?_⟩) (by assumption) ?_
        rotate_left 1
        · intro w hSw; (try dsimp only at hSw); go_simp; try (with_reducible rfl)
        try simp only [Act.put, List.setIfInBounds_toArray, List.set_cons_zero, List.set_cons_succ]
        refine wpAnyH_take (i := 13) (oi := { dst := some 32, op := Op.load 23 (Operand.tmp 6), type := 23, pos := "outright.go:96", after := #[{ on := 11, ground := Ground.guard }], guard := some (11, true) }) (v := ?_) rfl (by kernel_rfl) (by kernel_rfl) (by kernel_rfl) (fun _ _ _ h => h) (Or.inl ⟨by rfl, ?_⟩) (by assumption) ?_
        rotate_left 1
        · intro w hSw; (try dsimp only at hSw); go_simp; try (with_reducible rfl)
        try simp only [Act.put, List.setIfInBounds_toArray, List.set_cons_zero, List.set_cons_succ]
        refine wpAnyH_ready (rs := [14]) (by kernel_rfl) (by simp) ?_
        refine AllReadyH.cons (o := { dst := some 33, op := Op.call { callee := Callee.value (Operand.func 12), args := #[Operand.tmp 31, Operand.tmp 32], argTypes := #[23, 23] }, type := 4, pos := "outright.go:96", after := #[{ on := 12, ground := Ground.data }, { on := 13, ground := Ground.data }, { on := 11, ground := Ground.chain }, { on := 11, ground := Ground.guard }], guard := some (11, true) }) rfl (fun K hK => ?_) (AllReadyH.nil)
        go_simp
        refine (HBC.out _).mono ?_; rintro e w1 ⟨rfl, hb⟩
        replace HX := Lib.hid (HX.out.below (by simp) hb)
        replace HY := Lib.hid (HY.out.below (by simp) hb)
        replace HZ := Lib.hid (HZ.out.below (by simp) hb)
        replace HBD := Lib.hid (bel_call HBD.out hb)
        clear hb
        try go_wp2_with fail
        refine hK.out _ _ ⟨HX.out.five, HY.out.five, HZ.out.five⟩ (fun hHeld => ?_)
        clear hK K
        try simp only [Act.put, List.setIfInBounds_toArray, List.set_cons_zero, List.set_cons_succ]
        refine wpAnyH_take (i := 15) (oi := { dst := some 34, op := Op.pick (Operand.tmp 30) (Operand.tmp 33) (Operand.const (Value.bool false)), type := 4, pos := "outright.go:96", after := #[{ on := 11, ground := Ground.data }, { on := 14, ground := Ground.data }, { on := 7, ground := Ground.guard }], guard := some (7, false) }) (v := ?_) rfl (by kernel_rfl) (by kernel_rfl) (by kernel_rfl) (fun _ _ _ h => h) (Or.inl ⟨by rfl, ?_⟩) (by assumption) ?_
        rotate_left 1
        · intro w hSw; (try dsimp only at hSw); go_simp; try (with_reducible rfl)
        try simp only [Act.put, List.setIfInBounds_toArray, List.set_cons_zero, List.set_cons_succ]
        refine wpAnyH_take (i := 16) (oi := { dst := some 35, op := Op.move (Operand.tmp 34), type := 4, pos := "outright.go:96", after := #[{ on := 15, ground := Ground.data }, { on := 14, ground := Ground.chain }, { on := 7, ground := Ground.guard }], guard := some (7, false) }) (v := ?_) rfl (by kernel_rfl) (by kernel_rfl) (by kernel_rfl) (fun _ _ _ h => h) (Or.inl ⟨by rfl, ?_⟩) (by assumption) ?_
        rotate_left 1
        · intro w hSw; (try dsimp only at hSw); go_simp; try (with_reducible rfl)
        try simp only [Act.put, List.setIfInBounds_toArray, List.set_cons_zero, List.set_cons_succ]
        refine wpAnyH_take (i := 17) (oi := { dst := some 36, op := Op.load 23 (Operand.tmp 4), type := 23, pos := "outright.go:96", after := #[{ on := 16, ground := Ground.guard }], guard := some (16, true) }) (v := ?_) rfl (by kernel_rfl) (by kernel_rfl) (by kernel_rfl) (fun _ _ _ h => h) (Or.inl ⟨by rfl, ?_⟩) (by assumption) ?_
        rotate_left 1
        · intro w hSw; (try dsimp only at hSw); go_simp; try (with_reducible rfl)
        try simp only [Act.put, List.setIfInBounds_toArray, List.set_cons_zero, List.set_cons_succ]
        refine wpAnyH_take (i := 18) (oi := { dst := some 37, op := Op.load 23 (Operand.tmp 6), type := 23, pos := "outright.go:96", after := #[{ on := 16, ground := Ground.guard }], guard := some (16, true) }) (v := ?_) rfl (by kernel_rfl) (by kernel_rfl) (by kernel_rfl) (fun _ _ _ h => h) (Or.inl ⟨by rfl, ?_⟩) (by assumption) ?_
        rotate_left 1
        · intro w hSw; (try dsimp only at hSw); go_simp; try (with_reducible rfl)
        try simp only [Act.put, List.setIfInBounds_toArray, List.set_cons_zero, List.set_cons_succ]
        refine wpAnyH_ready (rs := [19]) (by kernel_rfl) (by simp) ?_
        refine AllReadyH.cons (o := { dst := some 38, op := Op.call { callee := Callee.value (Operand.func 12), args := #[Operand.tmp 36, Operand.tmp 37], argTypes := #[23, 23] }, type := 4, pos := "outright.go:96", after := #[{ on := 17, ground := Ground.data }, { on := 18, ground := Ground.data }, { on := 16, ground := Ground.chain }, { on := 16, ground := Ground.guard }], guard := some (16, true) }) rfl (fun K hK => ?_) (AllReadyH.nil)
        go_simp
        refine (HAC.out _).mono ?_; rintro e w1 ⟨rfl, hb⟩
        replace HX := Lib.hid (HX.out.below (by simp) hb)
        replace HY := Lib.hid (HY.out.below (by simp) hb)
        replace HZ := Lib.hid (HZ.out.below (by simp) hb)
        replace HBD := Lib.hid (bel_call HBD.out hb)
        clear hb
        try go_wp2_with fail
        refine hK.out _ _ ⟨HX.out.five, HY.out.five, HZ.out.five⟩ (fun hHeld => ?_)
        clear hK K
        try simp only [Act.put, List.setIfInBounds_toArray, List.set_cons_zero, List.set_cons_succ]
        refine wpAnyH_take (i := 20) (oi := { dst := some 39, op := Op.unOp UnOp.not 4 (Operand.tmp 38), type := 4, pos := "outright.go:96", after := #[{ on := 19, ground := Ground.data }, { on := 16, ground := Ground.guard }], guard := some (16, true) }) (v := ?_) rfl (by kernel_rfl) (by kernel_rfl) (by kernel_rfl) (fun _ _ _ h => h) (Or.inl ⟨by rfl, ?_⟩) (by assumption) ?_
        rotate_left 1
        · intro w hSw; (try dsimp only at hSw); go_simp; try (with_reducible rfl)
        try simp only [Act.put, List.setIfInBounds_toArray, List.set_cons_zero, List.set_cons_succ]
        refine wpAnyH_take (i := 21) (oi := { dst := some 40, op := Op.pick (Operand.tmp 35) (Operand.tmp 39) (Operand.const (Value.bool false)), type := 4, pos := "outright.go:96", after := #[{ on := 16, ground := Ground.data }, { on := 20, ground := Ground.data }, { on := 7, ground := Ground.guard }], guard := some (7, false) }) (v := ?_) rfl (by kernel_rfl) (by kernel_rfl) (by kernel_rfl) (fun _ _ _ h => h) (Or.inl ⟨by rfl, ?_⟩) (by assumption) ?_
        rotate_left 1
        · intro w hSw; (try dsimp only at hSw); go_simp; try (with_reducible rfl)
        try simp only [Act.put, List.setIfInBounds_toArray, List.set_cons_zero, List.set_cons_succ]
        refine wpAnyH_take (i := 22) (oi := { dst := some 41, op := Op.pick (Operand.tmp 26) (Operand.const (Value.bool true)) (Operand.tmp 40), type := 4, pos := "outright.go:96", after := #[{ on := 7, ground := Ground.data }, { on := 21, ground := Ground.data }], guard := none }) (v := ?_) rfl (by kernel_rfl) (by kernel_rfl) (by kernel_rfl) (fun _ _ _ h => h) (Or.inl ⟨by rfl, ?_⟩) (by assumption) ?_
        rotate_left 1
        · intro w hSw; (try dsimp only at hSw); go_simp; try (with_reducible rfl)
        try simp only [Act.put, List.setIfInBounds_toArray, List.set_cons_zero, List.set_cons_succ]
        refine wpAnyH_done (by kernel_rfl) ?_ _
        clear hHeld
        obtain ⟨a0, a1, a2, a3, a4⟩ := HX.out.five
        go_wp2_with fail
        refine (HCk.out _).mono ?_; rintro e w3 ⟨rfl, hb⟩
        replace HX := Lib.hid (HX.out.below (by simp) hb)
        replace HY := Lib.hid (HY.out.below (by simp) hb)
        replace HZ := Lib.hid (HZ.out.below (by simp) hb)
        replace HBD := Lib.hid (bel_call HBD.out hb)
        clear hb
        clear a0 a1 a2 a3 a4
        obtain ⟨a0, a1, a2, a3, a4⟩ := HX.out.five
        obtain ⟨b0, b1, b2, b3, b4⟩ := HY.out.five
        have hgl : g + 2 < w3.heap.size := World.block_lt_of_cell? w3 _ (HZ.out.c 0 (by simp))
        clear b0 b1 b2 b3 b4 a0 a1 a2 a3 a4
        have hb := (Below.refl w3.heap.size w3).drew
        replace HX := Lib.hid (HX.out.below (by simp) hb)
        replace HY := Lib.hid (HY.out.below (by simp) hb)
        replace HZ := Lib.hid (HZ.out.below (by simp) hb)
        replace HBD := Lib.hid (bel_call HBD.out hb)
        clear hb
        go_wp2_with fail
        refine wp_region_held_drew (S := (fun wx => (wx.cell? ⟨g, 0, none⟩ = some (.string (bs n)) ∧ wx.cell? ⟨g, 1, none⟩ = some (.int .i64 t) ∧ wx.cell? ⟨g, 2, none⟩ = some (.int .i64 c) ∧ wx.cell? ⟨g, 3, none⟩ = some (.int .i64 l) ∧ wx.cell? ⟨g, 4, none⟩ = some (.string (bs d))))) (by kernel_rfl) HX.out.five (fun hHeld => ?_)
        refine wpAnyH_take (i := 0) (oi := { dst := some 52, op := Op.load 23 (Operand.tmp 4), type := 23, pos := "outright.go:102", after := #[], guard := none }) (v := ?_) rfl (by kernel_rfl) (by kernel_rfl) (by kernel_rfl) (fun _ _ _ h => h) (Or.inl ⟨by rfl, ?_⟩) (by assumption) ?_
        rotate_left 1
        · intro w hSw; (try dsimp only at hSw); go_simp; try (with_reducible rfl)
        try simp only [Act.put, List.setIfInBounds_toArray, List.set_cons_zero, List.set_cons_succ]
        refine wpAnyH_take (i := 1) (oi := { dst := some 53, op := Op.load 23 (Operand.tmp 4), type := 23, pos := "outright.go:102", after := #[{ on := 4, ground := Ground.gcOnly Departure.lateStores }], guard := none }) (v := ?_) rfl (by kernel_rfl) (by kernel_rfl) (by kernel_rfl) (fun _ _ _ h => h) (Or.inl ⟨by rfl, ?_⟩) (by assumption) ?_
        rotate_left 1
        · intro w hSw; (try dsimp only at hSw); go_simp; try (with_reducible rfl)
        try simp only [Act.put, List.setIfInBounds_toArray, List.set_cons_zero, List.set_cons_succ]
        refine wpAnyH_ready (rs := [2, 3]) (by kernel_rfl) (by simp) ?_
        refine AllReadyH.cons (o := { dst := some 10, op := Op.alloc 23, type := 0, pos := "outright.go:102", after := #[], guard := none }) rfl (fun K hK => ?_) (AllReadyH.cons (o := { dst := some 11, op := Op.alloc 23, type := 0, pos := "outright.go:102", after := #[], guard := none }) rfl (fun K hK => ?_) (AllReadyH.nil))
        · go_simp
          have hb : Below w3.drew.heap.size w3.drew (w3.drew.alloc (.cells #[.string ⟨#[]⟩, .int .i64 0, .int .i64 0, .int .i64 0, .string ⟨#[]⟩] 23)) := (Below.refl _ _).alloc (Nat.le_refl _) _
          have HD : Hid (Cel (w3.drew.alloc (.cells #[.string ⟨#[]⟩, .int .i64 0, .int .i64 0, .int .i64 0, .string ⟨#[]⟩] 23)) w3.heap.size [.string ⟨#[]⟩, .int .i64 0, .int .i64 0, .int .i64 0, .string ⟨#[]⟩]) := cel_new w3.drew _ _ _ _ _ _
          replace HX := Lib.hid (HX.out.below (by simp) hb)
          replace HY := Lib.hid (HY.out.below (by simp) hb)
          replace HZ := Lib.hid (HZ.out.below (by simp) hb)
          replace HBD := Lib.hid (bel_call HBD.out hb)
          clear hb
          refine hK.out _ _ HX.out.five (fun hHeld => ?_)
          clear hK K
          try simp only [Act.put, List.setIfInBounds_toArray, List.set_cons_zero, List.set_cons_succ]
          refine wpAnyH_ready (rs := [3]) (by kernel_rfl) (by simp) ?_
          refine AllReadyH.cons (o := { dst := some 11, op := Op.alloc 23, type := 0, pos := "outright.go:102", after := #[], guard := none }) rfl (fun K hK => ?_) (AllReadyH.nil)
          go_simp
          have hb : Below (w3.drew.alloc (.cells #[.string ⟨#[]⟩, .int .i64 0, .int .i64 0, .int .i64 0, .string ⟨#[]⟩] 23)).heap.size (w3.drew.alloc (.cells #[.string ⟨#[]⟩, .int .i64 0, .int .i64 0, .int .i64 0, .string ⟨#[]⟩] 23)) ((w3.drew.alloc (.cells #[.string ⟨#[]⟩, .int .i64 0, .int .i64 0, .int .i64 0, .string ⟨#[]⟩] 23)).alloc (.cells #[.string ⟨#[]⟩, .int .i64 0, .int .i64 0, .int .i64 0, .string ⟨#[]⟩] 23)) := (Below.refl _ _).alloc (Nat.le_refl _) _
          have HE : Hid (Cel ((w3.drew.alloc (.cells #[.string ⟨#[]⟩, .int .i64 0, .int .i64 0, .int .i64 0, .string ⟨#[]⟩] 23)).alloc (.cells #[.string ⟨#[]⟩, .int .i64 0, .int .i64 0, .int .i64 0, .string ⟨#[]⟩] 23)) (w3.heap.size + 1) [.string ⟨#[]⟩, .int .i64 0, .int .i64 0, .int .i64 0, .string ⟨#[]⟩]) := by have h := cel_new (w3.drew.alloc (.cells #[.string ⟨#[]⟩, .int .i64 0, .int .i64 0, .int .i64 0, .string ⟨#[]⟩] 23)) (.string ⟨#[]⟩) (.int .i64 0) (.int .i64 0) (.int .i64 0) (.string ⟨#[]⟩) 23; rw [World.size_alloc] at h; exact h
          replace HD := Lib.hid (HD.out.below (by simp) hb)
          replace HX := Lib.hid (HX.out.below (by simp) hb)
          replace HY := Lib.hid (HY.out.below (by simp) hb)
          replace HZ := Lib.hid (HZ.out.below (by simp) hb)
          replace HBD := Lib.hid (bel_call HBD.out hb)
          clear hb
          obtain ⟨V, hV⟩ : ∃ V, ((w3.alloc (.cells #[.string ⟨#[]⟩, .int .i64 0, .int .i64 0, .int .i64 0, .string ⟨#[]⟩] 23)).alloc (.cells #[.string ⟨#[]⟩, .int .i64 0, .int .i64 0, .int .i64 0, .string ⟨#[]⟩] 23)).drew = V := ⟨_, rfl⟩
          have hV2 : (w3.drew.alloc (.cells #[.string ⟨#[]⟩, .int .i64 0, .int .i64 0, .int .i64 0, .string ⟨#[]⟩] 23)).alloc (.cells #[.string ⟨#[]⟩, .int .i64 0, .int .i64 0, .int .i64 0, .string ⟨#[]⟩] 23) = V := by rw [← hV]; rfl
          rw [hV2] at HX HY HZ HBD HD HE
          first | rw [hV] | rw [hV2]
          clear hV hV2
          obtain ⟨e0, e1, e2, e3, e4⟩ := HD.out.five
          have ef0 := HD.out.fz 0
          have ef1 := HD.out.fz 1
          have ef2 := HD.out.fz 2
          have ef3 := HD.out.fz 3
          have ef4 := HD.out.fz 4
          refine hK.out _ _ HX.out.five (fun hHeld => ?_)
          clear hK K
          try simp only [Act.put, List.setIfInBounds_toArray, List.set_cons_zero, List.set_cons_succ]
          refine wpAnyH_ready (rs := [4]) (by kernel_rfl) (by simp) ?_
          refine AllReadyH.cons (o := { dst := none, op := Op.store 23 (Operand.tmp 10) (Operand.tmp 52), type := 0, pos := "outright.go:102", after := #[{ on := 2, ground := Ground.data }, { on := 0, ground := Ground.data }, { on := 0, ground := Ground.phase }, { on := 1, ground := Ground.textOnly Departure.lateStores }, { on := 2, ground := Ground.phase }, { on := 3, ground := Ground.phase }], guard := none }) rfl (fun K hK => ?_) (AllReadyH.nil)
          go_simp
          clear e0 e1 e2 e3 e4 ef0 ef1 ef2 ef3 ef4
          obtain ⟨V2, hV2⟩ : ∃ V2, (((((V.setCell ⟨w3.heap.size, 0, none⟩ (Value.string (bs n))).setCell ⟨w3.heap.size, 1, none⟩ (Value.int .i64 t)).setCell ⟨w3.heap.size, 2, none⟩ (Value.int .i64 c)).setCell ⟨w3.heap.size, 3, none⟩ (Value.int .i64 l)).setCell ⟨w3.heap.size, 4, none⟩ (Value.string (bs d))) = V2 := ⟨_, rfl⟩
          have hA : Aside (fun b => b = w3.heap.size) V V2 := by rw [← hV2]; exact (((((Aside.setCell (G := fun b => b = w3.heap.size) V (p := ⟨w3.heap.size, 0, none⟩) (Value.string (bs n)) rfl).trans (Aside.setCell (G := fun b => b = w3.heap.size) (V.setCell ⟨w3.heap.size, 0, none⟩ (Value.string (bs n))) (p := ⟨w3.heap.size, 1, none⟩) (Value.int .i64 t) rfl)).trans (Aside.setCell (G := fun b => b = w3.heap.size) ((V.setCell ⟨w3.heap.size, 0, none⟩ (Value.string (bs n))).setCell ⟨w3.heap.size, 1, none⟩ (Value.int .i64 t)) (p := ⟨w3.heap.size, 2, none⟩) (Value.int .i64 c) rfl)).trans (Aside.setCell (G := fun b => b = w3.heap.size) (((V.setCell ⟨w3.heap.size, 0, none⟩ (Value.string (bs n))).setCell ⟨w3.heap.size, 1, none⟩ (Value.int .i64 t)).setCell ⟨w3.heap.size, 2, none⟩ (Value.int .i64 c)) (p := ⟨w3.heap.size, 3, none⟩) (Value.int .i64 l) rfl)).trans (Aside.setCell (G := fun b => b = w3.heap.size) ((((V.setCell ⟨w3.heap.size, 0, none⟩ (Value.string (bs n))).setCell ⟨w3.heap.size, 1, none⟩ (Value.int .i64 t)).setCell ⟨w3.heap.size, 2, none⟩ (Value.int .i64 c)).setCell ⟨w3.heap.size, 3, none⟩ (Value.int .i64 l)) (p := ⟨w3.heap.size, 4, none⟩) (Value.string (bs d)) rfl))
          have hn : Cel V2 w3.heap.size [Value.string (bs n), Value.int .i64 t, Value.int .i64 c, Value.int .i64 l, Value.string (bs d)] := by rw [← hV2]; exact (((((HD.out.set (o := 0) (by simp) (Value.string (bs n))).set (o := 1) (by simp) (Value.int .i64 t)).set (o := 2) (by simp) (Value.int .i64 c)).set (o := 3) (by simp) (Value.int .i64 l)).set (o := 4) (by simp) (Value.string (bs d)))
          rw [hV2]
          replace HX := Lib.hid (HX.out.aside (by simp) hA (by omega))
          replace HY := Lib.hid (HY.out.aside (by simp) hA (by omega))
          replace HZ := Lib.hid (HZ.out.aside (by simp) hA (by omega))
          replace HE := Lib.hid (HE.out.aside (by simp) hA (by omega))
          replace HBD := Lib.hid (below_aside HBD.out hA fun b hb => ⟨Nat.lt_of_lt_of_le hb HBD.out.size, by omega⟩)
          replace HD := Lib.hid hn
          clear hA hn hV2
          obtain ⟨e0, e1, e2, e3, e4⟩ := HE.out.five
          have ef0 := HE.out.fz 0
          have ef1 := HE.out.fz 1
          have ef2 := HE.out.fz 2
          have ef3 := HE.out.fz 3
          have ef4 := HE.out.fz 4
          refine hK.out _ _ HX.out.five (fun hHeld => ?_)
          clear hK K
          try simp only [Act.put, List.setIfInBounds_toArray, List.set_cons_zero, List.set_cons_succ]
          refine wpAnyH_ready (rs := [5]) (by kernel_rfl) (by simp) ?_
          refine AllReadyH.cons (o := { dst := none, op := Op.store 23 (Operand.tmp 11) (Operand.tmp 53), type := 0, pos := "outright.go:102", after := #[{ on := 3, ground := Ground.data }, { on := 1, ground := Ground.data }, { on := 4, ground := Ground.chain }, { on := 0, ground := Ground.phase }, { on := 1, ground := Ground.phase }, { on := 2, ground := Ground.phase }, { on := 3, ground := Ground.phase }, { on := 4, ground := Ground.phase }], guard := none }) rfl (fun K hK => ?_) (AllReadyH.nil)
          go_simp
          clear e0 e1 e2 e3 e4 ef0 ef1 ef2 ef3 ef4
          obtain ⟨V3, hV3⟩ : ∃ V3, (((((V2.setCell ⟨(w3.heap.size + 1), 0, none⟩ (Value.string (bs n))).setCell ⟨(w3.heap.size + 1), 1, none⟩ (Value.int .i64 t)).setCell ⟨(w3.heap.size + 1), 2, none⟩ (Value.int .i64 c)).setCell ⟨(w3.heap.size + 1), 3, none⟩ (Value.int .i64 l)).setCell ⟨(w3.heap.size + 1), 4, none⟩ (Value.string (bs d))) = V3 := ⟨_, rfl⟩
          have hA : Aside (fun b => b = (w3.heap.size + 1)) V2 V3 := by rw [← hV3]; exact (((((Aside.setCell (G := fun b => b = (w3.heap.size + 1)) V2 (p := ⟨(w3.heap.size + 1), 0, none⟩) (Value.string (bs n)) rfl).trans (Aside.setCell (G := fun b => b = (w3.heap.size + 1)) (V2.setCell ⟨(w3.heap.size + 1), 0, none⟩ (Value.string (bs n))) (p := ⟨(w3.heap.size + 1), 1, none⟩) (Value.int .i64 t) rfl)).trans (Aside.setCell (G := fun b => b = (w3.heap.size + 1)) ((V2.setCell ⟨(w3.heap.size + 1), 0, none⟩ (Value.string (bs n))).setCell ⟨(w3.heap.size + 1), 1, none⟩ (Value.int .i64 t)) (p := ⟨(w3.heap.size + 1), 2, none⟩) (Value.int .i64 c) rfl)).trans (Aside.setCell (G := fun b => b = (w3.heap.size + 1)) (((V2.setCell ⟨(w3.heap.size + 1), 0, none⟩ (Value.string (bs n))).setCell ⟨(w3.heap.size + 1), 1, none⟩ (Value.int .i64 t)).setCell ⟨(w3.heap.size + 1), 2, none⟩ (Value.int .i64 c)) (p := ⟨(w3.heap.size + 1), 3, none⟩) (Value.int .i64 l) rfl)).trans (Aside.setCell (G := fun b => b = (w3.heap.size + 1)) ((((V2.setCell ⟨(w3.heap.size + 1), 0, none⟩ (Value.string (bs n))).setCell ⟨(w3.heap.size + 1), 1, none⟩ (Value.int .i64 t)).setCell ⟨(w3.heap.size + 1), 2, none⟩ (Value.int .i64 c)).setCell ⟨(w3.heap.size + 1), 3, none⟩ (Value.int .i64 l)) (p := ⟨(w3.heap.size + 1), 4, none⟩) (Value.string (bs d)) rfl))
          have hn : Cel V3 (w3.heap.size + 1) [Value.string (bs n), Value.int .i64 t, Value.int .i64 c, Value.int .i64 l, Value.string (bs d)] := by rw [← hV3]; exact (((((HE.out.set (o := 0) (by simp) (Value.string (bs n))).set (o := 1) (by simp) (Value.int .i64 t)).set (o := 2) (by simp) (Value.int .i64 c)).set (o := 3) (by simp) (Value.int .i64 l)).set (o := 4) (by simp) (Value.string (bs d)))
          rw [hV3]
          replace HX := Lib.hid (HX.out.aside (by simp) hA (by omega))
          replace HY := Lib.hid (HY.out.aside (by simp) hA (by omega))
          replace HZ := Lib.hid (HZ.out.aside (by simp) hA (by omega))
          replace HD := Lib.hid (HD.out.aside (by simp) hA (by omega))
          replace HBD := Lib.hid (below_aside HBD.out hA fun b hb => ⟨Nat.lt_of_lt_of_le hb HBD.out.size, by omega⟩)
          replace HE := Lib.hid hn
          clear hA hn hV3
          refine hK.out _ _ HX.out.five (fun hHeld => ?_)
          clear hK K
          try simp only [Act.put, List.setIfInBounds_toArray, List.set_cons_zero, List.set_cons_succ]
          refine wpAnyH_done (by kernel_rfl) ?_ _
          clear hHeld
          go_wp2_with fail
          refine (HPi.out _).mono ?_; rintro e w9 ⟨k, hk, rfl, rfl⟩
          have v3 := HD.out.c 3 (by simp)
          have vf3 := HD.out.fz 3
          have u2 := HE.out.c 2 (by simp)
          have uf2 := HE.out.fz 2
          obtain ⟨a0, a1, a2, a3, a4⟩ := HX.out.five
          go_wp2_with fail
          clear v3 vf3 u2 uf2 a0 a1 a2 a3 a4
          obtain ⟨V4, hV4⟩ : ∃ V4, (V3.setCell ⟨w3.heap.size, 3, none⟩ (Value.int .i64 (k : Int))) = V4 := ⟨_, rfl⟩
          have hA : Aside (fun b => b = w3.heap.size) V3 V4 := by rw [← hV4]; exact (Aside.setCell (G := fun b => b = w3.heap.size) V3 (p := ⟨w3.heap.size, 3, none⟩) (Value.int .i64 (k : Int)) rfl)
          have hn : Cel V4 w3.heap.size [Value.string (bs n), Value.int .i64 t, Value.int .i64 c, Value.int .i64 (k : Int), Value.string (bs d)] := by rw [← hV4]; exact (HD.out.set (o := 3) (by simp) (Value.int .i64 (k : Int)))
          replace HX := Lib.hid (HX.out.aside (by simp) hA (by omega))
          replace HY := Lib.hid (HY.out.aside (by simp) hA (by omega))
          replace HZ := Lib.hid (HZ.out.aside (by simp) hA (by omega))
          replace HE := Lib.hid (HE.out.aside (by simp) hA (by omega))
          replace HBD := Lib.hid (below_aside HBD.out hA fun b hb => ⟨Nat.lt_of_lt_of_le hb HBD.out.size, by omega⟩)
          replace HD := Lib.hid hn
          clear hA hn
          obtain ⟨V5, hV5⟩ : ∃ V5, (V4.setCell ⟨(w3.heap.size + 1), 2, none⟩ (Value.int .i64 ce)) = V5 := ⟨_, rfl⟩
          have hA : Aside (fun b => b = (w3.heap.size + 1)) V4 V5 := by rw [← hV5]; exact (Aside.setCell (G := fun b => b = (w3.heap.size + 1)) V4 (p := ⟨(w3.heap.size + 1), 2, none⟩) (Value.int .i64 ce) rfl)
          have hn : Cel V5 (w3.heap.size + 1) [Value.string (bs n), Value.int .i64 t, Value.int .i64 ce, Value.int .i64 l, Value.string (bs d)] := by rw [← hV5]; exact (HE.out.set (o := 2) (by simp) (Value.int .i64 ce))
          rw [hV4, hV5]
          replace HX := Lib.hid (HX.out.aside (by simp) hA (by omega))
          replace HY := Lib.hid (HY.out.aside (by simp) hA (by omega))
          replace HZ := Lib.hid (HZ.out.aside (by simp) hA (by omega))
          replace HD := Lib.hid (HD.out.aside (by simp) hA (by omega))
          replace HBD := Lib.hid (below_aside HBD.out hA fun b hb => ⟨Nat.lt_of_lt_of_le hb HBD.out.size, by omega⟩)
          replace HE := Lib.hid hn
          clear hA hn hV4 hV5
          refine (HAA.out _).mono ?_; rintro e w10 ⟨rfl, hb⟩
          replace HX := Lib.hid (HX.out.below (by simp) hb)
          replace HY := Lib.hid (HY.out.below (by simp) hb)
          replace HZ := Lib.hid (HZ.out.below (by simp) hb)
          replace HBD := Lib.hid (bel_call HBD.out hb)
          replace HD := Lib.hid (HD.out.below (by simp) hb)
          replace HE := Lib.hid (HE.out.below (by simp) hb)
          clear hb
          obtain ⟨a0, a1, a2, a3, a4⟩ := HX.out.five
          obtain ⟨b0, b1, b2, b3, b4⟩ := HD.out.five
          go_wp2_with fail
          clear a0 a1 a2 a3 a4 b0 b1 b2 b3 b4
          refine (HADk.out k hk _).mono ?_; rintro e w11 ⟨rfl, hb⟩
          replace HX := Lib.hid (HX.out.below (by simp) hb)
          replace HY := Lib.hid (HY.out.below (by simp) hb)
          replace HZ := Lib.hid (HZ.out.below (by simp) hb)
          replace HBD := Lib.hid (bel_call HBD.out hb)
          replace HD := Lib.hid (HD.out.below (by simp) hb)
          replace HE := Lib.hid (HE.out.below (by simp) hb)
          clear hb
          obtain ⟨a0, a1, a2, a3, a4⟩ := HX.out.five
          obtain ⟨b0, b1, b2, b3, b4⟩ := HE.out.five
          go_wp2_with fail
          clear a0 a1 a2 a3 a4 b0 b1 b2 b3 b4
          refine (HAEk.out _).mono ?_; rintro e w12 ⟨rfl, hb⟩
          replace HX := Lib.hid (HX.out.below (by simp) hb)
          replace HY := Lib.hid (HY.out.below (by simp) hb)
          replace HZ := Lib.hid (HZ.out.below (by simp) hb)
          replace HBD := Lib.hid (bel_call HBD.out hb)
          replace HD := Lib.hid (HD.out.below (by simp) hb)
          replace HE := Lib.hid (HE.out.below (by simp) hb)
          clear hb
          obtain ⟨a0, a1, a2, a3, a4⟩ := HX.out.five
          obtain ⟨b0, b1, b2, b3, b4⟩ := HY.out.five
          go_wp2_with fail
          clear a0 a1 a2 a3 a4 b0 b1 b2 b3 b4
          refine (HAB.out _).mono ?_; rintro e w13 ⟨rfl, hb⟩
          replace HX := Lib.hid (HX.out.below (by simp) hb)
          replace HY := Lib.hid (HY.out.below (by simp) hb)
          replace HZ := Lib.hid (HZ.out.below (by simp) hb)
          replace HBD := Lib.hid (bel_call HBD.out hb)
          replace HD := Lib.hid (HD.out.below (by simp) hb)
          replace HE := Lib.hid (HE.out.below (by simp) hb)
          clear hb
          obtain ⟨a0, a1, a2, a3, a4⟩ := HX.out.five
          obtain ⟨b0, b1, b2, b3, b4⟩ := HY.out.five
          go_wp2_with fail
          go_ret
          exact ⟨rfl, HBD.out⟩
        · go_simp
          have hb : Below w3.drew.heap.size w3.drew (w3.drew.alloc (.cells #[.string ⟨#[]⟩, .int .i64 0, .int .i64 0, .int .i64 0, .string ⟨#[]⟩] 23)) := (Below.refl _ _).alloc (Nat.le_refl _) _
          have HE : Hid (Cel (w3.drew.alloc (.cells #[.string ⟨#[]⟩, .int .i64 0, .int .i64 0, .int .i64 0, .string ⟨#[]⟩] 23)) w3.heap.size [.string ⟨#[]⟩, .int .i64 0, .int .i64 0, .int .i64 0, .string ⟨#[]⟩]) := cel_new w3.drew _ _ _ _ _ _
          replace HX := Lib.hid (HX.out.below (by simp) hb)
          replace HY := Lib.hid (HY.out.below (by simp) hb)
          replace HZ := Lib.hid (HZ.out.below (by simp) hb)
          replace HBD := Lib.hid (bel_call HBD.out hb)
          clear hb
          refine hK.out _ _ HX.out.five (fun hHeld => ?_)
          clear hK K
          try simp only [Act.put, List.setIfInBounds_toArray, List.set_cons_zero, List.set_cons_succ]
          refine wpAnyH_ready (rs := [2]) (by kernel_rfl) (by simp) ?_
          refine AllReadyH.cons (o := { dst := some 10, op := Op.alloc 23, type := 0, pos := "outright.go:102", after := #[], guard := none }) rfl (fun K hK => ?_) (AllReadyH.nil)
          go_simp
          have hb : Below (w3.drew.alloc (.cells #[.string ⟨#[]⟩, .int .i64 0, .int .i64 0, .int .i64 0, .string ⟨#[]⟩] 23)).heap.size (w3.drew.alloc (.cells #[.string ⟨#[]⟩, .int .i64 0, .int .i64 0, .int .i64 0, .string ⟨#[]⟩] 23)) ((w3.drew.alloc (.cells #[.string ⟨#[]⟩, .int .i64 0, .int .i64 0, .int .i64 0, .string ⟨#[]⟩] 23)).alloc (.cells #[.string ⟨#[]⟩, .int .i64 0, .int .i64 0, .int .i64 0, .string ⟨#[]⟩] 23)) := (Below.refl _ _).alloc (Nat.le_refl _) _
          have HD : Hid (Cel ((w3.drew.alloc (.cells #[.string ⟨#[]⟩, .int .i64 0, .int .i64 0, .int .i64 0, .string ⟨#[]⟩] 23)).alloc (.cells #[.string ⟨#[]⟩, .int .i64 0, .int .i64 0, .int .i64 0, .string ⟨#[]⟩] 23)) (w3.heap.size + 1) [.string ⟨#[]⟩, .int .i64 0, .int .i64 0, .int .i64 0, .string ⟨#[]⟩]) := by have h := cel_new (w3.drew.alloc (.cells #[.string ⟨#[]⟩, .int .i64 0, .int .i64 0, .int .i64 0, .string ⟨#[]⟩] 23)) (.string ⟨#[]⟩) (.int .i64 0) (.int .i64 0) (.int .i64 0) (.string ⟨#[]⟩) 23; rw [World.size_alloc] at h; exact h
          replace HE := Lib.hid (HE.out.below (by simp) hb)
          replace HX := Lib.hid (HX.out.below (by simp) hb)
          replace HY := Lib.hid (HY.out.below (by simp) hb)
          replace HZ := Lib.hid (HZ.out.below (by simp) hb)
          replace HBD := Lib.hid (bel_call HBD.out hb)
          clear hb
          obtain ⟨V, hV⟩ : ∃ V, ((w3.alloc (.cells #[.string ⟨#[]⟩, .int .i64 0, .int .i64 0, .int .i64 0, .string ⟨#[]⟩] 23)).alloc (.cells #[.string ⟨#[]⟩, .int .i64 0, .int .i64 0, .int .i64 0, .string ⟨#[]⟩] 23)).drew = V := ⟨_, rfl⟩
          have hV2 : (w3.drew.alloc (.cells #[.string ⟨#[]⟩, .int .i64 0, .int .i64 0, .int .i64 0, .string ⟨#[]⟩] 23)).alloc (.cells #[.string ⟨#[]⟩, .int .i64 0, .int .i64 0, .int .i64 0, .string ⟨#[]⟩] 23) = V := by rw [← hV]; rfl
          rw [hV2] at HX HY HZ HBD HD HE
          first | rw [hV] | rw [hV2]
          clear hV hV2
          obtain ⟨e0, e1, e2, e3, e4⟩ := HD.out.five
          have ef0 := HD.out.fz 0
          have ef1 := HD.out.fz 1
          have ef2 := HD.out.fz 2
          have ef3 := HD.out.fz 3
          have ef4 := HD.out.fz 4
          refine hK.out _ _ HX.out.five (fun hHeld => ?_)
          clear hK K
          try simp only [Act.put, List.setIfInBounds_toArray, List.set_cons_zero, List.set_cons_succ]
          refine wpAnyH_ready (rs := [4]) (by kernel_rfl) (by simp) ?_
          refine AllReadyH.cons (o := { dst := none, op := Op.store 23 (Operand.tmp 10) (Operand.tmp 52), type := 0, pos := "outright.go:102", after := #[{ on := 2, ground := Ground.data }, { on := 0, ground := Ground.data }, { on := 0, ground := Ground.phase }, { on := 1, ground := Ground.textOnly Departure.lateStores }, { on := 2, ground := Ground.phase }, { on := 3, ground := Ground.phase }], guard := none }) rfl (fun K hK => ?_) (AllReadyH.nil)
          go_simp
          clear e0 e1 e2 e3 e4 ef0 ef1 ef2 ef3 ef4
          obtain ⟨V2, hV2⟩ : ∃ V2, (((((V.setCell ⟨(w3.heap.size + 1), 0, none⟩ (Value.string (bs n))).setCell ⟨(w3.heap.size + 1), 1, none⟩ (Value.int .i64 t)).setCell ⟨(w3.heap.size + 1), 2, none⟩ (Value.int .i64 c)).setCell ⟨(w3.heap.size + 1), 3, none⟩ (Value.int .i64 l)).setCell ⟨(w3.heap.size + 1), 4, none⟩ (Value.string (bs d))) = V2 := ⟨_, rfl⟩
          have hA : Aside (fun b => b = (w3.heap.size + 1)) V V2 := by rw [← hV2]; exact (((((Aside.setCell (G := fun b => b = (w3.heap.size + 1)) V (p := ⟨(w3.heap.size + 1), 0, none⟩) (Value.string (bs n)) rfl).trans (Aside.setCell (G := fun b => b = (w3.heap.size + 1)) (V.setCell ⟨(w3.heap.size + 1), 0, none⟩ (Value.string (bs n))) (p := ⟨(w3.heap.size + 1), 1, none⟩) (Value.int .i64 t) rfl)).trans (Aside.setCell (G := fun b => b = (w3.heap.size + 1)) ((V.setCell ⟨(w3.heap.size + 1), 0, none⟩ (Value.string (bs n))).setCell ⟨(w3.heap.size + 1), 1, none⟩ (Value.int .i64 t)) (p := ⟨(w3.heap.size + 1), 2, none⟩) (Value.int .i64 c) rfl)).trans (Aside.setCell (G := fun b => b = (w3.heap.size + 1)) (((V.setCell ⟨(w3.heap.size + 1), 0, none⟩ (Value.string (bs n))).setCell ⟨(w3.heap.size + 1), 1, none⟩ (Value.int .i64 t)).setCell ⟨(w3.heap.size + 1), 2, none⟩ (Value.int .i64 c)) (p := ⟨(w3.heap.size + 1), 3, none⟩) (Value.int .i64 l) rfl)).trans (Aside.setCell (G := fun b => b = (w3.heap.size + 1)) ((((V.setCell ⟨(w3.heap.size + 1), 0, none⟩ (Value.string (bs n))).setCell ⟨(w3.heap.size + 1), 1, none⟩ (Value.int .i64 t)).setCell ⟨(w3.heap.size + 1), 2, none⟩ (Value.int .i64 c)).setCell ⟨(w3.heap.size + 1), 3, none⟩ (Value.int .i64 l)) (p := ⟨(w3.heap.size + 1), 4, none⟩) (Value.string (bs d)) rfl))
          have hn : Cel V2 (w3.heap.size + 1) [Value.string (bs n), Value.int .i64 t, Value.int .i64 c, Value.int .i64 l, Value.string (bs d)] := by rw [← hV2]; exact (((((HD.out.set (o := 0) (by simp) (Value.string (bs n))).set (o := 1) (by simp) (Value.int .i64 t)).set (o := 2) (by simp) (Value.int .i64 c)).set (o := 3) (by simp) (Value.int .i64 l)).set (o := 4) (by simp) (Value.string (bs d)))
          rw [hV2]
          replace HX := Lib.hid (HX.out.aside (by simp) hA (by omega))
          replace HY := Lib.hid (HY.out.aside (by simp) hA (by omega))
          replace HZ := Lib.hid (HZ.out.aside (by simp) hA (by omega))
          replace HE := Lib.hid (HE.out.aside (by simp) hA (by omega))
          replace HBD := Lib.hid (below_aside HBD.out hA fun b hb => ⟨Nat.lt_of_lt_of_le hb HBD.out.size, by omega⟩)
          replace HD := Lib.hid hn
          clear hA hn hV2
          obtain ⟨e0, e1, e2, e3, e4⟩ := HE.out.five
          have ef0 := HE.out.fz 0
          have ef1 := HE.out.fz 1
          have ef2 := HE.out.fz 2
          have ef3 := HE.out.fz 3
          have ef4 := HE.out.fz 4
          refine hK.out _ _ HX.out.five (fun hHeld => ?_)
          clear hK K
          try simp only [Act.put, List.setIfInBounds_toArray, List.set_cons_zero, List.set_cons_succ]
          refine wpAnyH_ready (rs := [5]) (by kernel_rfl) (by simp) ?_
          refine AllReadyH.cons (o := { dst := none, op := Op.store 23 (Operand.tmp 11) (Operand.tmp 53), type := 0, pos := "outright.go:102", after := #[{ on := 3, ground := Ground.data }, { on := 1, ground := Ground.data }, { on := 4, ground := Ground.chain }, { on := 0, ground := Ground.phase }, { on := 1, ground := Ground.phase }, { on := 2, ground := Ground.phase }, { on := 3, ground := Ground.phase }, { on := 4, ground := Ground.phase }], guard := none }) rfl (fun K hK => ?_) (AllReadyH.nil)
          go_simp
          clear e0 e1 e2 e3 e4 ef0 ef1 ef2 ef3 ef4
          obtain ⟨V3, hV3⟩ : ∃ V3, (((((V2.setCell ⟨w3.heap.size, 0, none⟩ (Value.string (bs n))).setCell ⟨w3.heap.size, 1, none⟩ (Value.int .i64 t)).setCell ⟨w3.heap.size, 2, none⟩ (Value.int .i64 c)).setCell ⟨w3.heap.size, 3, none⟩ (Value.int .i64 l)).setCell ⟨w3.heap.size, 4, none⟩ (Value.string (bs d))) = V3 := ⟨_, rfl⟩
          have hA : Aside (fun b => b = w3.heap.size) V2 V3 := by rw [← hV3]; exact (((((Aside.setCell (G := fun b => b = w3.heap.size) V2 (p := ⟨w3.heap.size, 0, none⟩) (Value.string (bs n)) rfl).trans (Aside.setCell (G := fun b => b = w3.heap.size) (V2.setCell ⟨w3.heap.size, 0, none⟩ (Value.string (bs n))) (p := ⟨w3.heap.size, 1, none⟩) (Value.int .i64 t) rfl)).trans (Aside.setCell (G := fun b => b = w3.heap.size) ((V2.setCell ⟨w3.heap.size, 0, none⟩ (Value.string (bs n))).setCell ⟨w3.heap.size, 1, none⟩ (Value.int .i64 t)) (p := ⟨w3.heap.size, 2, none⟩) (Value.int .i64 c) rfl)).trans (Aside.setCell (G := fun b => b = w3.heap.size) (((V2.setCell ⟨w3.heap.size, 0, none⟩ (Value.string (bs n))).setCell ⟨w3.heap.size, 1, none⟩ (Value.int .i64 t)).setCell ⟨w3.heap.size, 2, none⟩ (Value.int .i64 c)) (p := ⟨w3.heap.size, 3, none⟩) (Value.int .i64 l) rfl)).trans (Aside.setCell (G := fun b => b = w3.heap.size) ((((V2.setCell ⟨w3.heap.size, 0, none⟩ (Value.string (bs n))).setCell ⟨w3.heap.size, 1, none⟩ (Value.int .i64 t)).setCell ⟨w3.heap.size, 2, none⟩ (Value.int .i64 c)).setCell ⟨w3.heap.size, 3, none⟩ (Value.int .i64 l)) (p := ⟨w3.heap.size, 4, none⟩) (Value.string (bs d)) rfl))
          have hn : Cel V3 w3.heap.size [Value.string (bs n), Value.int .i64 t, Value.int .i64 c, Value.int .i64 l, Value.string (bs d)] := by rw [← hV3]; exact (((((HE.out.set (o := 0) (by simp) (Value.string (bs n))).set (o := 1) (by simp) (Value.int .i64 t)).set (o := 2) (by simp) (Value.int .i64 c)).set (o := 3) (by simp) (Value.int .i64 l)).set (o := 4) (by simp) (Value.string (bs d)))
          rw [hV3]
          replace HX := Lib.hid (HX.out.aside (by simp) hA (by omega))
          replace HY := Lib.hid (HY.out.aside (by simp) hA (by omega))
          replace HZ := Lib.hid (HZ.out.aside (by simp) hA (by omega))
          replace HD := Lib.hid (HD.out.aside (by simp) hA (by omega))
          replace HBD := Lib.hid (below_aside HBD.out hA fun b hb => ⟨Nat.lt_of_lt_of_le hb HBD.out.size, by omega⟩)
          replace HE := Lib.hid hn
          clear hA hn hV3
          refine hK.out _ _ HX.out.five (fun hHeld => ?_)
          clear hK K
          try simp only [Act.put, List.setIfInBounds_toArray, List.set_cons_zero, List.set_cons_succ]
          refine wpAnyH_done (by kernel_rfl) ?_ _
          clear hHeld
          go_wp2_with fail
          refine (HPi.out _).mono ?_; rintro e w9 ⟨k, hk, rfl, rfl⟩
          have v3 := HD.out.c 3 (by simp)
          have vf3 := HD.out.fz 3
          have u2 := HE.out.c 2 (by simp)
          have uf2 := HE.out.fz 2
          obtain ⟨a0, a1, a2, a3, a4⟩ := HX.out.five
          go_wp2_with fail
          clear v3 vf3 u2 uf2 a0 a1 a2 a3 a4
          obtain ⟨V4, hV4⟩ : ∃ V4, (V3.setCell ⟨(w3.heap.size + 1), 3, none⟩ (Value.int .i64 (k : Int))) = V4 := ⟨_, rfl⟩
          have hA : Aside (fun b => b = (w3.heap.size + 1)) V3 V4 := by rw [← hV4]; exact (Aside.setCell (G := fun b => b = (w3.heap.size + 1)) V3 (p := ⟨(w3.heap.size + 1), 3, none⟩) (Value.int .i64 (k : Int)) rfl)
          have hn : Cel V4 (w3.heap.size + 1) [Value.string (bs n), Value.int .i64 t, Value.int .i64 c, Value.int .i64 (k : Int), Value.string (bs d)] := by rw [← hV4]; exact (HD.out.set (o := 3) (by simp) (Value.int .i64 (k : Int)))
          replace HX := Lib.hid (HX.out.aside (by simp) hA (by omega))
          replace HY := Lib.hid (HY.out.aside (by simp) hA (by omega))
          replace HZ := Lib.hid (HZ.out.aside (by simp) hA (by omega))
          replace HE := Lib.hid (HE.out.aside (by simp) hA (by omega))
          replace HBD := Lib.hid (below_aside HBD.out hA fun b hb => ⟨Nat.lt_of_lt_of_le hb HBD.out.size, by omega⟩)
          replace HD := Lib.hid hn
          clear hA hn
          obtain ⟨V5, hV5⟩ : ∃ V5, (V4.setCell ⟨w3.heap.size, 2, none⟩ (Value.int .i64 ce)) = V5 := ⟨_, rfl⟩
          have hA : Aside (fun b => b = w3.heap.size) V4 V5 := by rw [← hV5]; exact (Aside.setCell (G := fun b => b = w3.heap.size) V4 (p := ⟨w3.heap.size, 2, none⟩) (Value.int .i64 ce) rfl)
          have hn : Cel V5 w3.heap.size [Value.string (bs n), Value.int .i64 t, Value.int .i64 ce, Value.int .i64 l, Value.string (bs d)] := by rw [← hV5]; exact (HE.out.set (o := 2) (by simp) (Value.int .i64 ce))
          rw [hV4, hV5]
          replace HX := Lib.hid (HX.out.aside (by simp) hA (by omega))
          replace HY := Lib.hid (HY.out.aside (by simp) hA (by omega))
          replace HZ := Lib.hid (HZ.out.aside (by simp) hA (by omega))
          replace HD := Lib.hid (HD.out.aside (by simp) hA (by omega))
          replace HBD := Lib.hid (below_aside HBD.out hA fun b hb => ⟨Nat.lt_of_lt_of_le hb HBD.out.size, by omega⟩)
          replace HE := Lib.hid hn
          clear hA hn hV4 hV5
          refine (HAA.out _).mono ?_; rintro e w10 ⟨rfl, hb⟩
          replace HX := Lib.hid (HX.out.below (by simp) hb)
          replace HY := Lib.hid (HY.out.below (by simp) hb)
          replace HZ := Lib.hid (HZ.out.below (by simp) hb)
          replace HBD := Lib.hid (bel_call HBD.out hb)
          replace HD := Lib.hid (HD.out.below (by simp) hb)
          replace HE := Lib.hid (HE.out.below (by simp) hb)
          clear hb
          obtain ⟨a0, a1, a2, a3, a4⟩ := HX.out.five
          obtain ⟨b0, b1, b2, b3, b4⟩ := HD.out.five
          go_wp2_with fail
          clear a0 a1 a2 a3 a4 b0 b1 b2 b3 b4
          refine (HADk.out k hk _).mono ?_; rintro e w11 ⟨rfl, hb⟩
          replace HX := Lib.hid (HX.out.below (by simp) hb)
          replace HY := Lib.hid (HY.out.below (by simp) hb)
          replace HZ := Lib.hid (HZ.out.below (by simp) hb)
          replace HBD := Lib.hid (bel_call HBD.out hb)
          replace HD := Lib.hid (HD.out.below (by simp) hb)
          replace HE := Lib.hid (HE.out.below (by simp) hb)
          clear hb
          obtain ⟨a0, a1, a2, a3, a4⟩ := HX.out.five
          obtain ⟨b0, b1, b2, b3, b4⟩ := HE.out.five
          go_wp2_with fail
          clear a0 a1 a2 a3 a4 b0 b1 b2 b3 b4
          refine (HAEk.out _).mono ?_; rintro e w12 ⟨rfl, hb⟩
          replace HX := Lib.hid (HX.out.below (by simp) hb)
          replace HY := Lib.hid (HY.out.below (by simp) hb)
          replace HZ := Lib.hid (HZ.out.below (by simp) hb)
          replace HBD := Lib.hid (bel_call HBD.out hb)
          replace HD := Lib.hid (HD.out.below (by simp) hb)
          replace HE := Lib.hid (HE.out.below (by simp) hb)
          clear hb
          obtain ⟨a0, a1, a2, a3, a4⟩ := HX.out.five
          obtain ⟨b0, b1, b2, b3, b4⟩ := HY.out.five
          go_wp2_with fail
          clear a0 a1 a2 a3 a4 b0 b1 b2 b3 b4
          refine (HAB.out _).mono ?_; rintro e w13 ⟨rfl, hb⟩
          replace HX := Lib.hid (HX.out.below (by simp) hb)
          replace HY := Lib.hid (HY.out.below (by simp) hb)
          replace HZ := Lib.hid (HZ.out.below (by simp) hb)
          replace HBD := Lib.hid (bel_call HBD.out hb)
          replace HD := Lib.hid (HD.out.below (by simp) hb)
          replace HE := Lib.hid (HE.out.below (by simp) hb)
          clear hb
          obtain ⟨a0, a1, a2, a3, a4⟩ := HX.out.five
          obtain ⟨b0, b1, b2, b3, b4⟩ := HY.out.five
          go_wp2_with fail
          go_ret
          exact ⟨rfl, HBD.out⟩
      · have hBC : sameC ⟨n2, t2, c2, l2, d2⟩ ⟨n3, t3, c3, l3, d3⟩ = false := by simpa using hBC
        rw [hBC] at HBC
        have hcb := hE0 hC0
        obtain ⟨ce, hce⟩ : ∃ ce, (c + 1).tmod 65536 = ce := ⟨_, rfl⟩
        have hcn : ce ≠ c := by
          rw [← hce, Int.tmod_eq_emod_of_nonneg (by omega)]
          omega
        have hcw : wrap64 (c + 1) = c + 1 := IntWalk.wrap64_in _ ⟨by omega, by omega⟩
        have HADk := Lib.hid (fun (k : Nat) (hk : k < 2147483648) wx => show Calls Try.prog 12 #[.agg #[.string (bs n), .int .i64 t, .int .i64 c, .int .i64 l, .string (bs d)], .agg #[.string (bs n), .int .i64 t, .int .i64 c, .int .i64 (k : Int), .string (bs d)]] wx (Tells wx (.bool true)) from by have h := HAD.out (k : Int) wx; rw [show sameC ⟨n, t, c, l, d⟩ ⟨n, t, c, (k : Int), d⟩ = true from sameC_ttl hC0 (k : Int) (by omega) (by omega)] at h; exact h)
        have HAEk := Lib.hid (fun wx => show Calls Try.prog 12 #[.agg #[.string (bs n), .int .i64 t, .int .i64 c, .int .i64 l, .string (bs d)], .agg #[.string (bs n), .int .i64 t, .int .i64 ce, .int .i64 l, .string (bs d)]] wx (Tells wx (.bool false)) from by have h := HAE.out ce wx; rw [show sameC ⟨n, t, c, l, d⟩ ⟨n, t, ce, l, d⟩ = false from sameC_class (x := ⟨n, t, c, l, d⟩) ce hcn] at h; exact h)
        rw [hC0] at HCk HAA
        rw [show decide ((0 : Int) = 0) = true from rfl] at HAA
        clear HAD HAE hC0 hE0 hcn
        have hns : (bs d).size = d.length := bs_size d
        have hns2 : (bs d2).size = d2.length := bs_size d2
        have tt : (t == t2) = true := by simpa using p1
        have tc2 : (c == c2) = true := by simpa using p2
        have td : ((d.length : Int) == (d2.length : Int)) = true := by rw [p3]; simp
        clear hAB hBC p1 p2 p3
        go_enter Try.func7, Try.ntmps7
        go_wp2_with fail
        refine (HAW.out _).mono ?_; rintro e w1 ⟨rfl, hb⟩
        replace HX := Lib.hid (HX.out.below (by simp) hb)
        replace HY := Lib.hid (HY.out.below (by simp) hb)
        replace HZ := Lib.hid (HZ.out.below (by simp) hb)
        replace HBD := Lib.hid (bel_call HBD.out hb)
        clear hb
        obtain ⟨a0, a1, a2, a3, a4⟩ := HX.out.five
        obtain ⟨b0, b1, b2, b3, b4⟩ := HY.out.five
        obtain ⟨f0, f1, f2, f3, f4⟩ := HZ.out.five
        have HBG := Lib.hid (big_three (w := w1) n t c l d n2 t2 c2 l2 d2 n3 t3 c3 l3 d3)
        have hb : Below w1.heap.size w1 (w1.alloc (.cells #[.string (bs n), .int .i64 t, .int .i64 c, .int .i64 l, .string (bs d), .string (bs n2), .int .i64 t2, .int .i64 c2, .int .i64 l2, .string (bs d2), .string (bs n3), .int .i64 t3, .int .i64 c3, .int .i64 l3, .string (bs d3)] 23)) := (Below.refl _ _).alloc (Nat.le_refl _) _
        replace HX := Lib.hid (HX.out.below (by simp) hb)
        replace HY := Lib.hid (HY.out.below (by simp) hb)
        replace HZ := Lib.hid (HZ.out.below (by simp) hb)
        replace HBD := Lib.hid (bel_call HBD.out hb)
        clear hb
        rw [hbig] at HBG
        go_wp2_with fail
        refine HBG.out.mono ?_; rintro e w2 ⟨rfl, rfl⟩
        clear a0 a1 a2 a3 a4 b0 b1 b2 b3 b4 f0 f1 f2 f3 f4
        have hb := (Below.refl (w1.alloc (.cells #[.string (bs n), .int .i64 t, .int .i64 c, .int .i64 l, .string (bs d), .string (bs n2), .int .i64 t2, .int .i64 c2, .int .i64 l2, .string (bs d2), .string (bs n3), .int .i64 t3, .int .i64 c3, .int .i64 l3, .string (bs d3)] 23)).heap.size (w1.alloc (.cells #[.string (bs n), .int .i64 t, .int .i64 c, .int .i64 l, .string (bs d), .string (bs n2), .int .i64 t2, .int .i64 c2, .int .i64 l2, .string (bs d2), .string (bs n3), .int .i64 t3, .int .i64 c3, .int .i64 l3, .string (bs d3)] 23))).drew
        replace HX := Lib.hid (HX.out.below (by simp) hb)
        replace HY := Lib.hid (HY.out.below (by simp) hb)
        replace HZ := Lib.hid (HZ.out.below (by simp) hb)
        replace HBD := Lib.hid (bel_call HBD.out hb)
        clear hb
        go_wp2_with fail
        refine wp_region_held_drew (S := (fun wx => (wx.cell? ⟨g, 0, none⟩ = some (.string (bs n)) ∧ wx.cell? ⟨g, 1, none⟩ = some (.int .i64 t) ∧ wx.cell? ⟨g, 2, none⟩ = some (.int .i64 c) ∧ wx.cell? ⟨g, 3, none⟩ = some (.int .i64 l) ∧ wx.cell? ⟨g, 4, none⟩ = some (.string (bs d))) ∧ (wx.cell? ⟨g + 1, 0, none⟩ = some (.string (bs n2)) ∧ wx.cell? ⟨g + 1, 1, none⟩ = some (.int .i64 t2) ∧ wx.cell? ⟨g + 1, 2, none⟩ = some (.int .i64 c2) ∧ wx.cell? ⟨g + 1, 3, none⟩ = some (.int .i64 l2) ∧ wx.cell? ⟨g + 1, 4, none⟩ = some (.string (bs d2))) ∧ (wx.cell? ⟨g + 2, 0, none⟩ = some (.string (bs n3)) ∧ wx.cell? ⟨g + 2, 1, none⟩ = some (.int .i64 t3) ∧ wx.cell? ⟨g + 2, 2, none⟩ = some (.int .i64 c3) ∧ wx.cell? ⟨g + 2, 3, none⟩ = some (.int .i64 l3) ∧ wx.cell? ⟨g + 2, 4, none⟩ = some (.string (bs d3))))) (by kernel_rfl) ⟨HX.out.five, HY.out.five, HZ.out.five⟩ (fun hHeld => ?_)
        refine wpAnyH_take (i := 0) (oi := { dst := some 19, op := Op.load 23 (Operand.tmp 4), type := 23, pos := "outright.go:96", after := #[], guard := none }) (v := ?_) rfl (by kernel_rfl) (by kernel_rfl) (by kernel_rfl) (fun _ _ _ h => h) (Or.inl ⟨by rfl, ?_⟩) (by assumption) ?_
        rotate_left 1
        · intro w hSw; (try dsimp only at hSw); go_simp; try (with_reducible rfl)
        try simp only [Act.put, List.setIfInBounds_toArray, List.set_cons_zero, List.set_cons_succ]
        refine wpAnyH_take (i := 1) (oi := { dst := some 20, op := Op.load 23 (Operand.tmp 5), type := 23, pos := "outright.go:96", after := #[], guard := none }) (v := ?_) rfl (by kernel_rfl) (by kernel_rfl) (by kernel_rfl) (fun _ _ _ h => h) (Or.inl ⟨by rfl, ?_⟩) (by assumption) ?_
        rotate_left 1
        · intro w hSw; (try dsimp only at hSw); go_simp; try (with_reducible rfl)
        try simp only [Act.put, List.setIfInBounds_toArray, List.set_cons_zero, List.set_cons_succ]
        refine wpAnyH_take (i := 3) (oi := { dst := some 22, op := Op.load 23 (Operand.tmp 5), type := 23, pos := "outright.go:96", after := #[], guard := none }) (v := ?_) rfl (by kernel_rfl) (by kernel_rfl) (by kernel_rfl) (fun _ _ _ h => h) (Or.inl ⟨by rfl, ?_⟩) (by assumption) ?_
        rotate_left 1
        · intro w hSw; (try dsimp only at hSw); go_simp; try (with_reducible rfl)
        try simp only [Act.put, List.setIfInBounds_toArray, List.set_cons_zero, List.set_cons_succ]
        refine wpAnyH_take (i := 4) (oi := { dst := some 23, op := Op.load 23 (Operand.tmp 4), type := 23, pos := "outright.go:96", after := #[], guard := none }) (v := ?_) rfl (by kernel_rfl) (by kernel_rfl) (by kernel_rfl) (fun _ _ _ h => h) (Or.inl ⟨by rfl, ?_⟩) (by assumption) ?_
        rotate_left 1
        · intro w hSw; (try dsimp only at hSw); go_simp; try (with_reducible rfl)
        try simp only [Act.put, List.setIfInBounds_toArray, List.set_cons_zero, List.set_cons_succ]
        refine wpAnyH_ready (rs := [2]) (by kernel_rfl) (by simp) ?_
        refine AllReadyH.cons (o := { dst := some 21, op := Op.call { callee := Callee.value (Operand.func 12), args := #[Operand.tmp 19, Operand.tmp 20], argTypes := #[23, 23] }, type := 4, pos := "outright.go:96", after := #[{ on := 0, ground := Ground.data }, { on := 1, ground := Ground.data }], guard := none }) rfl (fun K hK => ?_) (AllReadyH.nil)
        go_simp
        refine (HAB.out _).mono ?_; rintro e w1 ⟨rfl, hb⟩
        replace HX := Lib.hid (HX.out.below (by simp) hb)
        replace HY := Lib.hid (HY.out.below (by simp) hb)
        replace HZ := Lib.hid (HZ.out.below (by simp) hb)
        replace HBD := Lib.hid (bel_call HBD.out hb)
        clear hb
        try go_wp2_with fail
        refine hK.out _ _ ⟨HX.out.five, HY.out.five, HZ.out.five⟩ (fun hHeld => ?_)
        clear hK K
        try simp only [Act.put, List.setIfInBounds_toArray, List.set_cons_zero, List.set_cons_succ]
        refine wpAnyH_ready (rs := [5]) (by kernel_rfl) (by simp) ?_
        refine AllReadyH.cons (o := { dst := some 24, op := Op.call { callee := Callee.value (Operand.func 12), args := #[Operand.tmp 22, Operand.tmp 23], argTypes := #[23, 23] }, type := 4, pos := "outright.go:96", after := #[{ on := 3, ground := Ground.data }, { on := 4, ground := Ground.data }, { on := 2, ground := Ground.chain }], guard := none }) rfl (fun K hK => ?_) (AllReadyH.nil)
        go_simp
        refine (HBA.out _).mono ?_; rintro e w1 ⟨rfl, hb⟩
        replace HX := Lib.hid (HX.out.below (by simp) hb)
        replace HY := Lib.hid (HY.out.below (by simp) hb)
        replace HZ := Lib.hid (HZ.out.below (by simp) hb)
        replace HBD := Lib.hid (bel_call HBD.out hb)
        clear hb
        try go_wp2_with fail
        refine hK.out _ _ ⟨HX.out.five, HY.out.five, HZ.out.five⟩ (fun hHeld => ?_)
        clear hK K
        try simp only [Act.put, List.setIfInBounds_toArray, List.set_cons_zero, List.set_cons_succ]
        refine wpAnyH_take (i := 6) (oi := { dst := some 25, op := Op.binOp BinOp.neq 4 (Operand.tmp 21) (Operand.tmp 24) 4, type := 4, pos := "outright.go:96", after := #[{ on := 2, ground := Ground.data }, { on := 5, ground := Ground.data }], guard := none }) (v := ?_) rfl (by kernel_rfl) (by kernel_rfl) (by kernel_rfl) (fun _ _ _ h => h) (Or.inl ⟨by rfl, ?_⟩) (by assumption) ?_
        rotate_left 1
        · intro w hSw; (try dsimp only at hSw); go_simp; try (with_reducible rfl)
        try simp only [Act.put, List.setIfInBounds_toArray, List.set_cons_zero, List.set_cons_succ]
        refine wpAnyH_take (i := 7) (oi := { dst := some 26, op := Op.move (Operand.tmp 25), type := 4, pos := "outright.go:96", after := #[{ on := 6, ground := Ground.data }, { on := 5, ground := Ground.chain }], guard := none }) (v := ?_) rfl (by kernel_rfl) (by kernel_rfl) (by kernel_rfl) (fun _ _ _ h => h) (Or.inl ⟨by rfl, ?_⟩) (by assumption) ?_
        rotate_left 1
        · intro w hSw; (try dsimp only at hSw); go_simp; try (with_reducible rfl)
        try simp only [Act.put, List.setIfInBounds_toArray, List.set_cons_zero, List.set_cons_succ]
        refine wpAnyH_take (i := 8) (oi := { dst := some 27, op := Op.load 23 (Operand.tmp 4), type := 23, pos := "outright.go:96", after := #[{ on := 7, ground := Ground.guard }], guard := some (7, false) }) (v := ?_) rfl (by kernel_rfl) (by kernel_rfl) (by kernel_rfl) (fun _ _ _ h => h) (Or.inl ⟨by rfl, ?_⟩) (by assumption) ?_
        rotate_left 1
        · intro w hSw; (try dsimp only at hSw); go_simp; try (with_reducible rfl)
        try simp only [Act.put, List.setIfInBounds_toArray, List.set_cons_zero, List.set_cons_succ]
        refine wpAnyH_take (i := 9) (oi := { dst := some 28, op := Op.load 23 (Operand.tmp 5), type := 23, pos := "outright.go:96", after := #[{ on := 7, ground := Ground.guard }], guard := some (7, false) }) (v := ?_) rfl (by kernel_rfl) (by kernel_rfl) (by kernel_rfl) (fun _ _ _ h => h) (Or.inl ⟨by rfl, ?_⟩) (by assumption) ?_
        rotate_left 1
        · intro w hSw; (try dsimp only at hSw); go_simp; try (with_reducible rfl)
        try simp only [Act.put, List.setIfInBounds_toArray, List.set_cons_zero, List.set_cons_succ]
        refine wpAnyH_ready (rs := [10]) (by kernel_rfl) (by simp) ?_
        refine AllReadyH.cons (o := { dst := some 29, op := Op.call { callee := Callee.value (Operand.func 12), args := #[Operand.tmp 27, Operand.tmp 28], argTypes := #[23, 23] }, type := 4, pos := "outright.go:96", after := #[{ on := 8, ground := Ground.data }, { on := 9, ground := Ground.data }, { on := 7, ground := Ground.chain }, { on := 7, ground := Ground.guard }], guard := some (7, false) }) rfl (fun K hK => ?_) (AllReadyH.nil)
        go_simp
        refine (HAB.out _).mono ?_; rintro e w1 ⟨rfl, hb⟩
        replace HX := Lib.hid (HX.out.below (by simp) hb)
        replace HY := Lib.hid (HY.out.below (by simp) hb)
        replace HZ := Lib.hid (HZ.out.below (by simp) hb)
        replace HBD := Lib.hid (bel_call HBD.out hb)
        clear hb
        try go_wp2_with fail
        refine hK.out _ _ ⟨HX.out.five, HY.out.five, HZ.out.five⟩ (fun hHeld => ?_)
        clear hK K
        try simp only [Act.put, List.setIfInBounds_toArray, List.set_cons_zero, List.set_cons_succ]
        refine wpAnyH_take (i := 11) (oi := { dst := some 30, op := Op.move (Operand.tmp 29), type := 4, pos := "outright.go:96", after := #[{ on := 10, ground := Ground.data }, { on := 10, ground := Ground.chain }, { on := 7, ground := Ground.guard }], guard := some (7, false) }) (v := ?_) rfl (by kernel_rfl) (by kernel_rfl) (by kernel_rfl) (fun _ _ _ h => h) (Or.inl ⟨by rfl, ?_⟩) (by assumption) ?_
        rotate_left 1
        · intro w hSw; (try dsimp only at hSw); go_simp; try (with_reducible rfl)
        try simp only [Act.put, List.setIfInBounds_toArray, List.set_cons_zero, List.set_cons_succ]
        refine wpAnyH_take (i := 12) (oi := { dst := some 31, op := Op.load 23 (Operand.tmp 5), type := 23, pos := "outright.go:96", after := #[{ on := 11, ground := Ground.guard }], guard := some (11, true) }) (v := ?_) rfl (by kernel_rfl) (by kernel_rfl) (by kernel_rfl) (fun _ _ _ h => h) (Or.inl ⟨by rfl, ?_⟩) (by assumption) ?_
        rotate_left 1
        · intro w hSw; (try dsimp only at hSw); go_simp; try (with_reducible rfl)
        try simp only [Act.put, List.setIfInBounds_toArray, List.set_cons_zero, List.set_cons_succ]
        refine wpAnyH_take (i := 13) (oi := { dst := some 32, op := Op.load 23 (Operand.tmp 6), type := 23, pos := "outright.go:96", after := #[{ on := 11, ground := Ground.guard }], guard := some (11, true) }) (v := ?_) rfl (by kernel_rfl) (by kernel_rfl) (by kernel_rfl) (fun _ _ _ h => h) (Or.inl ⟨by rfl, ?_⟩) (by assumption) ?_
        rotate_left 1
        · intro w hSw; (try dsimp only at hSw); go_simp; try (with_reducible rfl)
        try simp only [Act.put, List.setIfInBounds_toArray, List.set_cons_zero, List.set_cons_succ]
        refine wpAnyH_ready (rs := [14]) (by kernel_rfl) (by simp) ?_
        refine AllReadyH.cons (o := { dst := some 33, op := Op.call { callee := Callee.value (Operand.func 12), args := #[Operand.tmp 31, Operand.tmp 32], argTypes := #[23, 23] }, type := 4, pos := "outright.go:96", after := #[{ on := 12, ground := Ground.data }, { on := 13, ground := Ground.data }, { on := 11, ground := Ground.chain }, { on := 11, ground := Ground.guard }], guard := some (11, true) }) rfl (fun K hK => ?_) (AllReadyH.nil)
        go_simp
        refine (HBC.out _).mono ?_; rintro e w1 ⟨rfl, hb⟩
        replace HX := Lib.hid (HX.out.below (by simp) hb)
        replace HY := Lib.hid (HY.out.below (by simp) hb)
        replace HZ := Lib.hid (HZ.out.below (by simp) hb)
        replace HBD := Lib.hid (bel_call HBD.out hb)
        clear hb
        try go_wp2_with fail
        refine hK.out _ _ ⟨HX.out.five, HY.out.five, HZ.out.five⟩ (fun hHeld => ?_)
        clear hK K
        try simp only [Act.put, List.setIfInBounds_toArray, List.set_cons_zero, List.set_cons_succ]
        refine wpAnyH_take (i := 15) (oi := { dst := some 34, op := Op.pick (Operand.tmp 30) (Operand.tmp 33) (Operand.const (Value.bool false)), type := 4, pos := "outright.go:96", after := #[{ on := 11, ground := Ground.data }, { on := 14, ground := Ground.data }, { on := 7, ground := Ground.guard }], guard := some (7, false) }) (v := ?_) rfl (by kernel_rfl) (by kernel_rfl) (by kernel_rfl) (fun _ _ _ h => h) (Or.inl ⟨by rfl, ?_⟩) (by assumption) ?_
        rotate_left 1
        · intro w hSw; (try dsimp only at hSw); go_simp; try (with_reducible rfl)
        try simp only [Act.put, List.setIfInBounds_toArray, List.set_cons_zero, List.set_cons_succ]
        refine wpAnyH_take (i := 16) (oi := { dst := some 35, op := Op.move (Operand.tmp 34), type := 4, pos := "outright.go:96", after := #[{ on := 15, ground := Ground.data }, { on := 14, ground := Ground.chain }, { on := 7, ground := Ground.guard }], guard := some (7, false) }) (v := ?_) rfl (by kernel_rfl) (by kernel_rfl) (by kernel_rfl) (fun _ _ _ h => h) (Or.inl ⟨by rfl, ?_⟩) (by assumption) ?_
        rotate_left 1
        · intro w hSw; (try dsimp only at hSw); go_simp; try (with_reducible rfl)
        try simp only [Act.put, List.setIfInBounds_toArray, List.set_cons_zero, List.set_cons_succ]
        refine wpAnyH_take (i := 17) (oi := { dst := some 36, op := Op.load 23 (Operand.tmp 4), type := 23, pos := "outright.go:96", after := #[{ on := 16, ground := Ground.guard }], guard := some (16, true) }) (v := undef) rfl (by kernel_rfl) (by kernel_rfl) (by kernel_rfl) (fun _ _ _ h => h) (Or.inr ⟨by rfl, rfl⟩) (by assumption) ?_
        try simp only [Act.put, List.setIfInBounds_toArray, List.set_cons_zero, List.set_cons_succ]
        refine wpAnyH_take (i := 18) (oi := { dst := some 37, op := Op.load 23 (Operand.tmp 6), type := 23, pos := "outright.go:96", after := #[{ on := 16, ground := Ground.guard }], guard := some (16, true) }) (v := undef) rfl (by kernel_rfl) (by kernel_rfl) (by kernel_rfl) (fun _ _ _ h => h) (Or.inr ⟨by rfl, rfl⟩) (by assumption) ?_
        try simp only [Act.put, List.setIfInBounds_toArray, List.set_cons_zero, List.set_cons_succ]
        refine wpAnyH_take (i := 19) (oi := { dst := some 38, op := Op.call { callee := Callee.value (Operand.func 12), args := #[Operand.tmp 36, Operand.tmp 37], argTypes := #[23, 23] }, type := 4, pos := "outright.go:96", after := #[{ on := 17, ground := Ground.data }, { on := 18, ground := Ground.data }, { on := 16, ground := Ground.chain }, { on := 16, ground := Ground.guard }], guard := some (16, true) }) (v := undef) rfl (by kernel_rfl) (by kernel_rfl) (by kernel_rfl) (fun _ _ _ h => h) (Or.inr ⟨by rfl, rfl⟩) (by assumption) ?_
        try simp only [Act.put, List.setIfInBounds_toArray, List.set_cons_zero, List.set_cons_succ]
        refine wpAnyH_take (i := 20) (oi := { dst := some 39, op := Op.unOp UnOp.not 4 (Operand.tmp 38), type := 4, pos := "outright.go:96", after := #[{ on := 19, ground := Ground.data }, { on := 16, ground := Ground.guard }], guard := some (16, true) }) (v := undef) rfl (by kernel_rfl) (by kernel_rfl) (by kernel_rfl) (fun _ _ _ h => h) (Or.inr ⟨by rfl, rfl⟩) (by assumption) ?_
        try simp only [Act.put, List.setIfInBounds_toArray, List.set_cons_zero, List.set_cons_succ]
        refine wpAnyH_take (i := 21) (oi := { dst := some 40, op := Op.pick (Operand.tmp 35) (Operand.tmp 39) (Operand.const (Value.bool false)), type := 4, pos := "outright.go:96", after := #[{ on := 16, ground := Ground.data }, { on := 20, ground := Ground.data }, { on := 7, ground := Ground.guard }], guard := some (7, false) }) (v := ?_) rfl (by kernel_rfl) (by kernel_rfl) (by kernel_rfl) (fun _ _ _ h => h) (Or.inl ⟨by rfl, ?_⟩) (by assumption) ?_
        rotate_left 1
        · intro w hSw; (try dsimp only at hSw); go_simp; try (with_reducible rfl)
        try simp only [Act.put, List.setIfInBounds_toArray, List.set_cons_zero, List.set_cons_succ]
        refine wpAnyH_take (i := 22) (oi := { dst := some 41, op := Op.pick (Operand.tmp 26) (Operand.const (Value.bool true)) (Operand.tmp 40), type := 4, pos := "outright.go:96", after := #[{ on := 7, ground := Ground.data }, { on := 21, ground := Ground.data }], guard := none }) (v := ?_) rfl (by kernel_rfl) (by kernel_rfl) (by kernel_rfl) (fun _ _ _ h => h) (Or.inl ⟨by rfl, ?_⟩) (by assumption) ?_
        rotate_left 1
        · intro w hSw; (try dsimp only at hSw); go_simp; try (with_reducible rfl)
        try simp only [Act.put, List.setIfInBounds_toArray, List.set_cons_zero, List.set_cons_succ]
        refine wpAnyH_done (by kernel_rfl) ?_ _
        clear hHeld
        obtain ⟨a0, a1, a2, a3, a4⟩ := HX.out.five
        go_wp2_with fail
        refine (HCk.out _).mono ?_; rintro e w3 ⟨rfl, hb⟩
        replace HX := Lib.hid (HX.out.below (by simp) hb)
        replace HY := Lib.hid (HY.out.below (by simp) hb)
        replace HZ := Lib.hid (HZ.out.below (by simp) hb)
        replace HBD := Lib.hid (bel_call HBD.out hb)
        clear hb
        clear a0 a1 a2 a3 a4
        obtain ⟨a0, a1, a2, a3, a4⟩ := HX.out.five
        obtain ⟨b0, b1, b2, b3, b4⟩ := HY.out.five
        have hgl : g + 2 < w3.heap.size := World.block_lt_of_cell? w3 _ (HZ.out.c 0 (by simp))
        clear b0 b1 b2 b3 b4 a0 a1 a2 a3 a4
        have hb := (Below.refl w3.heap.size w3).drew
        replace HX := Lib.hid (HX.out.below (by simp) hb)
        replace HY := Lib.hid (HY.out.below (by simp) hb)
        replace HZ := Lib.hid (HZ.out.below (by simp) hb)
        replace HBD := Lib.hid (bel_call HBD.out hb)
        clear hb
        go_wp2_with fail
        refine wp_region_held_drew (S := (fun wx => (wx.cell? ⟨g, 0, none⟩ = some (.string (bs n)) ∧ wx.cell? ⟨g, 1, none⟩ = some (.int .i64 t) ∧ wx.cell? ⟨g, 2, none⟩ = some (.int .i64 c) ∧ wx.cell? ⟨g, 3, none⟩ = some (.int .i64 l) ∧ wx.cell? ⟨g, 4, none⟩ = some (.string (bs d))))) (by kernel_rfl) HX.out.five (fun hHeld => ?_)
        refine wpAnyH_take (i := 0) (oi := { dst := some 52, op := Op.load 23 (Operand.tmp 4), type := 23, pos := "outright.go:102", after := #[], guard := none }) (v := ?_) rfl (by kernel_rfl) (by kernel_rfl) (by kernel_rfl) (fun _ _ _ h => h) (Or.inl ⟨by rfl, ?_⟩) (by assumption) ?_
        rotate_left 1
        · intro w hSw; (try dsimp only at hSw); go_simp; try (with_reducible rfl)
        try simp only [Act.put, List.setIfInBounds_toArray, List.set_cons_zero, List.set_cons_succ]
        refine wpAnyH_take (i := 1) (oi := { dst := some 53, op := Op.load 23 (Operand.tmp 4), type := 23, pos := "outright.go:102", after := #[{ on := 4, ground := Ground.gcOnly Departure.lateStores }], guard := none }) (v := ?_) rfl (by kernel_rfl) (by kernel_rfl) (by kernel_rfl) (fun _ _ _ h => h) (Or.inl ⟨by rfl, ?_⟩) (by assumption) ?_
        rotate_left 1
        · intro w hSw; (try dsimp only at hSw); go_simp; try (with_reducible rfl)
        try simp only [Act.put, List.setIfInBounds_toArray, List.set_cons_zero, List.set_cons_succ]
        refine wpAnyH_ready (rs := [2, 3]) (by kernel_rfl) (by simp) ?_
        refine AllReadyH.cons (o := { dst := some 10, op := Op.alloc 23, type := 0, pos := "outright.go:102", after := #[], guard := none }) rfl (fun K hK => ?_) (AllReadyH.cons (o := { dst := some 11, op := Op.alloc 23, type := 0, pos := "outright.go:102", after := #[], guard := none }) rfl (fun K hK => ?_) (AllReadyH.nil))
        · go_simp
          have hb : Below w3.drew.heap.size w3.drew (w3.drew.alloc (.cells #[.string ⟨#[]⟩, .int .i64 0, .int .i64 0, .int .i64 0, .string ⟨#[]⟩] 23)) := (Below.refl _ _).alloc (Nat.le_refl _) _
          have HD : Hid (Cel (w3.drew.alloc (.cells #[.string ⟨#[]⟩, .int .i64 0, .int .i64 0, .int .i64 0, .string ⟨#[]⟩] 23)) w3.heap.size [.string ⟨#[]⟩, .int .i64 0, .int .i64 0, .int .i64 0, .string ⟨#[]⟩]) := cel_new w3.drew _ _ _ _ _ _
          replace HX := Lib.hid (HX.out.below (by simp) hb)
          replace HY := Lib.hid (HY.out.below (by simp) hb)
          replace HZ := Lib.hid (HZ.out.below (by simp) hb)
          replace HBD := Lib.hid (bel_call HBD.out hb)
          clear hb
          refine hK.out _ _ HX.out.five (fun hHeld => ?_)
          clear hK K
          try simp only [Act.put, List.setIfInBounds_toArray, List.set_cons_zero, List.set_cons_succ]
          refine wpAnyH_ready (rs := [3]) (by kernel_rfl) (by simp) ?_
          refine AllReadyH.cons (o := { dst := some 11, op := Op.alloc 23, type := 0, pos := "outright.go:102", after := #[], guard := none }) rfl (fun K hK => ?_) (AllReadyH.nil)
          go_simp
          have hb : Below (w3.drew.alloc (.cells #[.string ⟨#[]⟩, .int .i64 0, .int .i64 0, .int .i64 0, .string ⟨#[]⟩] 23)).heap.size (w3.drew.alloc (.cells #[.string ⟨#[]⟩, .int .i64 0, .int .i64 0, .int .i64 0, .string ⟨#[]⟩] 23)) ((w3.drew.alloc (.cells #[.string ⟨#[]⟩, .int .i64 0, .int .i64 0, .int .i64 0, .string ⟨#[]⟩] 23)).alloc (.cells #[.string ⟨#[]⟩, .int .i64 0, .int .i64 0, .int .i64 0, .string ⟨#[]⟩] 23)) := (Below.refl _ _).alloc (Nat.le_refl _) _
          have HE : Hid (Cel ((w3.drew.alloc (.cells #[.string ⟨#[]⟩, .int .i64 0, .int .i64 0, .int .i64 0, .string ⟨#[]⟩] 23)).alloc (.cells #[.string ⟨#[]⟩, .int .i64 0, .int .i64 0, .int .i64 0, .string ⟨#[]⟩] 23)) (w3.heap.size + 1) [.string ⟨#[]⟩, .int .i64 0, .int .i64 0, .int .i64 0, .string ⟨#[]⟩]) := by have h := cel_new (w3.drew.alloc (.cells #[.string ⟨#[]⟩, .int .i64 0, .int .i64 0, .int .i64 0, .string ⟨#[]⟩] 23)) (.string ⟨#[]⟩) (.int .i64 0) (.int .i64 0) (.int .i64 0) (.string ⟨#[]⟩) 23; rw [World.size_alloc] at h; exact h
          replace HD := Lib.hid (HD.out.below (by simp) hb)
          replace HX := Lib.hid (HX.out.below (by simp) hb)
          replace HY := Lib.hid (HY.out.below (by simp) hb)
          replace HZ := Lib.hid (HZ.out.below (by simp) hb)
          replace HBD := Lib.hid (bel_call HBD.out hb)
          clear hb
          obtain ⟨V, hV⟩ : ∃ V, ((w3.alloc (.cells #[.string ⟨#[]⟩, .int .i64 0, .int .i64 0, .int .i64 0, .string ⟨#[]⟩] 23)).alloc (.cells #[.string ⟨#[]⟩, .int .i64 0, .int .i64 0, .int .i64 0, .string ⟨#[]⟩] 23)).drew = V := ⟨_, rfl⟩
          have hV2 : (w3.drew.alloc (.cells #[.string ⟨#[]⟩, .int .i64 0, .int .i64 0, .int .i64 0, .string ⟨#[]⟩] 23)).alloc (.cells #[.string ⟨#[]⟩, .int .i64 0, .int .i64 0, .int .i64 0, .string ⟨#[]⟩] 23) = V := by rw [← hV]; rfl
          rw [hV2] at HX HY HZ HBD HD HE
          first | rw [hV] | rw [hV2]
          clear hV hV2
          obtain ⟨e0, e1, e2, e3, e4⟩ := HD.out.five
          have ef0 := HD.out.fz 0
          have ef1 := HD.out.fz 1
          have ef2 := HD.out.fz 2
          have ef3 := HD.out.fz 3
          have ef4 := HD.out.fz 4
          refine hK.out _ _ HX.out.five (fun hHeld => ?_)
          clear hK K
          try simp only [Act.put, List.setIfInBounds_toArray, List.set_cons_zero, List.set_cons_succ]
          refine wpAnyH_ready (rs := [4]) (by kernel_rfl) (by simp) ?_
          refine AllReadyH.cons (o := { dst := none, op := Op.store 23 (Operand.tmp 10) (Operand.tmp 52), type := 0, pos := "outright.go:102", after := #[{ on := 2, ground := Ground.data }, { on := 0, ground := Ground.data }, { on := 0, ground := Ground.phase }, { on := 1, ground := Ground.textOnly Departure.lateStores }, { on := 2, ground := Ground.phase }, { on := 3, ground := Ground.phase }], guard := none }) rfl (fun K hK => ?_) (AllReadyH.nil)
          go_simp
          clear e0 e1 e2 e3 e4 ef0 ef1 ef2 ef3 ef4
          obtain ⟨V2, hV2⟩ : ∃ V2, (((((V.setCell ⟨w3.heap.size, 0, none⟩ (Value.string (bs n))).setCell ⟨w3.heap.size, 1, none⟩ (Value.int .i64 t)).setCell ⟨w3.heap.size, 2, none⟩ (Value.int .i64 c)).setCell ⟨w3.heap.size, 3, none⟩ (Value.int .i64 l)).setCell ⟨w3.heap.size, 4, none⟩ (Value.string (bs d))) = V2 := ⟨_, rfl⟩
          have hA : Aside (fun b => b = w3.heap.size) V V2 := by rw [← hV2]; exact (((((Aside.setCell (G := fun b => b = w3.heap.size) V (p := ⟨w3.heap.size, 0, none⟩) (Value.string (bs n)) rfl).trans (Aside.setCell (G := fun b => b = w3.heap.size) (V.setCell ⟨w3.heap.size, 0, none⟩ (Value.string (bs n))) (p := ⟨w3.heap.size, 1, none⟩) (Value.int .i64 t) rfl)).trans (Aside.setCell (G := fun b => b = w3.heap.size) ((V.setCell ⟨w3.heap.size, 0, none⟩ (Value.string (bs n))).setCell ⟨w3.heap.size, 1, none⟩ (Value.int .i64 t)) (p := ⟨w3.heap.size, 2, none⟩) (Value.int .i64 c) rfl)).trans (Aside.setCell (G := fun b => b = w3.heap.size) (((V.setCell ⟨w3.heap.size, 0, none⟩ (Value.string (bs n))).setCell ⟨w3.heap.size, 1, none⟩ (Value.int .i64 t)).setCell ⟨w3.heap.size, 2, none⟩ (Value.int .i64 c)) (p := ⟨w3.heap.size, 3, none⟩) (Value.int .i64 l) rfl)).trans (Aside.setCell (G := fun b => b = w3.heap.size) ((((V.setCell ⟨w3.heap.size, 0, none⟩ (Value.string (bs n))).setCell ⟨w3.heap.size, 1, none⟩ (Value.int .i64 t)).setCell ⟨w3.heap.size, 2, none⟩ (Value.int .i64 c)).setCell ⟨w3.heap.size, 3, none⟩ (Value.int .i64 l)) (p := ⟨w3.heap.size, 4, none⟩) (Value.string (bs d)) rfl))
          have hn : Cel V2 w3.heap.size [Value.string (bs n), Value.int .i64 t, Value.int .i64 c, Value.int .i64 l, Value.string (bs d)] := by rw [← hV2]; exact (((((HD.out.set (o := 0) (by simp) (Value.string (bs n))).set (o := 1) (by simp) (Value.int .i64 t)).set (o := 2) (by simp) (Value.int .i64 c)).set (o := 3) (by simp) (Value.int .i64 l)).set (o := 4) (by simp) (Value.string (bs d)))
          rw [hV2]
          replace HX := Lib.hid (HX.out.aside (by simp) hA (by omega))
          replace HY := Lib.hid (HY.out.aside (by simp) hA (by omega))
          replace HZ := Lib.hid (HZ.out.aside (by simp) hA (by omega))
          replace HE := Lib.hid (HE.out.aside (by simp) hA (by omega))
          replace HBD := Lib.hid (below_aside HBD.out hA fun b hb => ⟨Nat.lt_of_lt_of_le hb HBD.out.size, by omega⟩)
          replace HD := Lib.hid hn
          clear hA hn hV2
          obtain ⟨e0, e1, e2, e3, e4⟩ := HE.out.five
          have ef0 := HE.out.fz 0
          have ef1 := HE.out.fz 1
          have ef2 := HE.out.fz 2
          have ef3 := HE.out.fz 3
          have ef4 := HE.out.fz 4
          refine hK.out _ _ HX.out.five (fun hHeld => ?_)
          clear hK K
          try simp only [Act.put, List.setIfInBounds_toArray, List.set_cons_zero, List.set_cons_succ]
          refine wpAnyH_ready (rs := [5]) (by kernel_rfl) (by simp) ?_
          refine AllReadyH.cons (o := { dst := none, op := Op.store 23 (Operand.tmp 11) (Operand.tmp 53), type := 0, pos := "outright.go:102", after := #[{ on := 3, ground := Ground.data }, { on := 1, ground := Ground.data }, { on := 4, ground := Ground.chain }, { on := 0, ground := Ground.phase }, { on := 1, ground := Ground.phase }, { on := 2, ground := Ground.phase }, { on := 3, ground := Ground.phase }, { on := 4, ground := Ground.phase }], guard := none }) rfl (fun K hK => ?_) (AllReadyH.nil)
          go_simp
          clear e0 e1 e2 e3 e4 ef0 ef1 ef2 ef3 ef4
          obtain ⟨V3, hV3⟩ : ∃ V3, (((((V2.setCell ⟨(w3.heap.size + 1), 0, none⟩ (Value.string (bs n))).setCell ⟨(w3.heap.size + 1), 1, none⟩ (Value.int .i64 t)).setCell ⟨(w3.heap.size + 1), 2, none⟩ (Value.int .i64 c)).setCell ⟨(w3.heap.size + 1), 3, none⟩ (Value.int .i64 l)).setCell ⟨(w3.heap.size + 1), 4, none⟩ (Value.string (bs d))) = V3 := ⟨_, rfl⟩
          have hA : Aside (fun b => b = (w3.heap.size + 1)) V2 V3 := by rw [← hV3]; exact (((((Aside.setCell (G := fun b => b = (w3.heap.size + 1)) V2 (p := ⟨(w3.heap.size + 1), 0, none⟩) (Value.string (bs n)) rfl).trans (Aside.setCell (G := fun b => b = (w3.heap.size + 1)) (V2.setCell ⟨(w3.heap.size + 1), 0, none⟩ (Value.string (bs n))) (p := ⟨(w3.heap.size + 1), 1, none⟩) (Value.int .i64 t) rfl)).trans (Aside.setCell (G := fun b => b = (w3.heap.size + 1)) ((V2.setCell ⟨(w3.heap.size + 1), 0, none⟩ (Value.string (bs n))).setCell ⟨(w3.heap.size + 1), 1, none⟩ (Value.int .i64 t)) (p := ⟨(w3.heap.size + 1), 2, none⟩) (Value.int .i64 c) rfl)).trans (Aside.setCell (G := fun b => b = (w3.heap.size + 1)) (((V2.setCell ⟨(w3.heap.size + 1), 0, none⟩ (Value.string (bs n))).setCell ⟨(w3.heap.size + 1), 1, none⟩ (Value.int .i64 t)).setCell ⟨(w3.heap.size + 1), 2, none⟩ (Value.int .i64 c)) (p := ⟨(w3.heap.size + 1), 3, none⟩) (Value.int .i64 l) rfl)).trans (Aside.setCell (G := fun b => b = (w3.heap.size + 1)) ((((V2.setCell ⟨(w3.heap.size + 1), 0, none⟩ (Value.string (bs n))).setCell ⟨(w3.heap.size + 1), 1, none⟩ (Value.int .i64 t)).setCell ⟨(w3.heap.size + 1), 2, none⟩ (Value.int .i64 c)).setCell ⟨(w3.heap.size + 1), 3, none⟩ (Value.int .i64 l)) (p := ⟨(w3.heap.size + 1), 4, none⟩) (Value.string (bs d)) rfl))
          have hn : Cel V3 (w3.heap.size + 1) [Value.string (bs n), Value.int .i64 t, Value.int .i64 c, Value.int .i64 l, Value.string (bs d)] := by rw [← hV3]; exact (((((HE.out.set (o := 0) (by simp) (Value.string (bs n))).set (o := 1) (by simp) (Value.int .i64 t)).set (o := 2) (by simp) (Value.int .i64 c)).set (o := 3) (by simp) (Value.int .i64 l)).set (o := 4) (by simp) (Value.string (bs d)))
          rw [hV3]
          replace HX := Lib.hid (HX.out.aside (by simp) hA (by omega))
          replace HY := Lib.hid (HY.out.aside (by simp) hA (by omega))
          replace HZ := Lib.hid (HZ.out.aside (by simp) hA (by omega))
          replace HD := Lib.hid (HD.out.aside (by simp) hA (by omega))
          replace HBD := Lib.hid (below_aside HBD.out hA fun b hb => ⟨Nat.lt_of_lt_of_le hb HBD.out.size, by omega⟩)
          replace HE := Lib.hid hn
          clear hA hn hV3
          refine hK.out _ _ HX.out.five (fun hHeld => ?_)
          clear hK K
          try simp only [Act.put, List.setIfInBounds_toArray, List.set_cons_zero, List.set_cons_succ]
          refine wpAnyH_done (by kernel_rfl) ?_ _
          clear hHeld
          go_wp2_with fail
          refine (HPi.out _).mono ?_; rintro e w9 ⟨k, hk, rfl, rfl⟩
          have v3 := HD.out.c 3 (by simp)
          have vf3 := HD.out.fz 3
          have u2 := HE.out.c 2 (by simp)
          have uf2 := HE.out.fz 2
          obtain ⟨a0, a1, a2, a3, a4⟩ := HX.out.five
          go_wp2_with fail
          clear v3 vf3 u2 uf2 a0 a1 a2 a3 a4
          obtain ⟨V4, hV4⟩ : ∃ V4, (V3.setCell ⟨w3.heap.size, 3, none⟩ (Value.int .i64 (k : Int))) = V4 := ⟨_, rfl⟩
          have hA : Aside (fun b => b = w3.heap.size) V3 V4 := by rw [← hV4]; exact (Aside.setCell (G := fun b => b = w3.heap.size) V3 (p := ⟨w3.heap.size, 3, none⟩) (Value.int .i64 (k : Int)) rfl)
          have hn : Cel V4 w3.heap.size [Value.string (bs n), Value.int .i64 t, Value.int .i64 c, Value.int .i64 (k : Int), Value.string (bs d)] := by rw [← hV4]; exact (HD.out.set (o := 3) (by simp) (Value.int .i64 (k : Int)))
          replace HX := Lib.hid (HX.out.aside (by simp) hA (by omega))
          replace HY := Lib.hid (HY.out.aside (by simp) hA (by omega))
          replace HZ := Lib.hid (HZ.out.aside (by simp) hA (by omega))
          replace HE := Lib.hid (HE.out.aside (by simp) hA (by omega))
          replace HBD := Lib.hid (below_aside HBD.out hA fun b hb => ⟨Nat.lt_of_lt_of_le hb HBD.out.size, by omega⟩)
          replace HD := Lib.hid hn
          clear hA hn
          obtain ⟨V5, hV5⟩ : ∃ V5, (V4.setCell ⟨(w3.heap.size + 1), 2, none⟩ (Value.int .i64 ce)) = V5 := ⟨_, rfl⟩
          have hA : Aside (fun b => b = (w3.heap.size + 1)) V4 V5 := by rw [← hV5]; exact (Aside.setCell (G := fun b => b = (w3.heap.size + 1)) V4 (p := ⟨(w3.heap.size + 1), 2, none⟩) (Value.int .i64 ce) rfl)
          have hn : Cel V5 (w3.heap.size + 1) [Value.string (bs n), Value.int .i64 t, Value.int .i64 ce, Value.int .i64 l, Value.string (bs d)] := by rw [← hV5]; exact (HE.out.set (o := 2) (by simp) (Value.int .i64 ce))
          rw [hV4, hV5]
          replace HX := Lib.hid (HX.out.aside (by simp) hA (by omega))
          replace HY := Lib.hid (HY.out.aside (by simp) hA (by omega))
          replace HZ := Lib.hid (HZ.out.aside (by simp) hA (by omega))
          replace HD := Lib.hid (HD.out.aside (by simp) hA (by omega))
          replace HBD := Lib.hid (below_aside HBD.out hA fun b hb => ⟨Nat.lt_of_lt_of_le hb HBD.out.size, by omega⟩)
          replace HE := Lib.hid hn
          clear hA hn hV4 hV5
          refine (HAA.out _).mono ?_; rintro e w10 ⟨rfl, hb⟩
          replace HX := Lib.hid (HX.out.below (by simp) hb)
          replace HY := Lib.hid (HY.out.below (by simp) hb)
          replace HZ := Lib.hid (HZ.out.below (by simp) hb)
          replace HBD := Lib.hid (bel_call HBD.out hb)
          replace HD := Lib.hid (HD.out.below (by simp) hb)
          replace HE := Lib.hid (HE.out.below (by simp) hb)
          clear hb
          obtain ⟨a0, a1, a2, a3, a4⟩ := HX.out.five
          obtain ⟨b0, b1, b2, b3, b4⟩ := HD.out.five
          go_wp2_with fail
          clear a0 a1 a2 a3 a4 b0 b1 b2 b3 b4
          refine (HADk.out k hk _).mono ?_; rintro e w11 ⟨rfl, hb⟩
          replace HX := Lib.hid (HX.out.below (by simp) hb)
          replace HY := Lib.hid (HY.out.below (by simp) hb)
          replace HZ := Lib.hid (HZ.out.below (by simp) hb)
          replace HBD := Lib.hid (bel_call HBD.out hb)
          replace HD := Lib.hid (HD.out.below (by simp) hb)
          replace HE := Lib.hid (HE.out.below (by simp) hb)
          clear hb
          obtain ⟨a0, a1, a2, a3, a4⟩ := HX.out.five
          obtain ⟨b0, b1, b2, b3, b4⟩ := HE.out.five
          go_wp2_with fail
          clear a0 a1 a2 a3 a4 b0 b1 b2 b3 b4
          refine (HAEk.out _).mono ?_; rintro e w12 ⟨rfl, hb⟩
          replace HX := Lib.hid (HX.out.below (by simp) hb)
          replace HY := Lib.hid (HY.out.below (by simp) hb)
          replace HZ := Lib.hid (HZ.out.below (by simp) hb)
          replace HBD := Lib.hid (bel_call HBD.out hb)
          replace HD := Lib.hid (HD.out.below (by simp) hb)
          replace HE := Lib.hid (HE.out.below (by simp) hb)
          clear hb
          obtain ⟨a0, a1, a2, a3, a4⟩ := HX.out.five
          obtain ⟨b0, b1, b2, b3, b4⟩ := HY.out.five
          go_wp2_with fail
          clear a0 a1 a2 a3 a4 b0 b1 b2 b3 b4
          refine (HAB.out _).mono ?_; rintro e w13 ⟨rfl, hb⟩
          replace HX := Lib.hid (HX.out.below (by simp) hb)
          replace HY := Lib.hid (HY.out.below (by simp) hb)
          replace HZ := Lib.hid (HZ.out.below (by simp) hb)
          replace HBD := Lib.hid (bel_call HBD.out hb)
          replace HD := Lib.hid (HD.out.below (by simp) hb)
          replace HE := Lib.hid (HE.out.below (by simp) hb)
          clear hb
          obtain ⟨a0, a1, a2, a3, a4⟩ := HX.out.five
          obtain ⟨b0, b1, b2, b3, b4⟩ := HY.out.five
          go_wp2_with fail
          go_ret
          exact ⟨rfl, HBD.out⟩
        · go_simp
          have hb : Below w3.drew.heap.size w3.drew (w3.drew.alloc (.cells #[.string ⟨#[]⟩, .int .i64 0, .int .i64 0, .int .i64 0, .string ⟨#[]⟩] 23)) := (Below.refl _ _).alloc (Nat.le_refl _) _
          have HE : Hid (Cel (w3.drew.alloc (.cells #[.string ⟨#[]⟩, .int .i64 0, .int .i64 0, .int .i64 0, .string ⟨#[]⟩] 23)) w3.heap.size [.string ⟨#[]⟩, .int .i64 0, .int .i64 0, .int .i64 0, .string ⟨#[]⟩]) := cel_new w3.drew _ _ _ _ _ _
          replace HX := Lib.hid (HX.out.below (by simp) hb)
          replace HY := Lib.hid (HY.out.below (by simp) hb)
          replace HZ := Lib.hid (HZ.out.below (by simp) hb)
          replace HBD := Lib.hid (bel_call HBD.out hb)
          clear hb
          refine hK.out _ _ HX.out.five (fun hHeld => ?_)
          clear hK K
          try simp only [Act.put, List.setIfInBounds_toArray, List.set_cons_zero, List.set_cons_succ]
          refine wpAnyH_ready (rs := [2]) (by kernel_rfl) (by simp) ?_
          refine AllReadyH.cons (o := { dst := some 10, op := Op.alloc 23, type := 0, pos := "outright.go:102", after := #[], guard := none }) rfl (fun K hK => ?_) (AllReadyH.nil)
          go_simp
          have hb : Below (w3.drew.alloc (.cells #[.string ⟨#[]⟩, .int .i64 0, .int .i64 0, .int .i64 0, .string ⟨#[]⟩] 23)).heap.size (w3.drew.alloc (.cells #[.string ⟨#[]⟩, .int .i64 0, .int .i64 0, .int .i64 0, .string ⟨#[]⟩] 23)) ((w3.drew.alloc (.cells #[.string ⟨#[]⟩, .int .i64 0, .int .i64 0, .int .i64 0, .string ⟨#[]⟩] 23)).alloc (.cells #[.string ⟨#[]⟩, .int .i64 0, .int .i64 0, .int .i64 0, .string ⟨#[]⟩] 23)) := (Below.refl _ _).alloc (Nat.le_refl _) _
          have HD : Hid (Cel ((w3.drew.alloc (.cells #[.string ⟨#[]⟩, .int .i64 0, .int .i64 0, .int .i64 0, .string ⟨#[]⟩] 23)).alloc (.cells #[.string ⟨#[]⟩, .int .i64 0, .int .i64 0, .int .i64 0, .string ⟨#[]⟩] 23)) (w3.heap.size + 1) [.string ⟨#[]⟩, .int .i64 0, .int .i64 0, .int .i64 0, .string ⟨#[]⟩]) := by have h := cel_new (w3.drew.alloc (.cells #[.string ⟨#[]⟩, .int .i64 0, .int .i64 0, .int .i64 0, .string ⟨#[]⟩] 23)) (.string ⟨#[]⟩) (.int .i64 0) (.int .i64 0) (.int .i64 0) (.string ⟨#[]⟩) 23; rw [World.size_alloc] at h; exact h
          replace HE := Lib.hid (HE.out.below (by simp) hb)
          replace HX := Lib.hid (HX.out.below (by simp) hb)
          replace HY := Lib.hid (HY.out.below (by simp) hb)
          replace HZ := Lib.hid (HZ.out.below (by simp) hb)
          replace HBD := Lib.hid (bel_call HBD.out hb)
          clear hb
          obtain ⟨V, hV⟩ : ∃ V, ((w3.alloc (.cells #[.string ⟨#[]⟩, .int .i64 0, .int .i64 0, .int .i64 0, .string ⟨#[]⟩] 23)).alloc (.cells #[.string ⟨#[]⟩, .int .i64 0, .int .i64 0, .int .i64 0, .string ⟨#[]⟩] 23)).drew = V := ⟨_, rfl⟩
          have hV2 : (w3.drew.alloc (.cells #[.string ⟨#[]⟩, .int .i64 0, .int .i64 0, .int .i64 0, .string ⟨#[]⟩] 23)).alloc (.cells #[.string ⟨#[]⟩, .int .i64 0, .int .i64 0, .int .i64 0, .string ⟨#[]⟩] 23) = V := by rw [← hV]; rfl
          rw [hV2] at HX HY HZ HBD HD HE
          first | rw [hV] | rw [hV2]
          clear hV hV2
          obtain ⟨e0, e1, e2, e3, e4⟩ := HD.out.five
          have ef0 := HD.out.fz 0
          have ef1 := HD.out.fz 1
          have ef2 := HD.out.fz 2
          have ef3 := HD.out.fz 3
          have ef4 := HD.out.fz 4
          refine hK.out _ _ HX.out.five (fun hHeld => ?_)
          clear hK K
          try simp only [Act.put, List.setIfInBounds_toArray, List.set_cons_zero, List.set_cons_succ]
          refine wpAnyH_ready (rs := [4]) (by kernel_rfl) (by simp) ?_
          refine AllReadyH.cons (o := { dst := none, op := Op.store 23 (Operand.tmp 10) (Operand.tmp 52), type := 0, pos := "outright.go:102", after := #[{ on := 2, ground := Ground.data }, { on := 0, ground := Ground.data }, { on := 0, ground := Ground.phase }, { on := 1, ground := Ground.textOnly Departure.lateStores }, { on := 2, ground := Ground.phase }, { on := 3, ground := Ground.phase }], guard := none }) rfl (fun K hK => ?_) (AllReadyH.nil)
          go_simp
          clear e0 e1 e2 e3 e4 ef0 ef1 ef2 ef3 ef4
          obtain ⟨V2, hV2⟩ : ∃ V2, (((((V.setCell ⟨(w3.heap.size + 1), 0, none⟩ (Value.string (bs n))).setCell ⟨(w3.heap.size + 1), 1, none⟩ (Value.int .i64 t)).setCell ⟨(w3.heap.size + 1), 2, none⟩ (Value.int .i64 c)).setCell ⟨(w3.heap.size + 1), 3, none⟩ (Value.int .i64 l)).setCell ⟨(w3.heap.size + 1), 4, none⟩ (Value.string (bs d))) = V2 := ⟨_, rfl⟩
          have hA : Aside (fun b => b = (w3.heap.size + 1)) V V2 := by rw [← hV2]; exact (((((Aside.setCell (G := fun b => b = (w3.heap.size + 1)) V (p := ⟨(w3.heap.size + 1), 0, none⟩) (Value.string (bs n)) rfl).trans (Aside.setCell (G := fun b => b = (w3.heap.size + 1)) (V.setCell ⟨(w3.heap.size + 1), 0, none⟩ (Value.string (bs n))) (p := ⟨(w3.heap.size + 1), 1, none⟩) (Value.int .i64 t) rfl)).trans (Aside.setCell (G := fun b => b = (w3.heap.size + 1)) ((V.setCell ⟨(w3.heap.size + 1), 0, none⟩ (Value.string (bs n))).setCell ⟨(w3.heap.size + 1), 1, none⟩ (Value.int .i64 t)) (p := ⟨(w3.heap.size + 1), 2, none⟩) (Value.int .i64 c) rfl)).trans (Aside.setCell (G := fun b => b = (w3.heap.size + 1)) (((V.setCell ⟨(w3.heap.size + 1), 0, none⟩ (Value.string (bs n))).setCell ⟨(w3.heap.size + 1), 1, none⟩ (Value.int .i64 t)).setCell ⟨(w3.heap.size + 1), 2, none⟩ (Value.int .i64 c)) (p := ⟨(w3.heap.size + 1), 3, none⟩) (Value.int .i64 l) rfl)).trans (Aside.setCell (G := fun b => b = (w3.heap.size + 1)) ((((V.setCell ⟨(w3.heap.size + 1), 0, none⟩ (Value.string (bs n))).setCell ⟨(w3.heap.size + 1), 1, none⟩ (Value.int .i64 t)).setCell ⟨(w3.heap.size + 1), 2, none⟩ (Value.int .i64 c)).setCell ⟨(w3.heap.size + 1), 3, none⟩ (Value.int .i64 l)) (p := ⟨(w3.heap.size + 1), 4, none⟩) (Value.string (bs d)) rfl))
          have hn : Cel V2 (w3.heap.size + 1) [Value.string (bs n), Value.int .i64 t, Value.int .i64 c, Value.int .i64 l, Value.string (bs d)] := by rw [← hV2]; exact (((((HD.out.set (o := 0) (by simp) (Value.string (bs n))).set (o := 1) (by simp) (Value.int .i64 t)).set (o := 2) (by simp) (Value.int .i64 c)).set (o := 3) (by simp) (Value.int .i64 l)).set (o := 4) (by simp) (Value.string (bs d)))
          rw [hV2]
          replace HX := Lib.hid (HX.out.aside (by simp) hA (by omega))
          replace HY := Lib.hid (HY.out.aside (by simp) hA (by omega))
          replace HZ := Lib.hid (HZ.out.aside (by simp) hA (by omega))
          replace HE := Lib.hid (HE.out.aside (by simp) hA (by omega))
          replace HBD := Lib.hid (below_aside HBD.out hA fun b hb => ⟨Nat.lt_of_lt_of_le hb HBD.out.size, by omega⟩)
          replace HD := Lib.hid hn
          clear hA hn hV2
          obtain ⟨e0, e1, e2, e3, e4⟩ := HE.out.five
          have ef0 := HE.out.fz 0
          have ef1 := HE.out.fz 1
          have ef2 := HE.out.fz 2
          have ef3 := HE.out.fz 3
          have ef4 := HE.out.fz 4
          refine hK.out _ _ HX.out.five (fun hHeld => ?_)
          clear hK K
          try simp only [Act.put, List.setIfInBounds_toArray, List.set_cons_zero, List.set_cons_succ]
          refine wpAnyH_ready (rs := [5]) (by kernel_rfl) (by simp) ?_
          refine AllReadyH.cons (o := { dst := none, op := Op.store 23 (Operand.tmp 11) (Operand.tmp 53), type := 0, pos := "outright.go:102", after := #[{ on := 3, ground := Ground.data }, { on := 1, ground := Ground.data }, { on := 4, ground := Ground.chain }, { on := 0, ground := Ground.phase }, { on := 1, ground := Ground.phase }, { on := 2, ground := Ground.phase }, { on := 3, ground := Ground.phase }, { on := 4, ground := Ground.phase }], guard := none }) rfl (fun K hK => ?_) (AllReadyH.nil)
          go_simp
          clear e0 e1 e2 e3 e4 ef0 ef1 ef2 ef3 ef4
          obtain ⟨V3, hV3⟩ : ∃ V3, (((((V2.setCell ⟨w3.heap.size, 0, none⟩ (Value.string (bs n))).setCell ⟨w3.heap.size, 1, none⟩ (Value.int .i64 t)).setCell ⟨w3.heap.size, 2, none⟩ (Value.int .i64 c)).setCell ⟨w3.heap.size, 3, none⟩ (Value.int .i64 l)).setCell ⟨w3.heap.size, 4, none⟩ (Value.string (bs d))) = V3 := ⟨_, rfl⟩
          have hA : Aside (fun b => b = w3.heap.size) V2 V3 := by rw [← hV3]; exact (((((Aside.setCell (G := fun b => b = w3.heap.size) V2 (p := ⟨w3.heap.size, 0, none⟩) (Value.string (bs n)) rfl).trans (Aside.setCell (G := fun b => b = w3.heap.size) (V2.setCell ⟨w3.heap.size, 0, none⟩ (Value.string (bs n))) (p := ⟨w3.heap.size, 1, none⟩) (Value.int .i64 t) rfl)).trans (Aside.setCell (G := fun b => b = w3.heap.size) ((V2.setCell ⟨w3.heap.size, 0, none⟩ (Value.string (bs n))).setCell ⟨w3.heap.size, 1, none⟩ (Value.int .i64 t)) (p := ⟨w3.heap.size, 2, none⟩) (Value.int .i64 c) rfl)).trans (Aside.setCell (G := fun b => b = w3.heap.size) (((V2.setCell ⟨w3.heap.size, 0, none⟩ (Value.string (bs n))).setCell ⟨w3.heap.size, 1, none⟩ (Value.int .i64 t)).setCell ⟨w3.heap.size, 2, none⟩ (Value.int .i64 c)) (p := ⟨w3.heap.size, 3, none⟩) (Value.int .i64 l) rfl)).trans (Aside.setCell (G := fun b => b = w3.heap.size) ((((V2.setCell ⟨w3.heap.size, 0, none⟩ (Value.string (bs n))).setCell ⟨w3.heap.size, 1, none⟩ (Value.int .i64 t)).setCell ⟨w3.heap.size, 2, none⟩ (Value.int .i64 c)).setCell ⟨w3.heap.size, 3, none⟩ (Value.int .i64 l)) (p := ⟨w3.heap.size, 4, none⟩) (Value.string (bs d)) rfl))
          have hn : Cel V3 w3.heap.size [Value.string (bs n), Value.int .i64 t, Value.int .i64 c, Value.int .i64 l, Value.string (bs d)] := by rw [← hV3]; exact (((((HE.out.set (o := 0) (by simp) (Value.string (bs n))).set (o := 1) (by simp) (Value.int .i64 t)).set (o := 2) (by simp) (Value.int .i64 c)).set (o := 3) (by simp) (Value.int .i64 l)).set (o := 4) (by simp) (Value.string (bs d)))
          rw [hV3]
          replace HX := Lib.hid (HX.out.aside (by simp) hA (by omega))
          replace HY := Lib.hid (HY.out.aside (by simp) hA (by omega))
          replace HZ := Lib.hid (HZ.out.aside (by simp) hA (by omega))
          replace HD := Lib.hid (HD.out.aside (by simp) hA (by omega))
          replace HBD := Lib.hid (below_aside HBD.out hA fun b hb => ⟨Nat.lt_of_lt_of_le hb HBD.out.size, by omega⟩)
          replace HE := Lib.hid hn
          clear hA hn hV3
          refine hK.out _ _ HX.out.five (fun hHeld => ?_)
          clear hK K
          try simp only [Act.put, List.setIfInBounds_toArray, List.set_cons_zero, List.set_cons_succ]
          refine wpAnyH_done (by kernel_rfl) ?_ _
          clear hHeld
          go_wp2_with fail
          refine (HPi.out _).mono ?_; rintro e w9 ⟨k, hk, rfl, rfl⟩
          have v3 := HD.out.c 3 (by simp)
          have vf3 := HD.out.fz 3
          have u2 := HE.out.c 2 (by simp)
          have uf2 := HE.out.fz 2
          obtain ⟨a0, a1, a2, a3, a4⟩ := HX.out.five
          go_wp2_with fail
          clear v3 vf3 u2 uf2 a0 a1 a2 a3 a4
          obtain ⟨V4, hV4⟩ : ∃ V4, (V3.setCell ⟨(w3.heap.size + 1), 3, none⟩ (Value.int .i64 (k : Int))) = V4 := ⟨_, rfl⟩
          have hA : Aside (fun b => b = (w3.heap.size + 1)) V3 V4 := by rw [← hV4]; exact (Aside.setCell (G := fun b => b = (w3.heap.size + 1)) V3 (p := ⟨(w3.heap.size + 1), 3, none⟩) (Value.int .i64 (k : Int)) rfl)
          have hn : Cel V4 (w3.heap.size + 1) [Value.string (bs n), Value.int .i64 t, Value.int .i64 c, Value.int .i64 (k : Int), Value.string (bs d)] := by rw [← hV4]; exact (HD.out.set (o := 3) (by simp) (Value.int .i64 (k : Int)))
          replace HX := Lib.hid (HX.out.aside (by simp) hA (by omega))
          replace HY := Lib.hid (HY.out.aside (by simp) hA (by omega))
          replace HZ := Lib.hid (HZ.out.aside (by simp) hA (by omega))
          replace HE := Lib.hid (HE.out.aside (by simp) hA (by omega))
          replace HBD := Lib.hid (below_aside HBD.out hA fun b hb => ⟨Nat.lt_of_lt_of_le hb HBD.out.size, by omega⟩)
          replace HD := Lib.hid hn
          clear hA hn
          obtain ⟨V5, hV5⟩ : ∃ V5, (V4.setCell ⟨w3.heap.size, 2, none⟩ (Value.int .i64 ce)) = V5 := ⟨_, rfl⟩
          have hA : Aside (fun b => b = w3.heap.size) V4 V5 := by rw [← hV5]; exact (Aside.setCell (G := fun b => b = w3.heap.size) V4 (p := ⟨w3.heap.size, 2, none⟩) (Value.int .i64 ce) rfl)
          have hn : Cel V5 w3.heap.size [Value.string (bs n), Value.int .i64 t, Value.int .i64 ce, Value.int .i64 l, Value.string (bs d)] := by rw [← hV5]; exact (HE.out.set (o := 2) (by simp) (Value.int .i64 ce))
          rw [hV4, hV5]
          replace HX := Lib.hid (HX.out.aside (by simp) hA (by omega))
          replace HY := Lib.hid (HY.out.aside (by simp) hA (by omega))
          replace HZ := Lib.hid (HZ.out.aside (by simp) hA (by omega))
          replace HD := Lib.hid (HD.out.aside (by simp) hA (by omega))
          replace HBD := Lib.hid (below_aside HBD.out hA fun b hb => ⟨Nat.lt_of_lt_of_le hb HBD.out.size, by omega⟩)
          replace HE := Lib.hid hn
          clear hA hn hV4 hV5
          refine (HAA.out _).mono ?_; rintro e w10 ⟨rfl, hb⟩
          replace HX := Lib.hid (HX.out.below (by simp) hb)
          replace HY := Lib.hid (HY.out.below (by simp) hb)
          replace HZ := Lib.hid (HZ.out.below (by simp) hb)
          replace HBD := Lib.hid (bel_call HBD.out hb)
          replace HD := Lib.hid (HD.out.below (by simp) hb)
          replace HE := Lib.hid (HE.out.below (by simp) hb)
          clear hb
          obtain ⟨a0, a1, a2, a3, a4⟩ := HX.out.five
          obtain ⟨b0, b1, b2, b3, b4⟩ := HD.out.five
          go_wp2_with fail
          clear a0 a1 a2 a3 a4 b0 b1 b2 b3 b4
          refine (HADk.out k hk _).mono ?_; rintro e w11 ⟨rfl, hb⟩
          replace HX := Lib.hid (HX.out.below (by simp) hb)
          replace HY := Lib.hid (HY.out.below (by simp) hb)
          replace HZ := Lib.hid (HZ.out.below (by simp) hb)
          replace HBD := Lib.hid (bel_call HBD.out hb)
          replace HD := Lib.hid (HD.out.below (by simp) hb)
          replace HE := Lib.hid (HE.out.below (by simp) hb)
          clear hb
          obtain ⟨a0, a1, a2, a3, a4⟩ := HX.out.five
          obtain ⟨b0, b1, b2, b3, b4⟩ := HE.out.five
          go_wp2_with fail
          clear a0 a1 a2 a3 a4 b0 b1 b2 b3 b4
          refine (HAEk.out _).mono ?_; rintro e w12 ⟨rfl, hb⟩
          replace HX := Lib.hid (HX.out.below (by simp) hb)
          replace HY := Lib.hid (HY.out.below (by simp) hb)
          replace HZ := Lib.hid (HZ.out.below (by simp) hb)
          replace HBD := Lib.hid (bel_call HBD.out hb)
          replace HD := Lib.hid (HD.out.below (by simp) hb)
          replace HE := Lib.hid (HE.out.below (by simp) hb)
          clear hb
          obtain ⟨a0, a1, a2, a3, a4⟩ := HX.out.five
          obtain ⟨b0, b1, b2, b3, b4⟩ := HY.out.five
          go_wp2_with fail
          clear a0 a1 a2 a3 a4 b0 b1 b2 b3 b4
          refine (HAB.out _).mono ?_; rintro e w13 ⟨rfl, hb⟩
          replace HX := Lib.hid (HX.out.below (by simp) hb)
          replace HY := Lib.hid (HY.out.below (by simp) hb)
          replace HZ := Lib.hid (HZ.out.below (by simp) hb)
          replace HBD := Lib.hid (bel_call HBD.out hb)
          replace HD := Lib.hid (HD.out.below (by simp) hb)
          replace HE := Lib.hid (HE.out.below (by simp) hb)
          clear hb
          obtain ⟨a0, a1, a2, a3, a4⟩ := HX.out.five
          obtain ⟨b0, b1, b2, b3, b4⟩ := HY.out.five
          go_wp2_with fail
          go_ret
          exact ⟨rfl, HBD.out⟩
    · have hAB : sameC ⟨n, t, c, l, d⟩ ⟨n2, t2, c2, l2, d2⟩ = false := by simpa using hAB
      rw [hAB] at HAB HBA
      by_cases hC0 : chkC ⟨n, t, c, l, d⟩ = 0
      · have hAB := hAB
        have hcb := hE0 hC0
        obtain ⟨ce, hce⟩ : ∃ ce, (c + 1).tmod 65536 = ce := ⟨_, rfl⟩
        have hcn : ce ≠ c := by
          rw [← hce, Int.tmod_eq_emod_of_nonneg (by omega)]
          omega
        have hcw : wrap64 (c + 1) = c + 1 := IntWalk.wrap64_in _ ⟨by omega, by omega⟩
        have HADk := Lib.hid (fun (k : Nat) (hk : k < 2147483648) wx => show Calls Try.prog 12 #[.agg #[.string (bs n), .int .i64 t, .int .i64 c, .int .i64 l, .string (bs d)], .agg #[.string (bs n), .int .i64 t, .int .i64 c, .int .i64 (k : Int), .string (bs d)]] wx (Tells wx (.bool true)) from by have h := HAD.out (k : Int) wx; rw [show sameC ⟨n, t, c, l, d⟩ ⟨n, t, c, (k : Int), d⟩ = true from sameC_ttl hC0 (k : Int) (by omega) (by omega)] at h; exact h)
        have HAEk := Lib.hid (fun wx => show Calls Try.prog 12 #[.agg #[.string (bs n), .int .i64 t, .int .i64 c, .int .i64 l, .string (bs d)], .agg #[.string (bs n), .int .i64 t, .int .i64 ce, .int .i64 l, .string (bs d)]] wx (Tells wx (.bool false)) from by have h := HAE.out ce wx; rw [show sameC ⟨n, t, c, l, d⟩ ⟨n, t, ce, l, d⟩ = false from sameC_class (x := ⟨n, t, c, l, d⟩) ce hcn] at h; exact h)
        rw [hC0] at HCk HAA
        rw [show decide ((0 : Int) = 0) = true from rfl] at HAA
        clear HAD HAE hC0 hE0 hcn
        clear hAB
        go_enter Try.func7, Try.ntmps7
        go_wp2_with fail
        refine (HAW.out _).mono ?_; rintro e w1 ⟨rfl, hb⟩
        replace HX := Lib.hid (HX.out.below (by simp) hb)
        replace HY := Lib.hid (HY.out.below (by simp) hb)
        replace HZ := Lib.hid (HZ.out.below (by simp) hb)
        replace HBD := Lib.hid (bel_call HBD.out hb)
        clear hb
        obtain ⟨a0, a1, a2, a3, a4⟩ := HX.out.five
        obtain ⟨b0, b1, b2, b3, b4⟩ := HY.out.five
        obtain ⟨f0, f1, f2, f3, f4⟩ := HZ.out.five
        have HBG := Lib.hid (big_three (w := w1) n t c l d n2 t2 c2 l2 d2 n3 t3 c3 l3 d3)
        have hb : Below w1.heap.size w1 (w1.alloc (.cells #[.string (bs n), .int .i64 t, .int .i64 c, .int .i64 l, .string (bs d), .string (bs n2), .int .i64 t2, .int .i64 c2, .int .i64 l2, .string (bs d2), .string (bs n3), .int .i64 t3, .int .i64 c3, .int .i64 l3, .string (bs d3)] 23)) := (Below.refl _ _).alloc (Nat.le_refl _) _
        replace HX := Lib.hid (HX.out.below (by simp) hb)
        replace HY := Lib.hid (HY.out.below (by simp) hb)
        replace HZ := Lib.hid (HZ.out.below (by simp) hb)
        replace HBD := Lib.hid (bel_call HBD.out hb)
        clear hb
        rw [hbig] at HBG
        go_wp2_with fail
        refine HBG.out.mono ?_; rintro e w2 ⟨rfl, rfl⟩
        clear a0 a1 a2 a3 a4 b0 b1 b2 b3 b4 f0 f1 f2 f3 f4
        have hb := (Below.refl (w1.alloc (.cells #[.string (bs n), .int .i64 t, .int .i64 c, .int .i64 l, .string (bs d), .string (bs n2), .int .i64 t2, .int .i64 c2, .int .i64 l2, .string (bs d2), .string (bs n3), .int .i64 t3, .int .i64 c3, .int .i64 l3, .string (bs d3)] 23)).heap.size (w1.alloc (.cells #[.string (bs n), .int .i64 t, .int .i64 c, .int .i64 l, .string (bs d), .string (bs n2), .int .i64 t2, .int .i64 c2, .int .i64 l2, .string (bs d2), .string (bs n3), .int .i64 t3, .int .i64 c3, .int .i64 l3, .string (bs d3)] 23))).drew
        replace HX := Lib.hid (HX.out.below (by simp) hb)
        replace HY := Lib.hid (HY.out.below (by simp) hb)
        replace HZ := Lib.hid (HZ.out.below (by simp) hb)
        replace HBD := Lib.hid (bel_call HBD.out hb)
        clear hb
        go_wp2_with fail
        refine wp_region_held_drew (S := (fun wx => (wx.cell? ⟨g, 0, none⟩ = some (.string (bs n)) ∧ wx.cell? ⟨g, 1, none⟩ = some (.int .i64 t) ∧ wx.cell? ⟨g, 2, none⟩ = some (.int .i64 c) ∧ wx.cell? ⟨g, 3, none⟩ = some (.int .i64 l) ∧ wx.cell? ⟨g, 4, none⟩ = some (.string (bs d))) ∧ (wx.cell? ⟨g + 1, 0, none⟩ = some (.string (bs n2)) ∧ wx.cell? ⟨g + 1, 1, none⟩ = some (.int .i64 t2) ∧ wx.cell? ⟨g + 1, 2, none⟩ = some (.int .i64 c2) ∧ wx.cell? ⟨g + 1, 3, none⟩ = some (.int .i64 l2) ∧ wx.cell? ⟨g + 1, 4, none⟩ = some (.string (bs d2))) ∧ (wx.cell? ⟨g + 2, 0, none⟩ = some (.string (bs n3)) ∧ wx.cell? ⟨g + 2, 1, none⟩ = some (.int .i64 t3) ∧ wx.cell? ⟨g + 2, 2, none⟩ = some (.int .i64 c3) ∧ wx.cell? ⟨g + 2, 3, none⟩ = some (.int .i64 l3) ∧ wx.cell? ⟨g + 2, 4, none⟩ = some (.string (bs d3))))) (by kernel_rfl) ⟨HX.out.five, HY.out.five, HZ.out.five⟩ (fun hHeld => ?_)
        refine wpAnyH_take (i := 0) (oi := { dst := some 19, op := Op.load 23 (Operand.tmp 4), type := 23, pos := "outright.go:96", after := #[], guard := none }) (v := ?_) rfl (by kernel_rfl) (by kernel_rfl) (by kernel_rfl) (fun _ _ _ h => h) (Or.inl ⟨by rfl, ?_⟩) (by assumption) ?_
        rotate_left 1
        · intro w hSw; (try dsimp only at hSw); go_simp; try (with_reducible rfl)
        try simp only [Act.put, List.setIfInBounds_toArray, List.set_cons_zero, List.set_cons_succ]
        refine wpAnyH_take (i := 1) (oi := { dst := some 20, op := Op.load 23 (Operand.tmp 5), type := 23, pos := "outright.go:96", after := #[], guard := none }) (v := ?_) rfl (by kernel_rfl) (by kernel_rfl) (by kernel_rfl) (fun _ _ _ h => h) (Or.inl ⟨by rfl, ?_⟩) (by assumption) ?_
        rotate_left 1
        · intro w hSw; (try dsimp only at hSw); go_simp; try (with_reducible rfl)
        try simp only [Act.put, List.setIfInBounds_toArray, List.set_cons_zero, List.set_cons_succ]
        refine wpAnyH_take (i := 3) (oi := { dst := some 22, op := Op.load 23 (Operand.tmp 5), type := 23, pos := "outright.go:96", after := #[], guard := none }) (v := ?_) rfl (by kernel_rfl) (by kernel_rfl) (by kernel_rfl) (fun _ _ _ h => h) (Or.inl ⟨by rfl, ?_⟩) (by assumption) ?_
        rotate_left 1
        · intro w hSw; (try dsimp only at hSw); go_simp; try (with_reducible rfl)
        try simp only [Act.put, List.setIfInBounds_toArray, List.set_cons_zero, List.set_cons_succ]
        refine wpAnyH_take (i := 4) (oi := { dst := some 23, op := Op.load 23 (Operand.tmp 4), type := 23, pos := "outright.go:96", after := #[], guard := none }) (v := ?_) rfl (by kernel_rfl) (by kernel_rfl) (by kernel_rfl) (fun _ _ _ h => h) (Or.inl ⟨by rfl, ?_⟩) (by assumption) ?_
        rotate_left 1
        · intro w hSw; (try dsimp only at hSw); go_simp; try (with_reducible rfl)
        try simp only [Act.put, List.setIfInBounds_toArray, List.set_cons_zero, List.set_cons_succ]
        refine wpAnyH_ready (rs := [2]) (by kernel_rfl) (by simp) ?_
        refine AllReadyH.cons (o := { dst := some 21, op := Op.call { callee := Callee.value (Operand.func 12), args := #[Operand.tmp 19, Operand.tmp 20], argTypes := #[23, 23] }, type := 4, pos := "outright.go:96", after := #[{ on := 0, ground := Ground.data }, { on := 1, ground := Ground.data }], guard := none }) rfl (fun K hK => ?_) (AllReadyH.nil)
        go_simp
        refine (HAB.out _).mono ?_; rintro e w1 ⟨rfl, hb⟩
        replace HX := Lib.hid (HX.out.below (by simp) hb)
        replace HY := Lib.hid (HY.out.below (by simp) hb)
        replace HZ := Lib.hid (HZ.out.below (by simp) hb)
        replace HBD := Lib.hid (bel_call HBD.out hb)
        clear hb
        try go_wp2_with fail
        refine hK.out _ _ ⟨HX.out.five, HY.out.five, HZ.out.five⟩ (fun hHeld => ?_)
        clear hK K
        try simp only [Act.put, List.setIfInBounds_toArray, List.set_cons_zero, List.set_cons_succ]
        refine wpAnyH_ready (rs := [5]) (by kernel_rfl) (by simp) ?_
        refine AllReadyH.cons (o := { dst := some 24, op := Op.call { callee := Callee.value (Operand.func 12), args := #[Operand.tmp 22, Operand.tmp 23], argTypes := #[23, 23] }, type := 4, pos := "outright.go:96", after := #[{ on := 3, ground := Ground.data }, { on := 4, ground := Ground.data }, { on := 2, ground := Ground.chain }], guard := none }) rfl (fun K hK => ?_) (AllReadyH.nil)
        go_simp
        refine (HBA.out _).mono ?_; rintro e w1 ⟨rfl, hb⟩
        replace HX := Lib.hid (HX.out.below (by simp) hb)
        replace HY := Lib.hid (HY.out.below (by simp) hb)
        replace HZ := Lib.hid (HZ.out.below (by simp) hb)
        replace HBD := Lib.hid (bel_call HBD.out hb)
        clear hb
        try go_wp2_with fail
        refine hK.out _ _ ⟨HX.out.five, HY.out.five, HZ.out.five⟩ (fun hHeld => ?_)
        clear hK K
        try simp only [Act.put, List.setIfInBounds_toArray, List.set_cons_zero, List.set_cons_succ]
        refine wpAnyH_take (i := 6) (oi := { dst := some 25, op := Op.binOp BinOp.neq 4 (Operand.tmp 21) (Operand.tmp 24) 4, type := 4, pos := "outright.go:96", after := #[{ on := 2, ground := Ground.data }, { on := 5, ground := Ground.data }], guard := none }) (v := ?_) rfl (by kernel_rfl) (by kernel_rfl) (by kernel_rfl) (fun _ _ _ h => h) (Or.inl ⟨by rfl, ?_⟩) (by assumption) ?_
        rotate_left 1
        · intro w hSw; (try dsimp only at hSw); go_simp; try (with_reducible rfl)
        try simp only [Act.put, List.setIfInBounds_toArray, List.set_cons_zero, List.set_cons_succ]
        refine wpAnyH_take (i := 7) (oi := { dst := some 26, op := Op.move (Operand.tmp 25), type := 4, pos := "outright.go:96", after := #[{ on := 6, ground := Ground.data }, { on := 5, ground := Ground.chain }], guard := none }) (v := ?_) rfl (by kernel_rfl) (by kernel_rfl) (by kernel_rfl) (fun _ _ _ h => h) (Or.inl ⟨by rfl, ?_⟩) (by assumption) ?_
        rotate_left 1
        · intro w hSw; (try dsimp only at hSw); go_simp; try (with_reducible rfl)
        try simp only [Act.put, List.setIfInBounds_toArray, List.set_cons_zero, List.set_cons_succ]
        refine wpAnyH_take (i := 8) (oi := { dst := some 27, op := Op.load 23 (Operand.tmp 4), type := 23, pos := "outright.go:96", after := #[{ on := 7, ground := Ground.guard }], guard := some (7, false) }) (v := ?_) rfl (by kernel_rfl) (by kernel_rfl) (by kernel_rfl) (fun _ _ _ h => h) (Or.inl ⟨by rfl, ?_⟩) (by assumption) ?_
        rotate_left 1
        · intro w hSw; (try dsimp only at hSw); go_simp; try (with_reducible rfl)
        try simp only [Act.put, List.setIfInBounds_toArray, List.set_cons_zero, List.set_cons_succ]
        refine wpAnyH_take (i := 9) (oi := { dst := some 28, op := Op.load 23 (Operand.tmp 5), type := 23, pos := "outright.go:96", after := #[{ on := 7, ground := Ground.guard }], guard := some (7, false) }) (v := ?_) rfl (by kernel_rfl) (by kernel_rfl) (by kernel_rfl) (fun _ _ _ h => h) (Or.inl ⟨by rfl, ?_⟩) (by assumption) ?_
        rotate_left 1
        · intro w hSw; (try dsimp only at hSw); go_simp; try (with_reducible rfl)
        try simp only [Act.put, List.setIfInBounds_toArray, List.set_cons_zero, List.set_cons_succ]
        refine wpAnyH_ready (rs := [10]) (by kernel_rfl) (by simp) ?_
        refine AllReadyH.cons (o := { dst := some 29, op := Op.call { callee := Callee.value (Operand.func 12), args := #[Operand.tmp 27, Operand.tmp 28], argTypes := #[23, 23] }, type := 4, pos := "outright.go:96", after := #[{ on := 8, ground := Ground.data }, { on := 9, ground := Ground.data }, { on := 7, ground := Ground.chain }, { on := 7, ground := Ground.guard }], guard := some (7, false) }) rfl (fun K hK => ?_) (AllReadyH.nil)
        go_simp
        refine (HAB.out _).mono ?_; rintro e w1 ⟨rfl, hb⟩
        replace HX := Lib.hid (HX.out.below (by simp) hb)
        replace HY := Lib.hid (HY.out.below (by simp) hb)
        replace HZ := Lib.hid (HZ.out.below (by simp) hb)
        replace HBD := Lib.hid (bel_call HBD.out hb)
        clear hb
        try go_wp2_with fail
        refine hK.out _ _ ⟨HX.out.five, HY.out.five, HZ.out.five⟩ (fun hHeld => ?_)
        clear hK K
        try simp only [Act.put, List.setIfInBounds_toArray, List.set_cons_zero, List.set_cons_succ]
        refine wpAnyH_take (i := 11) (oi := { dst := some 30, op := Op.move (Operand.tmp 29), type := 4, pos := "outright.go:96", after := #[{ on := 10, ground := Ground.data }, { on := 10, ground := Ground.chain }, { on := 7, ground := Ground.guard }], guard := some (7, false) }) (v := ?_) rfl (by kernel_rfl) (by kernel_rfl) (by kernel_rfl) (fun _ _ _ h => h) (Or.inl ⟨by rfl, ?_⟩) (by assumption) ?_
        rotate_left 1
        · intro w hSw; (try dsimp only at hSw); go_simp; try (with_reducible rfl)
        try simp only [Act.put, List.setIfInBounds_toArray, List.set_cons_zero, List.set_cons_succ]
        refine wpAnyH_take (i := 12) (oi := { dst := some 31, op := Op.load 23 (Operand.tmp 5), type := 23, pos := "outright.go:96", after := #[{ on := 11, ground := Ground.guard }], guard := some (11, true) }) (v := undef) rfl (by kernel_rfl) (by kernel_rfl) (by kernel_rfl) (fun _ _ _ h => h) (Or.inr ⟨by rfl, rfl⟩) (by assumption) ?_
        try simp only [Act.put, List.setIfInBounds_toArray, List.set_cons_zero, List.set_cons_succ]
        refine wpAnyH_take (i := 13) (oi := { dst := some 32, op := Op.load 23 (Operand.tmp 6), type := 23, pos := "outright.go:96", after := #[{ on := 11, ground := Ground.guard }], guard := some (11, true) }) (v := undef) rfl (by kernel_rfl) (by kernel_rfl) (by kernel_rfl) (fun _ _ _ h => h) (Or.inr ⟨by rfl, rfl⟩) (by assumption) ?_
        try simp only [Act.put, List.setIfInBounds_toArray, List.set_cons_zero, List.set_cons_succ]
        refine wpAnyH_take (i := 14) (oi := { dst := some 33, op := Op.call { callee := Callee.value (Operand.func 12), args := #[Operand.tmp 31, Operand.tmp 32], argTypes := #[23, 23] }, type := 4, pos := "outright.go:96", after := #[{ on := 12, ground := Ground.data }, { on := 13, ground := Ground.data }, { on := 11, ground := Ground.chain }, { on := 11, ground := Ground.guard }], guard := some (11, true) }) (v := undef) rfl (by kernel_rfl) (by kernel_rfl) (by kernel_rfl) (fun _ _ _ h => h) (Or.inr ⟨by rfl, rfl⟩) (by assumption) ?_
        try simp only [Act.put, List.setIfInBounds_toArray, List.set_cons_zero, List.set_cons_succ]
        refine wpAnyH_take (i := 15) (oi := { dst := some 34, op := Op.pick (Operand.tmp 30) (Operand.tmp 33) (Operand.const (Value.bool false)), type := 4, pos := "outright.go:96", after := #[{ on := 11, ground := Ground.data }, { on := 14, ground := Ground.data }, { on := 7, ground := Ground.guard }], guard := some (7, false) }) (v := ?_) rfl (by kernel_rfl) (by kernel_rfl) (by kernel_rfl) (fun _ _ _ h => h) (Or.inl ⟨by rfl, ?_⟩) (by assumption) ?_
        rotate_left 1
        · intro w hSw; (try dsimp only at hSw); go_simp; try (with_reducible rfl)
        try simp only [Act.put, List.setIfInBounds_toArray, List.set_cons_zero, List.set_cons_succ]
        refine wpAnyH_take (i := 16) (oi := { dst := some 35, op := Op.move (Operand.tmp 34), type := 4, pos := "outright.go:96", after := #[{ on := 15, ground := Ground.data }, { on := 14, ground := Ground.chain }, { on := 7, ground := Ground.guard }], guard := some (7, false) }) (v := ?_) rfl (by kernel_rfl) (by kernel_rfl) (by kernel_rfl) (fun _ _ _ h => h) (Or.inl ⟨by rfl, ?_⟩) (by assumption) ?_
        rotate_left 1
        · intro w hSw; (try dsimp only at hSw); go_simp; try (with_reducible rfl)
        try simp only [Act.put, List.setIfInBounds_toArray, List.set_cons_zero, List.set_cons_succ]
        refine wpAnyH_take (i := 17) (oi := { dst := some 36, op := Op.load 23 (Operand.tmp 4), type := 23, pos := "outright.go:96", after := #[{ on := 16, ground := Ground.guard }], guard := some (16, true) }) (v := undef) rfl (by kernel_rfl) (by kernel_rfl) (by kernel_rfl) (fun _ _ _ h => h) (Or.inr ⟨by rfl, rfl⟩) (by assumption) ?_
        try simp only [Act.put, List.setIfInBounds_toArray, List.set_cons_zero, List.set_cons_succ]
        refine wpAnyH_take (i := 18) (oi := { dst := some 37, op := Op.load 23 (Operand.tmp 6), type := 23, pos := "outright.go:96", after := #[{ on := 16, ground := Ground.guard }], guard := some (16, true) }) (v := undef) rfl (by kernel_rfl) (by kernel_rfl) (by kernel_rfl) (fun _ _ _ h => h) (Or.inr ⟨by rfl, rfl⟩) (by assumption) ?_
        try simp only [Act.put, List.setIfInBounds_toArray, List.set_cons_zero, List.set_cons_succ]
        refine wpAnyH_take (i := 19) (oi := { dst := some 38, op := Op.call { callee := Callee.value (Operand.func 12), args := #[Operand.tmp 36, Operand.tmp 37], argTypes := #[23, 23] }, type := 4, pos := "outright.go:96", after := #[{ on := 17, ground := Ground.data }, { on := 18, ground := Ground.data }, { on := 16, ground := Ground.chain }, { on := 16, ground := Ground.guard }], guard := some (16, true) }) (v := undef) rfl (by kernel_rfl) (by kernel_rfl) (by kernel_rfl) (fun _ _ _ h => h) (Or.inr ⟨by rfl, rfl⟩) (by assumption) ?_
        try simp only [Act.put, List.setIfInBounds_toArray, List.set_cons_zero, List.set_cons_succ]
        refine wpAnyH_take (i := 20) (oi := { dst := some 39, op := Op.unOp UnOp.not 4 (Operand.tmp 38), type := 4, pos := "outright.go:96", after := #[{ on := 19, ground := Ground.data }, { on := 16, ground := Ground.guard }], guard := some (16, true) }) (v := undef) rfl (by kernel_rfl) (by kernel_rfl) (by kernel_rfl) (fun _ _ _ h => h) (Or.inr ⟨by rfl, rfl⟩) (by assumption) ?_
        try simp only [Act.put, List.setIfInBounds_toArray, List.set_cons_zero, List.set_cons_succ]
        refine wpAnyH_take (i := 21) (oi := { dst := some 40, op := Op.pick (Operand.tmp 35) (Operand.tmp 39) (Operand.const (Value.bool false)), type := 4, pos := "outright.go:96", after := #[{ on := 16, ground := Ground.data }, { on := 20, ground := Ground.data }, { on := 7, ground := Ground.guard }], guard := some (7, false) }) (v := ?_) rfl (by kernel_rfl) (by kernel_rfl) (by kernel_rfl) (fun _ _ _ h => h) (Or.inl ⟨by rfl, ?_⟩) (by assumption) ?_
        rotate_left 1
        · intro w hSw; (try dsimp only at hSw); go_simp; try (with_reducible rfl)
        try simp only [Act.put, List.setIfInBounds_toArray, List.set_cons_zero, List.set_cons_succ]
        refine wpAnyH_take (i := 22) (oi := { dst := some 41, op := Op.pick (Operand.tmp 26) (Operand.const (Value.bool true)) (Operand.tmp 40), type := 4, pos := "outright.go:96", after := #[{ on := 7, ground := Ground.data }, { on := 21, ground := Ground.data }], guard := none }) (v := ?_) rfl (by kernel_rfl) (by kernel_rfl) (by kernel_rfl) (fun _ _ _ h => h) (Or.inl ⟨by rfl, ?_⟩) (by assumption) ?_
        rotate_left 1
        · intro w hSw; (try dsimp only at hSw); go_simp; try (with_reducible rfl)
        try simp only [Act.put, List.setIfInBounds_toArray, List.set_cons_zero, List.set_cons_succ]
        refine wpAnyH_done (by kernel_rfl) ?_ _
        clear hHeld
        obtain ⟨a0, a1, a2, a3, a4⟩ := HX.out.five
        go_wp2_with fail
        refine (HCk.out _).mono ?_; rintro e w3 ⟨rfl, hb⟩
        replace HX := Lib.hid (HX.out.below (by simp) hb)
        replace HY := Lib.hid (HY.out.below (by simp) hb)
        replace HZ := Lib.hid (HZ.out.below (by simp) hb)
        replace HBD := Lib.hid (bel_call HBD.out hb)
        clear hb
        clear a0 a1 a2 a3 a4
        obtain ⟨a0, a1, a2, a3, a4⟩ := HX.out.five
        obtain ⟨b0, b1, b2, b3, b4⟩ := HY.out.five
        have hgl : g + 2 < w3.heap.size := World.block_lt_of_cell? w3 _ (HZ.out.c 0 (by simp))
        clear b0 b1 b2 b3 b4 a0 a1 a2 a3 a4
        have hb := (Below.refl w3.heap.size w3).drew
        replace HX := Lib.hid (HX.out.below (by simp) hb)
        replace HY := Lib.hid (HY.out.below (by simp) hb)
        replace HZ := Lib.hid (HZ.out.below (by simp) hb)
        replace HBD := Lib.hid (bel_call HBD.out hb)
        clear hb
        go_wp2_with fail
        refine wp_region_held_drew (S := (fun wx => (wx.cell? ⟨g, 0, none⟩ = some (.string (bs n)) ∧ wx.cell? ⟨g, 1, none⟩ = some (.int .i64 t) ∧ wx.cell? ⟨g, 2, none⟩ = some (.int .i64 c) ∧ wx.cell? ⟨g, 3, none⟩ = some (.int .i64 l) ∧ wx.cell? ⟨g, 4, none⟩ = some (.string (bs d))))) (by kernel_rfl) HX.out.five (fun hHeld => ?_)
        refine wpAnyH_take (i := 0) (oi := { dst := some 52, op := Op.load 23 (Operand.tmp 4), type := 23, pos := "outright.go:102", after := #[], guard := none }) (v := ?_) rfl (by kernel_rfl) (by kernel_rfl) (by kernel_rfl) (fun _ _ _ h => h) (Or.inl ⟨by rfl, ?_⟩) (by assumption) ?_
        rotate_left 1
        · intro w hSw; (try dsimp only at hSw); go_simp; try (with_reducible rfl)
        try simp only [Act.put, List.setIfInBounds_toArray, List.set_cons_zero, List.set_cons_succ]
        refine wpAnyH_take (i := 1) (oi := { dst := some 53, op := Op.load 23 (Operand.tmp 4), type := 23, pos := "outright.go:102", after := #[{ on := 4, ground := Ground.gcOnly Departure.lateStores }], guard := none }) (v := ?_) rfl (by kernel_rfl) (by kernel_rfl) (by kernel_rfl) (fun _ _ _ h => h) (Or.inl ⟨by rfl, ?_⟩) (by assumption) ?_
        rotate_left 1
        · intro w hSw; (try dsimp only at hSw); go_simp; try (with_reducible rfl)
        try simp only [Act.put, List.setIfInBounds_toArray, List.set_cons_zero, List.set_cons_succ]
        refine wpAnyH_ready (rs := [2, 3]) (by kernel_rfl) (by simp) ?_
        refine AllReadyH.cons (o := { dst := some 10, op := Op.alloc 23, type := 0, pos := "outright.go:102", after := #[], guard := none }) rfl (fun K hK => ?_) (AllReadyH.cons (o := { dst := some 11, op := Op.alloc 23, type := 0, pos := "outright.go:102", after := #[], guard := none }) rfl (fun K hK => ?_) (AllReadyH.nil))
        · go_simp
          have hb : Below w3.drew.heap.size w3.drew (w3.drew.alloc (.cells #[.string ⟨#[]⟩, .int .i64 0, .int .i64 0, .int .i64 0, .string ⟨#[]⟩] 23)) := (Below.refl _ _).alloc (Nat.le_refl _) _
          have HD : Hid (Cel (w3.drew.alloc (.cells #[.string ⟨#[]⟩, .int .i64 0, .int .i64 0, .int .i64 0, .string ⟨#[]⟩] 23)) w3.heap.size [.string ⟨#[]⟩, .int .i64 0, .int .i64 0, .int .i64 0, .string ⟨#[]⟩]) := cel_new w3.drew _ _ _ _ _ _
          replace HX := Lib.hid (HX.out.below (by simp) hb)
          replace HY := Lib.hid (HY.out.below (by simp) hb)
          replace HZ := Lib.hid (HZ.out.below (by simp) hb)
          replace HBD := Lib.hid (bel_call HBD.out hb)
          clear hb
          refine hK.out _ _ HX.out.five (fun hHeld => ?_)
          clear hK K
          try simp only [Act.put, List.setIfInBounds_toArray, List.set_cons_zero, List.set_cons_succ]
          refine wpAnyH_ready (rs := [3]) (by kernel_rfl) (by simp) ?_
          refine AllReadyH.cons (o := { dst := some 11, op := Op.alloc 23, type := 0, pos := "outright.go:102", after := #[], guard := none }) rfl (fun K hK => ?_) (AllReadyH.nil)
          go_simp
          have hb : Below (w3.drew.alloc (.cells #[.string ⟨#[]⟩, .int .i64 0, .int .i64 0, .int .i64 0, .string ⟨#[]⟩] 23)).heap.size (w3.drew.alloc (.cells #[.string ⟨#[]⟩, .int .i64 0, .int .i64 0, .int .i64 0, .string ⟨#[]⟩] 23)) ((w3.drew.alloc (.cells #[.string ⟨#[]⟩, .int .i64 0, .int .i64 0, .int .i64 0, .string ⟨#[]⟩] 23)).alloc (.cells #[.string ⟨#[]⟩, .int .i64 0, .int .i64 0, .int .i64 0, .string ⟨#[]⟩] 23)) := (Below.refl _ _).alloc (Nat.le_refl _) _
          have HE : Hid (Cel ((w3.drew.alloc (.cells #[.string ⟨#[]⟩, .int .i64 0, .int .i64 0, .int .i64 0, .string ⟨#[]⟩] 23)).alloc (.cells #[.string ⟨#[]⟩, .int .i64 0, .int .i64 0, .int .i64 0, .string ⟨#[]⟩] 23)) (w3.heap.size + 1) [.string ⟨#[]⟩, .int .i64 0, .int .i64 0, .int .i64 0, .string ⟨#[]⟩]) := by have h := cel_new (w3.drew.alloc (.cells #[.string ⟨#[]⟩, .int .i64 0, .int .i64 0, .int .i64 0, .string ⟨#[]⟩] 23)) (.string ⟨#[]⟩) (.int .i64 0) (.int .i64 0) (.int .i64 0) (.string ⟨#[]⟩) 23; rw [World.size_alloc] at h; exact h
          replace HD := Lib.hid (HD.out.below (by simp) hb)
          replace HX := Lib.hid (HX.out.below (by simp) hb)
          replace HY := Lib.hid (HY.out.below (by simp) hb)
          replace HZ := Lib.hid (HZ.out.below (by simp) hb)
          replace HBD := Lib.hid (bel_call HBD.out hb)
          clear hb
          obtain ⟨V, hV⟩ : ∃ V, ((w3.alloc (.cells #[.string ⟨#[]⟩, .int .i64 0, .int .i64 0, .int .i64 0, .string ⟨#[]⟩] 23)).alloc (.cells #[.string ⟨#[]⟩, .int .i64 0, .int .i64 0, .int .i64 0, .string ⟨#[]⟩] 23)).drew = V := ⟨_, rfl⟩
          have hV2 : (w3.drew.alloc (.cells #[.string ⟨#[]⟩, .int .i64 0, .int .i64 0, .int .i64 0, .string ⟨#[]⟩] 23)).alloc (.cells #[.string ⟨#[]⟩, .int .i64 0, .int .i64 0, .int .i64 0, .string ⟨#[]⟩] 23) = V := by rw [← hV]; rfl
          rw [hV2] at HX HY HZ HBD HD HE
          first | rw [hV] | rw [hV2]
          clear hV hV2
          obtain ⟨e0, e1, e2, e3, e4⟩ := HD.out.five
          have ef0 := HD.out.fz 0
          have ef1 := HD.out.fz 1
          have ef2 := HD.out.fz 2
          have ef3 := HD.out.fz 3
          have ef4 := HD.out.fz 4
          refine hK.out _ _ HX.out.five (fun hHeld => ?_)
          clear hK K
          try simp only [Act.put, List.setIfInBounds_toArray, List.set_cons_zero, List.set_cons_succ]
          refine wpAnyH_ready (rs := [4]) (by kernel_rfl) (by simp) ?_
          refine AllReadyH.cons (o := { dst := none, op := Op.store 23 (Operand.tmp 10) (Operand.tmp 52), type := 0, pos := "outright.go:102", after := #[{ on := 2, ground := Ground.data }, { on := 0, ground := Ground.data }, { on := 0, ground := Ground.phase }, { on := 1, ground := Ground.textOnly Departure.lateStores }, { on := 2, ground := Ground.phase }, { on := 3, ground := Ground.phase }], guard := none }) rfl (fun K hK => ?_) (AllReadyH.nil)
          go_simp
          clear e0 e1 e2 e3 e4 ef0 ef1 ef2 ef3 ef4
          obtain ⟨V2, hV2⟩ : ∃ V2, (((((V.setCell ⟨w3.heap.size, 0, none⟩ (Value.string (bs n))).setCell ⟨w3.heap.size, 1, none⟩ (Value.int .i64 t)).setCell ⟨w3.heap.size, 2, none⟩ (Value.int .i64 c)).setCell ⟨w3.heap.size, 3, none⟩ (Value.int .i64 l)).setCell ⟨w3.heap.size, 4, none⟩ (Value.string (bs d))) = V2 := ⟨_, rfl⟩
          have hA : Aside (fun b => b = w3.heap.size) V V2 := by rw [← hV2]; exact (((((Aside.setCell (G := fun b => b = w3.heap.size) V (p := ⟨w3.heap.size, 0, none⟩) (Value.string (bs n)) rfl).trans (Aside.setCell (G := fun b => b = w3.heap.size) (V.setCell ⟨w3.heap.size, 0, none⟩ (Value.string (bs n))) (p := ⟨w3.heap.size, 1, none⟩) (Value.int .i64 t) rfl)).trans (Aside.setCell (G := fun b => b = w3.heap.size) ((V.setCell ⟨w3.heap.size, 0, none⟩ (Value.string (bs n))).setCell ⟨w3.heap.size, 1, none⟩ (Value.int .i64 t)) (p := ⟨w3.heap.size, 2, none⟩) (Value.int .i64 c) rfl)).trans (Aside.setCell (G := fun b => b = w3.heap.size) (((V.setCell ⟨w3.heap.size, 0, none⟩ (Value.string (bs n))).setCell ⟨w3.heap.size, 1, none⟩ (Value.int .i64 t)).setCell ⟨w3.heap.size, 2, none⟩ (Value.int .i64 c)) (p := ⟨w3.heap.size, 3, none⟩) (Value.int .i64 l) rfl)).trans (Aside.setCell (G := fun b => b = w3.heap.size) ((((V.setCell ⟨w3.heap.size, 0, none⟩ (Value.string (bs n))).setCell ⟨w3.heap.size, 1, none⟩ (Value.int .i64 t)).setCell ⟨w3.heap.size, 2, none⟩ (Value.int .i64 c)).setCell ⟨w3.heap.size, 3, none⟩ (Value.int .i64 l)) (p := ⟨w3.heap.size, 4, none⟩) (Value.string (bs d)) rfl))
          have hn : Cel V2 w3.heap.size [Value.string (bs n), Value.int .i64 t, Value.int .i64 c, Value.int .i64 l, Value.string (bs d)] := by rw [← hV2]; exact (((((HD.out.set (o := 0) (by simp) (Value.string (bs n))).set (o := 1) (by simp) (Value.int .i64 t)).set (o := 2) (by simp) (Value.int .i64 c)).set (o := 3) (by simp) (Value.int .i64 l)).set (o := 4) (by simp) (Value.string (bs d)))
          rw [hV2]
          replace HX := Lib.hid (HX.out.aside (by simp) hA (by omega))
          replace HY := Lib.hid (HY.out.aside (by simp) hA (by omega))
          replace HZ := Lib.hid (HZ.out.aside (by simp) hA (by omega))
          replace HE := Lib.hid (HE.out.aside (by simp) hA (by omega))
          replace HBD := Lib.hid (below_aside HBD.out hA fun b hb => ⟨Nat.lt_of_lt_of_le hb HBD.out.size, by omega⟩)
          replace HD := Lib.hid hn
          clear hA hn hV2
          obtain ⟨e0, e1, e2, e3, e4⟩ := HE.out.five
          have ef0 := HE.out.fz 0
          have ef1 := HE.out.fz 1
          have ef2 := HE.out.fz 2
          have ef3 := HE.out.fz 3
          have ef4 := HE.out.fz 4
          refine hK.out _ _ HX.out.five (fun hHeld => ?_)
          clear hK K
          try simp only [Act.put, List.setIfInBounds_toArray, List.set_cons_zero, List.set_cons_succ]
          refine wpAnyH_ready (rs := [5]) (by kernel_rfl) (by simp) ?_
          refine AllReadyH.cons (o := { dst := none, op := Op.store 23 (Operand.tmp 11) (Operand.tmp 53), type := 0, pos := "outright.go:102", after := #[{ on := 3, ground := Ground.data }, { on := 1, ground := Ground.data }, { on := 4, ground := Ground.chain }, { on := 0, ground := Ground.phase }, { on := 1, ground := Ground.phase }, { on := 2, ground := Ground.phase }, { on := 3, ground := Ground.phase }, { on := 4, ground := Ground.phase }], guard := none }) rfl (fun K hK => ?_) (AllReadyH.nil)
          go_simp
          clear e0 e1 e2 e3 e4 ef0 ef1 ef2 ef3 ef4
          obtain ⟨V3, hV3⟩ : ∃ V3, (((((V2.setCell ⟨(w3.heap.size + 1), 0, none⟩ (Value.string (bs n))).setCell ⟨(w3.heap.size + 1), 1, none⟩ (Value.int .i64 t)).setCell ⟨(w3.heap.size + 1), 2, none⟩ (Value.int .i64 c)).setCell ⟨(w3.heap.size + 1), 3, none⟩ (Value.int .i64 l)).setCell ⟨(w3.heap.size + 1), 4, none⟩ (Value.string (bs d))) = V3 := ⟨_, rfl⟩
          have hA : Aside (fun b => b = (w3.heap.size + 1)) V2 V3 := by rw [← hV3]; exact (((((Aside.setCell (G := fun b => b = (w3.heap.size + 1)) V2 (p := ⟨(w3.heap.size + 1), 0, none⟩) (Value.string (bs n)) rfl).trans (Aside.setCell (G := fun b => b = (w3.heap.size + 1)) (V2.setCell ⟨(w3.heap.size + 1), 0, none⟩ (Value.string (bs n))) (p := ⟨(w3.heap.size + 1), 1, none⟩) (Value.int .i64 t) rfl)).trans (Aside.setCell (G := fun b => b = (w3.heap.size + 1)) ((V2.setCell ⟨(w3.heap.size + 1), 0, none⟩ (Value.string (bs n))).setCell ⟨(w3.heap.size + 1), 1, none⟩ (Value.int .i64 t)) (p := ⟨(w3.heap.size + 1), 2, none⟩) (Value.int .i64 c) rfl)).trans (Aside.setCell (G := fun b => b = (w3.heap.size + 1)) (((V2.setCell ⟨(w3.heap.size + 1), 0, none⟩ (Value.string (bs n))).setCell ⟨(w3.heap.size + 1), 1, none⟩ (Value.int .i64 t)).setCell ⟨(w3.heap.size + 1), 2, none⟩ (Value.int .i64 c)) (p := ⟨(w3.heap.size + 1), 3, none⟩) (Value.int .i64 l) rfl)).trans (Aside.setCell (G := fun b => b = (w3.heap.size + 1)) ((((V2.setCell ⟨(w3.heap.size + 1), 0, none⟩ (Value.string (bs n))).setCell ⟨(w3.heap.size + 1), 1, none⟩ (Value.int .i64 t)).setCell ⟨(w3.heap.size + 1), 2, none⟩ (Value.int .i64 c)).setCell ⟨(w3.heap.size + 1), 3, none⟩ (Value.int .i64 l)) (p := ⟨(w3.heap.size + 1), 4, none⟩) (Value.string (bs d)) rfl))
          have hn : Cel V3 (w3.heap.size + 1) [Value.string (bs n), Value.int .i64 t, Value.int .i64 c, Value.int .i64 l, Value.string (bs d)] := by rw [← hV3]; exact (((((HE.out.set (o := 0) (by simp) (Value.string (bs n))).set (o := 1) (by simp) (Value.int .i64 t)).set (o := 2) (by simp) (Value.int .i64 c)).set (o := 3) (by simp) (Value.int .i64 l)).set (o := 4) (by simp) (Value.string (bs d)))
          rw [hV3]
          replace HX := Lib.hid (HX.out.aside (by simp) hA (by omega))
          replace HY := Lib.hid (HY.out.aside (by simp) hA (by omega))
          replace HZ := Lib.hid (HZ.out.aside (by simp) hA (by omega))
          replace HD := Lib.hid (HD.out.aside (by simp) hA (by omega))
          replace HBD := Lib.hid (below_aside HBD.out hA fun b hb => ⟨Nat.lt_of_lt_of_le hb HBD.out.size, by omega⟩)
          replace HE := Lib.hid hn
          clear hA hn hV3
          refine hK.out _ _ HX.out.five (fun hHeld => ?_)
          clear hK K
          try simp only [Act.put, List.setIfInBounds_toArray, List.set_cons_zero, List.set_cons_succ]
          refine wpAnyH_done (by kernel_rfl) ?_ _
          clear hHeld
          go_wp2_with fail
          refine (HPi.out _).mono ?_; rintro e w9 ⟨k, hk, rfl, rfl⟩
          have v3 := HD.out.c 3 (by simp)
          have vf3 := HD.out.fz 3
          have u2 := HE.out.c 2 (by simp)
          have uf2 := HE.out.fz 2
          obtain ⟨a0, a1, a2, a3, a4⟩ := HX.out.five
          go_wp2_with fail
          clear v3 vf3 u2 uf2 a0 a1 a2 a3 a4
          obtain ⟨V4, hV4⟩ : ∃ V4, (V3.setCell ⟨w3.heap.size, 3, none⟩ (Value.int .i64 (k : Int))) = V4 := ⟨_, rfl⟩
          have hA : Aside (fun b => b = w3.heap.size) V3 V4 := by rw [← hV4]; exact (Aside.setCell (G := fun b => b = w3.heap.size) V3 (p := ⟨w3.heap.size, 3, none⟩) (Value.int .i64 (k : Int)) rfl)
          have hn : Cel V4 w3.heap.size [Value.string (bs n), Value.int .i64 t, Value.int .i64 c, Value.int .i64 (k : Int), Value.string (bs d)] := by rw [← hV4]; exact (HD.out.set (o := 3) (by simp) (Value.int .i64 (k : Int)))
          replace HX := Lib.hid (HX.out.aside (by simp) hA (by omega))
          replace HY := Lib.hid (HY.out.aside (by simp) hA (by omega))
          replace HZ := Lib.hid (HZ.out.aside (by simp) hA (by omega))
          replace HE := Lib.hid (HE.out.aside (by simp) hA (by omega))
          replace HBD := Lib.hid (below_aside HBD.out hA fun b hb => ⟨Nat.lt_of_lt_of_le hb HBD.out.size, by omega⟩)
          replace HD := Lib.hid hn
          clear hA hn
          obtain ⟨V5, hV5⟩ : ∃ V5, (V4.setCell ⟨(w3.heap.size + 1), 2, none⟩ (Value.int .i64 ce)) = V5 := ⟨_, rfl⟩
          have hA : Aside (fun b => b = (w3.heap.size + 1)) V4 V5 := by rw [← hV5]; exact (Aside.setCell (G := fun b => b = (w3.heap.size + 1)) V4 (p := ⟨(w3.heap.size + 1), 2, none⟩) (Value.int .i64 ce) rfl)
          have hn : Cel V5 (w3.heap.size + 1) [Value.string (bs n), Value.int .i64 t, Value.int .i64 ce, Value.int .i64 l, Value.string (bs d)] := by rw [← hV5]; exact (HE.out.set (o := 2) (by simp) (Value.int .i64 ce))
          rw [hV4, hV5]
          replace HX := Lib.hid (HX.out.aside (by simp) hA (by omega))
          replace HY := Lib.hid (HY.out.aside (by simp) hA (by omega))
          replace HZ := Lib.hid (HZ.out.aside (by simp) hA (by omega))
          replace HD := Lib.hid (HD.out.aside (by simp) hA (by omega))
          replace HBD := Lib.hid (below_aside HBD.out hA fun b hb => ⟨Nat.lt_of_lt_of_le hb HBD.out.size, by omega⟩)
          replace HE := Lib.hid hn
          clear hA hn hV4 hV5
          refine (HAA.out _).mono ?_; rintro e w10 ⟨rfl, hb⟩
          replace HX := Lib.hid (HX.out.below (by simp) hb)
          replace HY := Lib.hid (HY.out.below (by simp) hb)
          replace HZ := Lib.hid (HZ.out.below (by simp) hb)
          replace HBD := Lib.hid (bel_call HBD.out hb)
          replace HD := Lib.hid (HD.out.below (by simp) hb)
          replace HE := Lib.hid (HE.out.below (by simp) hb)
          clear hb
          obtain ⟨a0, a1, a2, a3, a4⟩ := HX.out.five
          obtain ⟨b0, b1, b2, b3, b4⟩ := HD.out.five
          go_wp2_with fail
          clear a0 a1 a2 a3 a4 b0 b1 b2 b3 b4
          refine (HADk.out k hk _).mono ?_; rintro e w11 ⟨rfl, hb⟩
          replace HX := Lib.hid (HX.out.below (by simp) hb)
          replace HY := Lib.hid (HY.out.below (by simp) hb)
          replace HZ := Lib.hid (HZ.out.below (by simp) hb)
          replace HBD := Lib.hid (bel_call HBD.out hb)
          replace HD := Lib.hid (HD.out.below (by simp) hb)
          replace HE := Lib.hid (HE.out.below (by simp) hb)
          clear hb
          obtain ⟨a0, a1, a2, a3, a4⟩ := HX.out.five
          obtain ⟨b0, b1, b2, b3, b4⟩ := HE.out.five
          go_wp2_with fail
          clear a0 a1 a2 a3 a4 b0 b1 b2 b3 b4
          refine (HAEk.out _).mono ?_; rintro e w12 ⟨rfl, hb⟩
          replace HX := Lib.hid (HX.out.below (by simp) hb)
          replace HY := Lib.hid (HY.out.below (by simp) hb)
          replace HZ := Lib.hid (HZ.out.below (by simp) hb)
          replace HBD := Lib.hid (bel_call HBD.out hb)
          replace HD := Lib.hid (HD.out.below (by simp) hb)
          replace HE := Lib.hid (HE.out.below (by simp) hb)
          clear hb
          obtain ⟨a0, a1, a2, a3, a4⟩ := HX.out.five
          obtain ⟨b0, b1, b2, b3, b4⟩ := HY.out.five
          go_wp2_with fail
          clear a0 a1 a2 a3 a4 b0 b1 b2 b3 b4
          refine (HAB.out _).mono ?_; rintro e w13 ⟨rfl, hb⟩
          replace HX := Lib.hid (HX.out.below (by simp) hb)
          replace HY := Lib.hid (HY.out.below (by simp) hb)
          replace HZ := Lib.hid (HZ.out.below (by simp) hb)
          replace HBD := Lib.hid (bel_call HBD.out hb)
          replace HD := Lib.hid (HD.out.below (by simp) hb)
          replace HE := Lib.hid (HE.out.below (by simp) hb)
          clear hb
          obtain ⟨a0, a1, a2, a3, a4⟩ := HX.out.five
          obtain ⟨b0, b1, b2, b3, b4⟩ := HY.out.five
          go_wp2_with fail
          go_ret
          exact ⟨rfl, HBD.out⟩
        · go_simp
          have hb : Below w3.drew.heap.size w3.drew (w3.drew.alloc (.cells #[.string ⟨#[]⟩, .int .i64 0, .int .i64 0, .int .i64 0, .string ⟨#[]⟩] 23)) := (Below.refl _ _).alloc (Nat.le_refl _) _
          have HE : Hid (Cel (w3.drew.alloc (.cells #[.string ⟨#[]⟩, .int .i64 0, .int .i64 0, .int .i64 0, .string ⟨#[]⟩] 23)) w3.heap.size [.string ⟨#[]⟩, .int .i64 0, .int .i64 0, .int .i64 0, .string ⟨#[]⟩]) := cel_new w3.drew _ _ _ _ _ _
          replace HX := Lib.hid (HX.out.below (by simp) hb)
          replace HY := Lib.hid (HY.out.below (by simp) hb)
          replace HZ := Lib.hid (HZ.out.below (by simp) hb)
          replace HBD := Lib.hid (bel_call HBD.out hb)
          clear hb
          refine hK.out _ _ HX.out.five (fun hHeld => ?_)
          clear hK K
          try simp only [Act.put, List.setIfInBounds_toArray, List.set_cons_zero, List.set_cons_succ]
          refine wpAnyH_ready (rs := [2]) (by kernel_rfl) (by simp) ?_
          refine AllReadyH.cons (o := { dst := some 10, op := Op.alloc 23, type := 0, pos := "outright.go:102", after := #[], guard := none }) rfl (fun K hK => ?_) (AllReadyH.nil)
          go_simp
          have hb : Below (w3.drew.alloc (.cells #[.string ⟨#[]⟩, .int .i64 0, .int .i64 0, .int .i64 0, .string ⟨#[]⟩] 23)).heap.size (w3.drew.alloc (.cells #[.string ⟨#[]⟩, .int .i64 0, .int .i64 0, .int .i64 0, .string ⟨#[]⟩] 23)) ((w3.drew.alloc (.cells #[.string ⟨#[]⟩, .int .i64 0, .int .i64 0, .int .i64 0, .string ⟨#[]⟩] 23)).alloc (.cells #[.string ⟨#[]⟩, .int .i64 0, .int .i64 0, .int .i64 0, .string ⟨#[]⟩] 23)) := (Below.refl _ _).alloc (Nat.le_refl _) _
          have HD : Hid (Cel ((w3.drew.alloc (.cells #[.string ⟨#[]⟩, .int .i64 0, .int .i64 0, .int .i64 0, .string ⟨#[]⟩] 23)).alloc (.cells #[.string ⟨#[]⟩, .int .i64 0, .int .i64 0, .int .i64 0, .string ⟨#[]⟩] 23)) (w3.heap.size + 1) [.string ⟨#[]⟩, .int .i64 0, .int .i64 0, .int .i64 0, .string ⟨#[]⟩]) := by have h := cel_new (w3.drew.alloc (.cells #[.string ⟨#[]⟩, .int .i64 0, .int .i64 0, .int .i64 0, .string ⟨#[]⟩] 23)) (.string ⟨#[]⟩) (.int .i64 0) (.int .i64 0) (.int .i64 0) (.string ⟨#[]⟩) 23; rw [World.size_alloc] at h; exact h
          replace HE := Lib.hid (HE.out.below (by simp) hb)
          replace HX := Lib.hid (HX.out.below (by simp) hb)
          replace HY := Lib.hid (HY.out.below (by simp) hb)
          replace HZ := Lib.hid (HZ.out.below (by simp) hb)
          replace HBD := Lib.hid (bel_call HBD.out hb)
          clear hb
          obtain ⟨V, hV⟩ : ∃ V, ((w3.alloc (.cells #[.string ⟨#[]⟩, .int .i64 0, .int .i64 0, .int .i64 0, .string ⟨#[]⟩] 23)).alloc (.cells #[.string ⟨#[]⟩, .int .i64 0, .int .i64 0, .int .i64 0, .string ⟨#[]⟩] 23)).drew = V := ⟨_, rfl⟩
          have hV2 : (w3.drew.alloc (.cells #[.string ⟨#[]⟩, .int .i64 0, .int .i64 0, .int .i64 0, .string ⟨#[]⟩] 23)).alloc (.cells #[.string ⟨#[]⟩, .int .i64 0, .int .i64 0, .int .i64 0, .string ⟨#[]⟩] 23) = V := by rw [← hV]; rfl
          rw [hV2] at HX HY HZ HBD HD HE
          first | rw [hV] | rw [hV2]
          clear hV hV2
          obtain ⟨e0, e1, e2, e3, e4⟩ := HD.out.five
          have ef0 := HD.out.fz 0
          have ef1 := HD.out.fz 1
          have ef2 := HD.out.fz 2
          have ef3 := HD.out.fz 3
          have ef4 := HD.out.fz 4
          refine hK.out _ _ HX.out.five (fun hHeld => ?_)
          clear hK K
          try simp only [Act.put, List.setIfInBounds_toArray, List.set_cons_zero, List.set_cons_succ]
          refine wpAnyH_ready (rs := [4]) (by kernel_rfl) (by simp) ?_
          refine AllReadyH.cons (o := { dst := none, op := Op.store 23 (Operand.tmp 10) (Operand.tmp 52), type := 0, pos := "outright.go:102", after := #[{ on := 2, ground := Ground.data }, { on := 0, ground := Ground.data }, { on := 0, ground := Ground.phase }, { on := 1, ground := Ground.textOnly Departure.lateStores }, { on := 2, ground := Ground.phase }, { on := 3, ground := Ground.phase }], guard := none }) rfl (fun K hK => ?_) (AllReadyH.nil)
          go_simp
          clear e0 e1 e2 e3 e4 ef0 ef1 ef2 ef3 ef4
          obtain ⟨V2, hV2⟩ : ∃ V2, (((((V.setCell ⟨(w3.heap.size + 1), 0, none⟩ (Value.string (bs n))).setCell ⟨(w3.heap.size + 1), 1, none⟩ (Value.int .i64 t)).setCell ⟨(w3.heap.size + 1), 2, none⟩ (Value.int .i64 c)).setCell ⟨(w3.heap.size + 1), 3, none⟩ (Value.int .i64 l)).setCell ⟨(w3.heap.size + 1), 4, none⟩ (Value.string (bs d))) = V2 := ⟨_, rfl⟩
          have hA : Aside (fun b => b = (w3.heap.size + 1)) V V2 := by rw [← hV2]; exact (((((Aside.setCell (G := fun b => b = (w3.heap.size + 1)) V (p := ⟨(w3.heap.size + 1), 0, none⟩) (Value.string (bs n)) rfl).trans (Aside.setCell (G := fun b => b = (w3.heap.size + 1)) (V.setCell ⟨(w3.heap.size + 1), 0, none⟩ (Value.string (bs n))) (p := ⟨(w3.heap.size + 1), 1, none⟩) (Value.int .i64 t) rfl)).trans (Aside.setCell (G := fun b => b = (w3.heap.size + 1)) ((V.setCell ⟨(w3.heap.size + 1), 0, none⟩ (Value.string (bs n))).setCell ⟨(w3.heap.size + 1), 1, none⟩ (Value.int .i64 t)) (p := ⟨(w3.heap.size + 1), 2, none⟩) (Value.int .i64 c) rfl)).trans (Aside.setCell (G := fun b => b = (w3.heap.size + 1)) (((V.setCell ⟨(w3.heap.size + 1), 0, none⟩ (Value.string (bs n))).setCell ⟨(w3.heap.size + 1), 1, none⟩ (Value.int .i64 t)).setCell ⟨(w3.heap.size + 1), 2, none⟩ (Value.int .i64 c)) (p := ⟨(w3.heap.size + 1), 3, none⟩) (Value.int .i64 l) rfl)).trans (Aside.setCell (G := fun b => b = (w3.heap.size + 1)) ((((V.setCell ⟨(w3.heap.size + 1), 0, none⟩ (Value.string (bs n))).setCell ⟨(w3.heap.size + 1), 1, none⟩ (Value.int .i64 t)).setCell ⟨(w3.heap.size + 1), 2, none⟩ (Value.int .i64 c)).setCell ⟨(w3.heap.size + 1), 3, none⟩ (Value.int .i64 l)) (p := ⟨(w3.heap.size + 1), 4, none⟩) (Value.string (bs d)) rfl))
          have hn : Cel V2 (w3.heap.size + 1) [Value.string (bs n), Value.int .i64 t, Value.int .i64 c, Value.int .i64 l, Value.string (bs d)] := by rw [← hV2]; exact (((((HD.out.set (o := 0) (by simp) (Value.string (bs n))).set (o := 1) (by simp) (Value.int .i64 t)).set (o := 2) (by simp) (Value.int .i64 c)).set (o := 3) (by simp) (Value.int .i64 l)).set (o := 4) (by simp) (Value.string (bs d)))
          rw [hV2]
          replace HX := Lib.hid (HX.out.aside (by simp) hA (by omega))
          replace HY := Lib.hid (HY.out.aside (by simp) hA (by omega))
          replace HZ := Lib.hid (HZ.out.aside (by simp) hA (by omega))
          replace HE := Lib.hid (HE.out.aside (by simp) hA (by omega))
          replace HBD := Lib.hid (below_aside HBD.out hA fun b hb => ⟨Nat.lt_of_lt_of_le hb HBD.out.size, by omega⟩)
          replace HD := Lib.hid hn
          clear hA hn hV2
          obtain ⟨e0, e1, e2, e3, e4⟩ := HE.out.five
          have ef0 := HE.out.fz 0
          have ef1 := HE.out.fz 1
          have ef2 := HE.out.fz 2
          have ef3 := HE.out.fz 3
          have ef4 := HE.out.fz 4
          refine hK.out _ _ HX.out.five (fun hHeld => ?_)
          clear hK K
          try simp only [Act.put, List.setIfInBounds_toArray, List.set_cons_zero, List.set_cons_succ]
          refine wpAnyH_ready (rs := [5]) (by kernel_rfl) (by simp) ?_
          refine AllReadyH.cons (o := { dst := none, op := Op.store 23 (Operand.tmp 11) (Operand.tmp 53), type := 0, pos := "outright.go:102", after := #[{ on := 3, ground := Ground.data }, { on := 1, ground := Ground.data }, { on := 4, ground := Ground.chain }, { on := 0, ground := Ground.phase }, { on := 1, ground := Ground.phase }, { on := 2, ground := Ground.phase }, { on := 3, ground := Ground.phase }, { on := 4, ground := Ground.phase }], guard := none }) rfl (fun K hK => ?_) (AllReadyH.nil)
          go_simp
          clear e0 e1 e2 e3 e4 ef0 ef1 ef2 ef3 ef4
          obtain ⟨V3, hV3⟩ : ∃ V3, (((((V2.setCell ⟨w3.heap.size, 0, none⟩ (Value.string (bs n))).setCell ⟨w3.heap.size, 1, none⟩ (Value.int .i64 t)).setCell ⟨w3.heap.size, 2, none⟩ (Value.int .i64 c)).setCell ⟨w3.heap.size, 3, none⟩ (Value.int .i64 l)).setCell ⟨w3.heap.size, 4, none⟩ (Value.string (bs d))) = V3 := ⟨_, rfl⟩
          have hA : Aside (fun b => b = w3.heap.size) V2 V3 := by rw [← hV3]; exact (((((Aside.setCell (G := fun b => b = w3.heap.size) V2 (p := ⟨w3.heap.size, 0, none⟩) (Value.string (bs n)) rfl).trans (Aside.setCell (G := fun b => b = w3.heap.size) (V2.setCell ⟨w3.heap.size, 0, none⟩ (Value.string (bs n))) (p := ⟨w3.heap.size, 1, none⟩) (Value.int .i64 t) rfl)).trans (Aside.setCell (G := fun b => b = w3.heap.size) ((V2.setCell ⟨w3.heap.size, 0, none⟩ (Value.string (bs n))).setCell ⟨w3.heap.size, 1, none⟩ (Value.int .i64 t)) (p := ⟨w3.heap.size, 2, none⟩) (Value.int .i64 c) rfl)).trans (Aside.setCell (G := fun b => b = w3.heap.size) (((V2.setCell ⟨w3.heap.size, 0, none⟩ (Value.string (bs n))).setCell ⟨w3.heap.size, 1, none⟩ (Value.int .i64 t)).setCell ⟨w3.heap.size, 2, none⟩ (Value.int .i64 c)) (p := ⟨w3.heap.size, 3, none⟩) (Value.int .i64 l) rfl)).trans (Aside.setCell (G := fun b => b = w3.heap.size) ((((V2.setCell ⟨w3.heap.size, 0, none⟩ (Value.string (bs n))).setCell ⟨w3.heap.size, 1, none⟩ (Value.int .i64 t)).setCell ⟨w3.heap.size, 2, none⟩ (Value.int .i64 c)).setCell ⟨w3.heap.size, 3, none⟩ (Value.int .i64 l)) (p := ⟨w3.heap.size, 4, none⟩) (Value.string (bs d)) rfl))
          have hn : Cel V3 w3.heap.size [Value.string (bs n), Value.int .i64 t, Value.int .i64 c, Value.int .i64 l, Value.string (bs d)] := by rw [← hV3]; exact (((((HE.out.set (o := 0) (by simp) (Value.string (bs n))).set (o := 1) (by simp) (Value.int .i64 t)).set (o := 2) (by simp) (Value.int .i64 c)).set (o := 3) (by simp) (Value.int .i64 l)).set (o := 4) (by simp) (Value.string (bs d)))
          rw [hV3]
          replace HX := Lib.hid (HX.out.aside (by simp) hA (by omega))
          replace HY := Lib.hid (HY.out.aside (by simp) hA (by omega))
          replace HZ := Lib.hid (HZ.out.aside (by simp) hA (by omega))
          replace HD := Lib.hid (HD.out.aside (by simp) hA (by omega))
          replace HBD := Lib.hid (below_aside HBD.out hA fun b hb => ⟨Nat.lt_of_lt_of_le hb HBD.out.size, by omega⟩)
          replace HE := Lib.hid hn
          clear hA hn hV3
          refine hK.out _ _ HX.out.five (fun hHeld => ?_)
          clear hK K
          try simp only [Act.put, List.setIfInBounds_toArray, List.set_cons_zero, List.set_cons_succ]
          refine wpAnyH_done (by kernel_rfl) ?_ _
          clear hHeld
          go_wp2_with fail
          refine (HPi.out _).mono ?_; rintro e w9 ⟨k, hk, rfl, rfl⟩
          have v3 := HD.out.c 3 (by simp)
          have vf3 := HD.out.fz 3
          have u2 := HE.out.c 2 (by simp)
          have uf2 := HE.out.fz 2
          obtain ⟨a0, a1, a2, a3, a4⟩ := HX.out.five
          go_wp2_with fail
          clear v3 vf3 u2 uf2 a0 a1 a2 a3 a4
          obtain ⟨V4, hV4⟩ : ∃ V4, (V3.setCell ⟨(w3.heap.size + 1), 3, none⟩ (Value.int .i64 (k : Int))) = V4 := ⟨_, rfl⟩
          have hA : Aside (fun b => b = (w3.heap.size + 1)) V3 V4 := by rw [← hV4]; exact (Aside.setCell (G := fun b => b = (w3.heap.size + 1)) V3 (p := ⟨(w3.heap.size + 1), 3, none⟩) (Value.int .i64 (k : Int)) rfl)
          have hn : Cel V4 (w3.heap.size + 1) [Value.string (bs n), Value.int .i64 t, Value.int .i64 c, Value.int .i64 (k : Int), Value.string (bs d)] := by rw [← hV4]; exact (HD.out.set (o := 3) (by simp) (Value.int .i64 (k : Int)))
          replace HX := Lib.hid (HX.out.aside (by simp) hA (by omega))
          replace HY := Lib.hid (HY.out.aside (by simp) hA (by omega))
          replace HZ := Lib.hid (HZ.out.aside (by simp) hA (by omega))
          replace HE := Lib.hid (HE.out.aside (by simp) hA (by omega))
          replace HBD := Lib.hid (below_aside HBD.out hA fun b hb => ⟨Nat.lt_of_lt_of_le hb HBD.out.size, by omega⟩)
          replace HD := Lib.hid hn
          clear hA hn
          obtain ⟨V5, hV5⟩ : ∃ V5, (V4.setCell ⟨w3.heap.size, 2, none⟩ (Value.int .i64 ce)) = V5 := ⟨_, rfl⟩
          have hA : Aside (fun b => b = w3.heap.size) V4 V5 := by rw [← hV5]; exact (Aside.setCell (G := fun b => b = w3.heap.size) V4 (p := ⟨w3.heap.size, 2, none⟩) (Value.int .i64 ce) rfl)
          have hn : Cel V5 w3.heap.size [Value.string (bs n), Value.int .i64 t, Value.int .i64 ce, Value.int .i64 l, Value.string (bs d)] := by rw [← hV5]; exact (HE.out.set (o := 2) (by simp) (Value.int .i64 ce))
          rw [hV4, hV5]
          replace HX := Lib.hid (HX.out.aside (by simp) hA (by omega))
          replace HY := Lib.hid (HY.out.aside (by simp) hA (by omega))
          replace HZ := Lib.hid (HZ.out.aside (by simp) hA (by omega))
          replace HD := Lib.hid (HD.out.aside (by simp) hA (by omega))
          replace HBD := Lib.hid (below_aside HBD.out hA fun b hb => ⟨Nat.lt_of_lt_of_le hb HBD.out.size, by omega⟩)
          replace HE := Lib.hid hn
          clear hA hn hV4 hV5
          refine (HAA.out _).mono ?_; rintro e w10 ⟨rfl, hb⟩
          replace HX := Lib.hid (HX.out.below (by simp) hb)
          replace HY := Lib.hid (HY.out.below (by simp) hb)
          replace HZ := Lib.hid (HZ.out.below (by simp) hb)
          replace HBD := Lib.hid (bel_call HBD.out hb)
          replace HD := Lib.hid (HD.out.below (by simp) hb)
          replace HE := Lib.hid (HE.out.below (by simp) hb)
          clear hb
          obtain ⟨a0, a1, a2, a3, a4⟩ := HX.out.five
          obtain ⟨b0, b1, b2, b3, b4⟩ := HD.out.five
          go_wp2_with fail
          clear a0 a1 a2 a3 a4 b0 b1 b2 b3 b4
          refine (HADk.out k hk _).mono ?_; rintro e w11 ⟨rfl, hb⟩
          replace HX := Lib.hid (HX.out.below (by simp) hb)
          replace HY := Lib.hid (HY.out.below (by simp) hb)
          replace HZ := Lib.hid (HZ.out.below (by simp) hb)
          replace HBD := Lib.hid (bel_call HBD.out hb)
          replace HD := Lib.hid (HD.out.below (by simp) hb)
          replace HE := Lib.hid (HE.out.below (by simp) hb)
          clear hb
          obtain ⟨a0, a1, a2, a3, a4⟩ := HX.out.five
          obtain ⟨b0, b1, b2, b3, b4⟩ := HE.out.five
          go_wp2_with fail
          clear a0 a1 a2 a3 a4 b0 b1 b2 b3 b4
          refine (HAEk.out _).mono ?_; rintro e w12 ⟨rfl, hb⟩
          replace HX := Lib.hid (HX.out.below (by simp) hb)
          replace HY := Lib.hid (HY.out.below (by simp) hb)
          replace HZ := Lib.hid (HZ.out.below (by simp) hb)
          replace HBD := Lib.hid (bel_call HBD.out hb)
          replace HD := Lib.hid (HD.out.below (by simp) hb)
          replace HE := Lib.hid (HE.out.below (by simp) hb)
          clear hb
          obtain ⟨a0, a1, a2, a3, a4⟩ := HX.out.five
          obtain ⟨b0, b1, b2, b3, b4⟩ := HY.out.five
          go_wp2_with fail
          clear a0 a1 a2 a3 a4 b0 b1 b2 b3 b4
          refine (HAB.out _).mono ?_; rintro e w13 ⟨rfl, hb⟩
          replace HX := Lib.hid (HX.out.below (by simp) hb)
          replace HY := Lib.hid (HY.out.below (by simp) hb)
          replace HZ := Lib.hid (HZ.out.below (by simp) hb)
          replace HBD := Lib.hid (bel_call HBD.out hb)
          replace HD := Lib.hid (HD.out.below (by simp) hb)
          replace HE := Lib.hid (HE.out.below (by simp) hb)
          clear hb
          obtain ⟨a0, a1, a2, a3, a4⟩ := HX.out.five
          obtain ⟨b0, b1, b2, b3, b4⟩ := HY.out.five
          go_wp2_with fail
          go_ret
          exact ⟨rfl, HBD.out⟩
      · obtain ⟨C, hC⟩ : ∃ C, chkC ⟨n, t, c, l, d⟩ = C := ⟨_, rfl⟩
        rw [hC] at HCk hC0
        have tC : (C != 0) = true := by simpa using hC0
        clear hC hC0 hAB
        go_enter Try.func7, Try.ntmps7
        go_wp2_with fail
        refine (HAW.out _).mono ?_; rintro e w1 ⟨rfl, hb⟩
        replace HX := Lib.hid (HX.out.below (by simp) hb)
        replace HY := Lib.hid (HY.out.below (by simp) hb)
        replace HZ := Lib.hid (HZ.out.below (by simp) hb)
        replace HBD := Lib.hid (bel_call HBD.out hb)
        clear hb
        obtain ⟨a0, a1, a2, a3, a4⟩ := HX.out.five
        obtain ⟨b0, b1, b2, b3, b4⟩ := HY.out.five
        obtain ⟨f0, f1, f2, f3, f4⟩ := HZ.out.five
        have HBG := Lib.hid (big_three (w := w1) n t c l d n2 t2 c2 l2 d2 n3 t3 c3 l3 d3)
        have hb : Below w1.heap.size w1 (w1.alloc (.cells #[.string (bs n), .int .i64 t, .int .i64 c, .int .i64 l, .string (bs d), .string (bs n2), .int .i64 t2, .int .i64 c2, .int .i64 l2, .string (bs d2), .string (bs n3), .int .i64 t3, .int .i64 c3, .int .i64 l3, .string (bs d3)] 23)) := (Below.refl _ _).alloc (Nat.le_refl _) _
        replace HX := Lib.hid (HX.out.below (by simp) hb)
        replace HY := Lib.hid (HY.out.below (by simp) hb)
        replace HZ := Lib.hid (HZ.out.below (by simp) hb)
        replace HBD := Lib.hid (bel_call HBD.out hb)
        clear hb
        rw [hbig] at HBG
        go_wp2_with fail
        refine HBG.out.mono ?_; rintro e w2 ⟨rfl, rfl⟩
        clear a0 a1 a2 a3 a4 b0 b1 b2 b3 b4 f0 f1 f2 f3 f4
        have hb := (Below.refl (w1.alloc (.cells #[.string (bs n), .int .i64 t, .int .i64 c, .int .i64 l, .string (bs d), .string (bs n2), .int .i64 t2, .int .i64 c2, .int .i64 l2, .string (bs d2), .string (bs n3), .int .i64 t3, .int .i64 c3, .int .i64 l3, .string (bs d3)] 23)).heap.size (w1.alloc (.cells #[.string (bs n), .int .i64 t, .int .i64 c, .int .i64 l, .string (bs d), .string (bs n2), .int .i64 t2, .int .i64 c2, .int .i64 l2, .string (bs d2), .string (bs n3), .int .i64 t3, .int .i64 c3, .int .i64 l3, .string (bs d3)] 23))).drew
        replace HX := Lib.hid (HX.out.below (by simp) hb)
        replace HY := Lib.hid (HY.out.below (by simp) hb)
        replace HZ := Lib.hid (HZ.out.below (by simp) hb)
        replace HBD := Lib.hid (bel_call HBD.out hb)
        clear hb
        go_wp2_with fail
        refine wp_region_held_drew (S := (fun wx => (wx.cell? ⟨g, 0, none⟩ = some (.string (bs n)) ∧ wx.cell? ⟨g, 1, none⟩ = some (.int .i64 t) ∧ wx.cell? ⟨g, 2, none⟩ = some (.int .i64 c) ∧ wx.cell? ⟨g, 3, none⟩ = some (.int .i64 l) ∧ wx.cell? ⟨g, 4, none⟩ = some (.string (bs d))) ∧ (wx.cell? ⟨g + 1, 0, none⟩ = some (.string (bs n2)) ∧ wx.cell? ⟨g + 1, 1, none⟩ = some (.int .i64 t2) ∧ wx.cell? ⟨g + 1, 2, none⟩ = some (.int .i64 c2) ∧ wx.cell? ⟨g + 1, 3, none⟩ = some (.int .i64 l2) ∧ wx.cell? ⟨g + 1, 4, none⟩ = some (.string (bs d2))) ∧ (wx.cell? ⟨g + 2, 0, none⟩ = some (.string (bs n3)) ∧ wx.cell? ⟨g + 2, 1, none⟩ = some (.int .i64 t3) ∧ wx.cell? ⟨g + 2, 2, none⟩ = some (.int .i64 c3) ∧ wx.cell? ⟨g + 2, 3, none⟩ = some (.int .i64 l3) ∧ wx.cell? ⟨g + 2, 4, none⟩ = some (.string (bs d3))))) (by kernel_rfl) ⟨HX.out.five, HY.out.five, HZ.out.five⟩ (fun hHeld => ?_)
        refine wpAnyH_take (i := 0) (oi := { dst := some 19, op := Op.load 23 (Operand.tmp 4), type := 23, pos := "outright.go:96", after := #[], guard := none }) (v := ?_) rfl (by kernel_rfl) (by kernel_rfl) (by kernel_rfl) (fun _ _ _ h => h) (Or.inl ⟨by rfl, ?_⟩) (by assumption) ?_
        rotate_left 1
        · intro w hSw; (try dsimp only at hSw); go_simp; try (with_reducible rfl)
        try simp only [Act.put, List.setIfInBounds_toArray, List.set_cons_zero, List.set_cons_succ]
        refine wpAnyH_take (i := 1) (oi := { dst := some 20, op := Op.load 23 (Operand.tmp 5), type := 23, pos := "outright.go:96", after := #[], guard := none }) (v := ?_) rfl (by kernel_rfl) (by kernel_rfl) (by kernel_rfl) (fun _ _ _ h => h) (Or.inl ⟨by rfl, ?_⟩) (by assumption) ?_
        rotate_left 1
        · intro w hSw; (try dsimp only at hSw); go_simp; try (with_reducible rfl)
        try simp only [Act.put, List.setIfInBounds_toArray, List.set_cons_zero, List.set_cons_succ]
        refine wpAnyH_take (i := 3) (oi := { dst := some 22, op := Op.load 23 (Operand.tmp 5), type := 23, pos := "outright.go:96", after := #[], guard := none }) (v := ?_) rfl (by kernel_rfl) (by kernel_rfl) (by kernel_rfl) (fun _ _ _ h => h) (Or.inl ⟨by rfl, ?_⟩) (by assumption) ?_
        rotate_left 1
        · intro w hSw; (try dsimp only at hSw); go_simp; try (with_reducible rfl)
        try simp only [Act.put, List.setIfInBounds_toArray, List.set_cons_zero, List.set_cons_succ]
        refine wpAnyH_take (i := 4) (oi := { dst := some 23, op := Op.load 23 (Operand.tmp 4), type := 23, pos := "outright.go:96", after := #[], guard := none }) (v := ?_) rfl (by kernel_rfl) (by kernel_rfl) (by kernel_rfl) (fun _ _ _ h => h) (Or.inl ⟨by rfl, ?_⟩) (by assumption) ?_
        rotate_left 1
        · intro w hSw; (try dsimp only at hSw); go_simp; try (with_reducible rfl)
        try simp only [Act.put, List.setIfInBounds_toArray, List.set_cons_zero, List.set_cons_succ]
        refine wpAnyH_ready (rs := [2]) (by kernel_rfl) (by simp) ?_
        refine AllReadyH.cons (o := { dst := some 21, op := Op.call { callee := Callee.value (Operand.func 12), args := #[Operand.tmp 19, Operand.tmp 20], argTypes := #[23, 23] }, type := 4, pos := "outright.go:96", after := #[{ on := 0, ground := Ground.data }, { on := 1, ground := Ground.data }], guard := none }) rfl (fun K hK => ?_) (AllReadyH.nil)
        go_simp
        refine (HAB.out _).mono ?_; rintro e w1 ⟨rfl, hb⟩
        replace HX := Lib.hid (HX.out.below (by simp) hb)
        replace HY := Lib.hid (HY.out.below (by simp) hb)
        replace HZ := Lib.hid (HZ.out.below (by simp) hb)
        replace HBD := Lib.hid (bel_call HBD.out hb)
        clear hb
        try go_wp2_with fail
        refine hK.out _ _ ⟨HX.out.five, HY.out.five, HZ.out.five⟩ (fun hHeld => ?_)
        clear hK K
        try simp only [Act.put, List.setIfInBounds_toArray, List.set_cons_zero, List.set_cons_succ]
        refine wpAnyH_ready (rs := [5]) (by kernel_rfl) (by simp) ?_
        refine AllReadyH.cons (o := { dst := some 24, op := Op.call { callee := Callee.value (Operand.func 12), args := #[Operand.tmp 22, Operand.tmp 23], argTypes := #[23, 23] }, type := 4, pos := "outright.go:96", after := #[{ on := 3, ground := Ground.data }, { on := 4, ground := Ground.data }, { on := 2, ground := Ground.chain }], guard := none }) rfl (fun K hK => ?_) (AllReadyH.nil)
        go_simp
        refine (HBA.out _).mono ?_; rintro e w1 ⟨rfl, hb⟩
        replace HX := Lib.hid (HX.out.below (by simp) hb)
        replace HY := Lib.hid (HY.out.below (by simp) hb)
        replace HZ := Lib.hid (HZ.out.below (by simp) hb)
        replace HBD := Lib.hid (bel_call HBD.out hb)
        clear hb
        try go_wp2_with fail
        refine hK.out _ _ ⟨HX.out.five, HY.out.five, HZ.out.five⟩ (fun hHeld => ?_)
        clear hK K
        try simp only [Act.put, List.setIfInBounds_toArray, List.set_cons_zero, List.set_cons_succ]
        refine wpAnyH_take (i := 6) (oi := { dst := some 25, op := Op.binOp BinOp.neq 4 (Operand.tmp 21) (Operand.tmp 24) 4, type := 4, pos := "outright.go:96", after := #[{ on := 2, ground := Ground.data }, { on := 5, ground := Ground.data }], guard := none }) (v := ?_) rfl (by kernel_rfl) (by kernel_rfl) (by kernel_rfl) (fun _ _ _ h => h) (Or.inl ⟨by rfl, ?_⟩) (by assumption) ?_
        rotate_left 1
        · intro w hSw; (try dsimp only at hSw); go_simp; try (with_reducible rfl)
        try simp only [Act.put, List.setIfInBounds_toArray, List.set_cons_zero, List.set_cons_succ]
        refine wpAnyH_take (i := 7) (oi := { dst := some 26, op := Op.move (Operand.tmp 25), type := 4, pos := "outright.go:96", after := #[{ on := 6, ground := Ground.data }, { on := 5, ground := Ground.chain }], guard := none }) (v := ?_) rfl (by kernel_rfl) (by kernel_rfl) (by kernel_rfl) (fun _ _ _ h => h) (Or.inl ⟨by rfl, ?_⟩) (by assumption) ?_
        rotate_left 1
        · intro w hSw; (try dsimp only at hSw); go_simp; try (with_reducible rfl)
        try simp only [Act.put, List.setIfInBounds_toArray, List.set_cons_zero, List.set_cons_succ]
        refine wpAnyH_take (i := 8) (oi := { dst := some 27, op := Op.load 23 (Operand.tmp 4), type := 23, pos := "outright.go:96", after := #[{ on := 7, ground := Ground.guard }], guard := some (7, false) }) (v := ?_) rfl (by kernel_rfl) (by kernel_rfl) (by kernel_rfl) (fun _ _ _ h => h) (Or.inl ⟨by rfl, ?_⟩) (by assumption) ?_
        rotate_left 1
        · intro w hSw; (try dsimp only at hSw); go_simp; try (with_reducible rfl)
        try simp only [Act.put, List.setIfInBounds_toArray, List.set_cons_zero, List.set_cons_succ]
        refine wpAnyH_take (i := 9) (oi := { dst := some 28, op := Op.load 23 (Operand.tmp 5), type := 23, pos := "outright.go:96", after := #[{ on := 7, ground := Ground.guard }], guard := some (7, false) }) (v := ?_) rfl (by kernel_rfl) (by kernel_rfl) (by kernel_rfl) (fun _ _ _ h => h) (Or.inl ⟨by rfl, ?_⟩) (by assumption) ?_
        rotate_left 1
        · intro w hSw; (try dsimp only at hSw); go_simp; try (with_reducible rfl)
        try simp only [Act.put, List.setIfInBounds_toArray, List.set_cons_zero, List.set_cons_succ]
        refine wpAnyH_ready (rs := [10]) (by kernel_rfl) (by simp) ?_
        refine AllReadyH.cons (o := { dst := some 29, op := Op.call { callee := Callee.value (Operand.func 12), args := #[Operand.tmp 27, Operand.tmp 28], argTypes := #[23, 23] }, type := 4, pos := "outright.go:96", after := #[{ on := 8, ground := Ground.data }, { on := 9, ground := Ground.data }, { on := 7, ground := Ground.chain }, { on := 7, ground := Ground.guard }], guard := some (7, false) }) rfl (fun K hK => ?_) (AllReadyH.nil)
        go_simp
        refine (HAB.out _).mono ?_; rintro e w1 ⟨rfl, hb⟩
        replace HX := Lib.hid (HX.out.below (by simp) hb)
        replace HY := Lib.hid (HY.out.below (by simp) hb)
        replace HZ := Lib.hid (HZ.out.below (by simp) hb)
        replace HBD := Lib.hid (bel_call HBD.out hb)
        clear hb
        try go_wp2_with fail
        refine hK.out _ _ ⟨HX.out.five, HY.out.five, HZ.out.five⟩ (fun hHeld => ?_)
        clear hK K
        try simp only [Act.put, List.setIfInBounds_toArray, List.set_cons_zero, List.set_cons_succ]
        refine wpAnyH_take (i := 11) (oi := { dst := some 30, op := Op.move (Operand.tmp 29), type := 4, pos := "outright.go:96", after := #[{ on := 10, ground := Ground.data }, { on := 10, ground := Ground.chain }, { on := 7, ground := Ground.guard }], guard := some (7, false) }) (v := ?_) rfl (by kernel_rfl) (by kernel_rfl) (by kernel_rfl) (fun _ _ _ h => h) (Or.inl ⟨by rfl, ?_⟩) (by assumption) ?_
        rotate_left 1
        · intro w hSw; (try dsimp only at hSw); go_simp; try (with_reducible rfl)
        try simp only [Act.put, List.setIfInBounds_toArray, List.set_cons_zero, List.set_cons_succ]
        refine wpAnyH_take (i := 12) (oi := { dst := some 31, op := Op.load 23 (Operand.tmp 5), type := 23, pos := "outright.go:96", after := #[{ on := 11, ground := Ground.guard }], guard := some (11, true) }) (v := undef) rfl (by kernel_rfl) (by kernel_rfl) (by kernel_rfl) (fun _ _ _ h => h) (Or.inr ⟨by rfl, rfl⟩) (by assumption) ?_
        try simp only [Act.put, List.setIfInBounds_toArray, List.set_cons_zero, List.set_cons_succ]
        refine wpAnyH_take (i := 13) (oi := { dst := some 32, op := Op.load 23 (Operand.tmp 6), type := 23, pos := "outright.go:96", after := #[{ on := 11, ground := Ground.guard }], guard := some (11, true) }) (v := undef) rfl (by kernel_rfl) (by kernel_rfl) (by kernel_rfl) (fun _ _ _ h => h) (Or.inr ⟨by rfl, rfl⟩) (by assumption) ?_
        try simp only [Act.put, List.setIfInBounds_toArray, List.set_cons_zero, List.set_cons_succ]
        refine wpAnyH_take (i := 14) (oi := { dst := some 33, op := Op.call { callee := Callee.value (Operand.func 12), args := #[Operand.tmp 31, Operand.tmp 32], argTypes := #[23, 23] }, type := 4, pos := "outright.go:96", after := #[{ on := 12, ground := Ground.data }, { on := 13, ground := Ground.data }, { on := 11, ground := Ground.chain }, { on := 11, ground := Ground.guard }], guard := some (11, true) }) (v := undef) rfl (by kernel_rfl) (by kernel_rfl) (by kernel_rfl) (fun _ _ _ h => h) (Or.inr ⟨by rfl, rfl⟩) (by assumption) ?_
        try simp only [Act.put, List.setIfInBounds_toArray, List.set_cons_zero, List.set_cons_succ]
        refine wpAnyH_take (i := 15) (oi := { dst := some 34, op := Op.pick (Operand.tmp 30) (Operand.tmp 33) (Operand.const (Value.bool false)), type := 4, pos := "outright.go:96", after := #[{ on := 11, ground := Ground.data }, { on := 14, ground := Ground.data }, { on := 7, ground := Ground.guard }], guard := some (7, false) }) (v := ?_) rfl (by kernel_rfl) (by kernel_rfl) (by kernel_rfl) (fun _ _ _ h => h) (Or.inl ⟨by rfl, ?_⟩) (by assumption) ?_
        rotate_left 1
        · intro w hSw; (try dsimp only at hSw); go_simp; try (with_reducible rfl)
        try simp only [Act.put, List.setIfInBounds_toArray, List.set_cons_zero, List.set_cons_succ]
        refine wpAnyH_take (i := 16) (oi := { dst := some 35, op := Op.move (Operand.tmp 34), type := 4, pos := "outright.go:96", after := #[{ on := 15, ground := Ground.data }, { on := 14, ground := Ground.chain }, { on := 7, ground := Ground.guard }], guard := some (7, false) }) (v := ?_) rfl (by kernel_rfl) (by kernel_rfl) (by kernel_rfl) (fun _ _ _ h => h) (Or.inl ⟨by rfl, ?_⟩) (by assumption) ?_
        rotate_left 1
        · intro w hSw; (try dsimp only at hSw); go_simp; try (with_reducible rfl)
        try simp only [Act.put, List.setIfInBounds_toArray, List.set_cons_zero, List.set_cons_succ]
        refine wpAnyH_take (i := 17) (oi := { dst := some 36, op := Op.load 23 (Operand.tmp 4), type := 23, pos := "outright.go:96", after := #[{ on := 16, ground := Ground.guard }], guard := some (16, true) }) (v := undef) rfl (by kernel_rfl) (by kernel_rfl) (by kernel_rfl) (fun _ _ _ h => h) (Or.inr ⟨by rfl, rfl⟩) (by assumption) ?_
        try simp only [Act.put, List.setIfInBounds_toArray, List.set_cons_zero, List.set_cons_succ]
        refine wpAnyH_take (i := 18) (oi := { dst := some 37, op := Op.load 23 (Operand.tmp 6), type := 23, pos := "outright.go:96", after := #[{ on := 16, ground := Ground.guard }], guard := some (16, true) }) (v := undef) rfl (by kernel_rfl) (by kernel_rfl) (by kernel_rfl) (fun _ _ _ h => h) (Or.inr ⟨by rfl, rfl⟩) (by assumption) ?_
        try simp only [Act.put, List.setIfInBounds_toArray, List.set_cons_zero, List.set_cons_succ]
        refine wpAnyH_take (i := 19) (oi := { dst := some 38, op := Op.call { callee := Callee.value (Operand.func 12), args := #[Operand.tmp 36, Operand.tmp 37], argTypes := #[23, 23] }, type := 4, pos := "outright.go:96", after := #[{ on := 17, ground := Ground.data }, { on := 18, ground := Ground.data }, { on := 16, ground := Ground.chain }, { on := 16, ground := Ground.guard }], guard := some (16, true) }) (v := undef) rfl (by kernel_rfl) (by kernel_rfl) (by kernel_rfl) (fun _ _ _ h => h) (Or.inr ⟨by rfl, rfl⟩) (by assumption) ?_
        try simp only [Act.put, List.setIfInBounds_toArray, List.set_cons_zero, List.set_cons_succ]
        refine wpAnyH_take (i := 20) (oi := { dst := some 39, op := Op.unOp UnOp.not 4 (Operand.tmp 38), type := 4, pos := "outright.go:96", after := #[{ on := 19, ground := Ground.data }, { on := 16, ground := Ground.guard }], guard := some (16, true) }) (v := undef) rfl (by kernel_rfl) (by kernel_rfl) (by kernel_rfl) (fun _ _ _ h => h) (Or.inr ⟨by rfl, rfl⟩) (by assumption) ?_
        try simp only [Act.put, List.setIfInBounds_toArray, List.set_cons_zero, List.set_cons_succ]
        refine wpAnyH_take (i := 21) (oi := { dst := some 40, op := Op.pick (Operand.tmp 35) (Operand.tmp 39) (Operand.const (Value.bool false)), type := 4, pos := "outright.go:96", after := #[{ on := 16, ground := Ground.data }, { on := 20, ground := Ground.data }, { on := 7, ground := Ground.guard }], guard := some (7, false) }) (v := ?_) rfl (by kernel_rfl) (by kernel_rfl) (by kernel_rfl) (fun _ _ _ h => h) (Or.inl ⟨by rfl, ?_⟩) (by assumption) ?_
        rotate_left 1
        · intro w hSw; (try dsimp only at hSw); go_simp; try (with_reducible rfl)
        try simp only [Act.put, List.setIfInBounds_toArray, List.set_cons_zero, List.set_cons_succ]
        refine wpAnyH_take (i := 22) (oi := { dst := some 41, op := Op.pick (Operand.tmp 26) (Operand.const (Value.bool true)) (Operand.tmp 40), type := 4, pos := "outright.go:96", after := #[{ on := 7, ground := Ground.data }, { on := 21, ground := Ground.data }], guard := none }) (v := ?_) rfl (by kernel_rfl) (by kernel_rfl) (by kernel_rfl) (fun _ _ _ h => h) (Or.inl ⟨by rfl, ?_⟩) (by assumption) ?_
        rotate_left 1
        · intro w hSw; (try dsimp only at hSw); go_simp; try (with_reducible rfl)
        try simp only [Act.put, List.setIfInBounds_toArray, List.set_cons_zero, List.set_cons_succ]
        refine wpAnyH_done (by kernel_rfl) ?_ _
        clear hHeld
        obtain ⟨a0, a1, a2, a3, a4⟩ := HX.out.five
        go_wp2_with fail
        refine (HCk.out _).mono ?_; rintro e w3 ⟨rfl, hb⟩
        replace HX := Lib.hid (HX.out.below (by simp) hb)
        replace HY := Lib.hid (HY.out.below (by simp) hb)
        replace HZ := Lib.hid (HZ.out.below (by simp) hb)
        replace HBD := Lib.hid (bel_call HBD.out hb)
        clear hb
        clear a0 a1 a2 a3 a4
        obtain ⟨a0, a1, a2, a3, a4⟩ := HX.out.five
        obtain ⟨b0, b1, b2, b3, b4⟩ := HY.out.five
        go_wp2_with fail
        refine (HAB.out _).mono ?_; rintro e w4 ⟨rfl, hb⟩
        replace HX := Lib.hid (HX.out.below (by simp) hb)
        replace HY := Lib.hid (HY.out.below (by simp) hb)
        replace HZ := Lib.hid (HZ.out.below (by simp) hb)
        replace HBD := Lib.hid (bel_call HBD.out hb)
        clear hb
        clear a0 a1 a2 a3 a4 b0 b1 b2 b3 b4
        go_wp2_with fail
        go_ret
        exact ⟨rfl, HBD.out⟩
end Go.Proofs.Ytaikpgcmcmkdcaa
