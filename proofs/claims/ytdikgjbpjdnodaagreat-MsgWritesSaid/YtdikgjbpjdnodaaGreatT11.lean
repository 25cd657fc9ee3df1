/-
  Read.
-/
import Derived.Test.YtdikgjbpjdnodaaGreatT09
import Derived.Test.YtdikgjbpjdnodaaGreatT02
import Derived.Test.YtdikgjbpjdnodaaGreatT05
import Derived.Test.YtdikgjbpjdnodaaGreatT03
import Derived.Test.YtdikgjbpjdnodaaGreatT10
namespace Go.Proofs.YtdikgjbpjdnodaaGreat
open Go.RowKit Go.Shelf
set_option linter.unusedVariables false
set_option linter.unusedSimpArgs false
set_option maxRecDepth 100000

/-- How long what is read may be. -/
theorem go_len {F : Nat → Got} {b : List UInt8} {s e : Nat} (hF : ∀ p, (F p).2.2.1 = 0 → (F p).1.length ≤ 255) : ∀ (ks : List PK) (p : Nat) (acc L : List Pc), goP F b s e ks p acc = .ok L → (joined L).length ≤ (joined acc).length + ks.length * (b.length + 255) ∧ L.length = acc.length + ks.length
  | [], p, acc, L, h => by
    rw [goP] at h
    split at h
    · simp at h
    · injection h with h; subst h; simp
  | k :: ks, p, acc, L, h => by
    rw [goP] at h
    split at h
    · rename_i x q hx
      have hlen : x.1.length ≤ b.length + 255 := by
        have hcut : ∀ q', cutP b s e p q' = .ok x q → x.1.length ≤ b.length + 255 := by
          intro q' hq
          unfold cutP at hq
          split at hq
          · simp at hq
          · injection hq with h1 h2
            subst h1
            simp only [List.length_take, List.length_drop]
            omega
        cases k with
        | fix n => exact hcut _ hx
        | nam =>
          simp only [stepP] at hx
          split at hx
          · simp at hx
          · split at hx
            · simp at hx
            · rename_i h0
              split at hx
              · simp at hx
              · injection hx with h1 h2
                subst h1
                have := hF p (by simpa using h0)
                show (F p).1.length ≤ _
                omega
        | txt =>
          rw [txR_step] at hx
          cases hy : txE b e (e + 1) p with
          | none => rw [hy] at hx; simp [txR] at hx
          | some y => rw [hy] at hx; exact hcut _ hx
        | rst => exact hcut _ hx
      obtain ⟨h1, h2⟩ := go_len hF ks q (acc ++ [x]) L h
      rw [joined_app, List.length_append] at h1
      have h3 : joined [x] = x.1 := by simp [joined]
      rw [h3] at h1
      rw [List.length_append] at h2
      simp only [List.length_cons, List.length_nil] at h2 ⊢
      refine ⟨?_, by omega⟩
      rw [Nat.add_mul]
      omega
    · simp at h

theorem rda_len (b : List UInt8) (p : Nat) (h : (rda b p).2.2.1 = 0) : (rda b p).1.length ≤ 255 := (chk_pos (rda_fine b p h).1).2

theorem rdR_byt (b : List UInt8) (a size t : Int) (h : ¬ (t < 0 ∨ 65535 < t ∨ size < 0 ∨ 65535 < size)) :
    rdR b a size t = if bytE b.length a size ≠ 0 then .bad (bytE b.length a size) (bytA b.length a size).toNat else goP (fun p => rda b p) b a.toNat (a.toNat + size.toNat) (kinds t) a.toNat [] := by
  have e0 : rdR b a size t = if a < 0 ∨ (b.length : Int) < a then .bad 5 0 else if (b.length : Int) < a + size then .bad 4 b.length else goP (fun p => rda b p) b a.toNat (a.toNat + size.toNat) (kinds t) a.toNat [] := by unfold rdR; rw [if_neg h]
  rw [e0]
  by_cases h1 : a < 0 ∨ (b.length : Int) < a
  · have e1 : bytE b.length a size = 5 := by unfold bytE; rw [if_neg (by omega), if_pos h1]
    have e2 : bytA b.length a size = 0 := by unfold bytA; rw [if_neg (by omega)]
    rw [if_pos h1, e1, e2, if_pos (by decide)]; rfl
  · rw [if_neg h1]
    by_cases h2 : (b.length : Int) < a + size
    · have e1 : bytE b.length a size = 4 := by unfold bytE; rw [if_neg (by omega), if_neg h1, if_pos h2]
      have e2 : bytA b.length a size = b.length := by unfold bytA; rw [if_pos (by omega)]
      rw [if_pos h2, e1, e2, if_pos (by decide)]; rfl
    · have e1 : bytE b.length a size = 0 := by unfold bytE; rw [if_neg (by omega), if_neg h1, if_neg h2]
      rw [if_neg h2, e1, if_neg (by simp)]

theorem aside_set2 (w : World) (g : Nat) (x y : Value) : Aside (fun b => b = g) w ((w.setCell ⟨g, 0, none⟩ x).setCell ⟨g, 1, none⟩ y) :=
  (Aside.setCell (G := fun b => b = g) w (p := ⟨g, 0, none⟩) x rfl).trans (Aside.setCell (G := fun b => b = g) _ (p := ⟨g, 1, none⟩) y rfl)

set_option maxHeartbeats 4000000 in
theorem readD_any {w : World} {lo hi : Nat} {v : Value} {b : List UInt8} (hS : Sl w lo hi v (iz b)) (hhi : hi ≤ w.heap.size) (hbl : b.length ≤ 300000) (a size t : Int) (ht : (Lit.int .i64 t).wf = true) :
    Calls Tryz.prog 139 #[v, .int .i64 a, .int .i64 size, .int .i64 t] w (Tells w (.tuple #[.string (bs (joined (rdR b a size t).pcs)), .agg #[.int .i64 (rdR b a size t).code, .int .i64 (rdR b a size t).place]])) := by
  have hb0 : Below w.heap.size w (w.alloc (.cells #[.int .i64 0, .int .i64 0] 43)) := (Below.refl _ _).alloc (Nat.le_refl _) _
  have HB0 := Lib.hid hb0
  have hS2 := hS
  obtain ⟨av, cv, rfl, _⟩ := hS
  replace hS2 : Sl w lo hi (.slice av b.length cv) (iz b) := by rw [iz_len] at hS2; exact hS2
  rw [iz_len]
  by_cases harg : t < 0 ∨ 65535 < t ∨ size < 0 ∨ 65535 < size
  · have e : rdR b a size t = .bad 2 0 := by unfold rdR; rw [if_pos harg]
    rw [e]
    show Calls _ _ _ _ (Tells w (.tuple #[.string (bs []), .agg #[.int .i64 2, .int .i64 0]]))
    by_cases ht1 : t < 0 ∨ 65535 < t
    · have HT := Lib.hid (fun wx => bounded_no t ht1 wx)
      clear harg e ht1
      go_enter Tryz.func139, Tryz.ntmps139
      go_wp2_with fail
      refine (HT.out _).mono ?_; rintro e w1 ⟨rfl, rfl⟩
      go_wp2_with fail
      exact bodyPost_ret (by simp [results, Tryz.results139, go_sem]; rfl) rfl ⟨rfl, (Below.refl _ _).alloc (Nat.le_refl _) _⟩
    · have HT := Lib.hid (fun wx => bounded_yes t (by omega) (by omega) wx)
      have HT2 := Lib.hid (fun wx => bounded_no size (by omega) wx)
      clear harg e ht1
      go_enter Tryz.func139, Tryz.ntmps139
      go_wp2_with fail
      refine (HT.out _).mono ?_; rintro e w1 ⟨rfl, rfl⟩
      go_wp2_with fail
      refine (HT2.out _).mono ?_; rintro e w1 ⟨rfl, rfl⟩
      go_wp2_with fail
      exact bodyPost_ret (by simp [results, Tryz.results139, go_sem]; rfl) rfl ⟨rfl, (Below.refl _ _).alloc (Nat.le_refl _) _⟩
  · have HT := Lib.hid (fun wx => bounded_yes t (by omega) (by omega) wx)
    have HT2 := Lib.hid (fun wx => bounded_yes size (by omega) (by omega) wx)
    have HBy := Lib.hid (bytes_any (hS2.below hb0 hhi) (by rw [iz_len]; omega) (Nat.le_trans hhi hb0.size) a size (by omega))
    rw [iz_len] at HBy
    rw [rdR_byt b a size t harg]
    by_cases hE : bytE b.length a size = 0
    · rw [if_neg (by simpa using hE)]
      have hin : 0 ≤ a ∧ 0 ≤ size ∧ a + size ≤ b.length := by
        unfold bytE at hE
        split at hE
        · simp at hE
        · split at hE
          · simp at hE
          · split at hE
            · simp at hE
            · omega
      obtain ⟨p, rfl⟩ : ∃ p : Nat, a = p := ⟨a.toNat, by omega⟩
      obtain ⟨m, rfl⟩ : ∃ m : Nat, size = m := ⟨size.toNat, by omega⟩
      have hA : bytA b.length p m = 0 := by unfold bytA; rw [if_neg (by omega)]
      have hF : bytF b.length p m = ((p + m : Nat) : Int) := by unfold bytF; rw [if_pos (by omega)]; push_cast; rfl
      rw [hE, hA, hF] at HBy
      rw [Int.toNat_natCast, Int.toNat_natCast]
      obtain ⟨q, hq⟩ : ∃ q, p + m = q := ⟨_, rfl⟩
      rw [hq] at HBy ⊢
      have HRd := Lib.hid (fun wx (hb : Below w.heap.size w wx) => read_read (s := p) (p := p) (e := q) (F := fun p => rda b p) t ht (hS2.below hb hhi) (Nat.le_trans hhi hb.size) (by omega) (by omega) (by omega) fun wy hs hh p => read_any hs hh (by omega) p)
      have HGl := Lib.hid (fun L (h : goP (fun p => rda b p) b p q (kinds t) p [] = .ok L) => go_len (F := fun p => rda b p) (b := b) (s := p) (e := q) (fun p h => rda_len b p h) (kinds t) p [] L h)
      have HK3 := Lib.hid (kinds_small t).1
      obtain ⟨R, hR⟩ : ∃ R, goP (fun p => rda b p) b p q (kinds t) p [] = R := ⟨_, rfl⟩
      rw [hR] at HRd HGl ⊢
      have HJ : Hid (∀ wx B v, OwnP wx B v R.pcs → Calls Tryz.prog 146 #[v] wx (Tells wx (.string (bs (joined R.pcs))))) := by
        intro wx B v hown
        refine joinP_any hown ?_ ?_
        · rcases R with L | ⟨c, aa⟩
          · obtain ⟨h1, h2⟩ := HGl.out L rfl
            have hk := HK3.out
            show (joined L).length ≤ _
            have h3 : (joined ([] : List Pc)).length = 0 := rfl
            have h4 : (kinds t).length * (b.length + 255) ≤ 3 * (b.length + 255) := Nat.mul_le_mul_right _ hk
            omega
          · show (joined []).length ≤ _; simp [joined]
        · rcases R with L | ⟨c, aa⟩
          · obtain ⟨h1, h2⟩ := HGl.out L rfl
            have hk := HK3.out
            show L.length ≤ _
            simp at h2
            omega
          · simp [RR.pcs]
      clear harg hE hin hA hF hq hR HGl hS2
      go_enter Tryz.func139, Tryz.ntmps139
      go_wp2_with fail
      refine (HT.out _).mono ?_; rintro e w1 ⟨rfl, rfl⟩
      go_wp2_with fail
      refine (HT2.out _).mono ?_; rintro e w1 ⟨rfl, rfl⟩
      go_wp2_with fail
      refine HBy.out.mono ?_; rintro e w1 ⟨v1, g1, rfl, _, _, _, hb1⟩
      simp only [World.size_alloc] at hb1
      have HB1 := Lib.hid hb1
      have hlt := below_lt hb1
      obtain ⟨k0, k1, k3⟩ := res_cells hb1
      have HBW := Lib.hid (HB0.out.trans (hb1.mono (Nat.le_succ _)))
      have HR2 := Lib.hid (HRd.out (w1.alloc (.cells #[.int .i64 0, .int .i64 0] 43)) (bel_alloc HBW.out _))
      clear hb1
      go_wp2_with fail
      refine HR2.out.mono ?_; rintro e w3 ⟨v3, rfl, hown, hb3⟩
      simp only [World.size_alloc] at hown
      have m0 : w3.cell? ⟨w1.heap.size, 0, none⟩ = some (.int .i64 0) := cell_later hb3 (by simp [go_sem])
      have m1 : w3.cell? ⟨w1.heap.size, 1, none⟩ = some (.int .i64 0) := cell_later hb3 (by simp [go_sem])
      have mf : ∀ j, w3.frozen? ⟨w1.heap.size, j, none⟩ = false := fun j => (hb3.frozen (p := ⟨w1.heap.size, j, none⟩) (by simp)).trans (by simp [go_sem])
      have hal1 : Below w1.heap.size w1 (w1.alloc (.cells #[.int .i64 0, .int .i64 0] 43)) := (Below.refl _ _).alloc (Nat.le_refl _) _
      have n0 : w3.cell? ⟨w.heap.size, 0, none⟩ = some (.int .i64 0) := cell_later hb3 (cell_later hal1 k0)
      have n1 : w3.cell? ⟨w.heap.size, 1, none⟩ = some (.int .i64 0) := cell_later hb3 (cell_later hal1 k1)
      have nf : ∀ j, w3.frozen? ⟨w.heap.size, j, none⟩ = false := fun j => (hb3.frozen (p := ⟨w.heap.size, j, none⟩) (by simp; omega)).trans ((hal1.frozen (p := ⟨w.heap.size, j, none⟩) hlt).trans (k3 j))
      obtain ⟨g, hg⟩ : ∃ g, w1.heap.size = g := ⟨_, rfl⟩
      rw [hg] at m0 m1 mf hlt hown ⊢
      obtain ⟨C, hC⟩ : ∃ C, R.code = C := ⟨_, rfl⟩
      obtain ⟨A, hA⟩ : ∃ A, R.place = A := ⟨_, rfl⟩
      rw [hC, hA]
      have HCh := Lib.hid hC
      have HAh := Lib.hid hA
      obtain ⟨W4, hW4⟩ : ∃ W4, (w3.setCell ⟨g, 0, none⟩ (.int .i64 C)).setCell ⟨g, 1, none⟩ (.int .i64 A) = W4 := ⟨_, rfl⟩
      have HW4 := Lib.hid hW4
      have hAs : Aside (fun b => b = g) w3 W4 := by rw [← hW4]; exact aside_set2 w3 g _ _
      obtain ⟨q0, q1⟩ := res_set (.int .i64 C) (.int .i64 A) m0 m1
      have q0' : W4.cell? ⟨g, 0, none⟩ = some (.int .i64 C) := by rw [← hW4, World.cell?_setCell_other _ _ _ _ (by simp)]; exact q0
      have q1' : W4.cell? ⟨g, 1, none⟩ = some (.int .i64 A) := by rw [← hW4]; exact q1
      have hgw : ¬ w.heap.size = g := by omega
      have n0' := hAs.cell_lt n0 hgw
      have n1' := hAs.cell_lt n1 hgw
      have nf' : ∀ j, W4.frozen? ⟨w.heap.size, j, none⟩ = false := fun j => (hAs.frozen (p := ⟨w.heap.size, j, none⟩) (show w.heap.size < _ from World.block_lt_of_cell? w3 ⟨w.heap.size, 0, none⟩ n0) hgw).trans (nf j)
      have ho4 := hown.aside hAs fun b hb e => by have := (hown.lt b hb).1; omega
      have hbw3 : Below w.heap.size w w3 := bel_call (bel_alloc HBW.out _) hb3
      have hbw4 : Below w.heap.size w W4 := below_aside hbw3 hAs fun b hb => ⟨Nat.lt_of_lt_of_le hb hbw3.size, by omega⟩
      have hd4 : Below W4.heap.size W4 W4.drew := (Below.refl _ _).drew
      have HJ4 := Lib.hid (HJ.out W4.drew _ _ (ho4.below hd4))
      have HB4 := Lib.hid hbw4
      have HN4 := Lib.hid (And.intro n0' (And.intro n1' nf'))
      have HQ4 := Lib.hid (And.intro q0' q1')
      have mf0 := mf 0
      have mf1 := mf 1
      clear hown hb3 n0 n1 nf hAs q0 q1 q0' q1' hgw n0' n1' nf' ho4 hbw3 hbw4 hd4 k0 k1 k3 hal1 mf hC hA HR2 HRd HJ HBy
      go_wp2_with fail
      clear m0 m1 mf0 mf1 hW4
      obtain ⟨q0, q1⟩ := HQ4.out
      go_region_held3 (fun wx => wx.cell? ⟨g, 0, none⟩ = some (.int .i64 C) ∧ wx.cell? ⟨g, 1, none⟩ = some (.int .i64 A)) (first | exact HQ4.out | exact ⟨cell_later ((Below.refl _ W4).drew) HQ4.out.1, cell_later ((Below.refl _ W4).drew) HQ4.out.2⟩ | exact HQ5.out | exact ⟨(World.cell?_setCell_other _ _ _ _ (by first | (simp; done) | (simp; omega))).trans ((World.cell?_setCell_other _ _ _ _ (by first | (simp; done) | (simp; omega))).trans HQ5.out.1), (World.cell?_setCell_other _ _ _ _ (by first | (simp; done) | (simp; omega))).trans ((World.cell?_setCell_other _ _ _ _ (by first | (simp; done) | (simp; omega))).trans HQ5.out.2)⟩) (first | (go_at_call 146; refine HJ4.out.mono ?_; rintro e w5 ⟨rfl, hb5⟩; have hbb : Below W4.heap.size W4 w5 := bel_call ((Below.refl _ W4).drew) hb5; have HQ5 := Lib.hid (And.intro (cell_later hbb HQ4.out.1) (cell_later hbb HQ4.out.2)); have HB5 := Lib.hid hbb; have n0 := cell_later hbb HN4.out.1; have n1 := cell_later hbb HN4.out.2.1; have nf0 := (hbb.frozen (p := ⟨w.heap.size, 0, none⟩) (show w.heap.size < _ from World.block_lt_of_cell? W4 ⟨w.heap.size, 0, none⟩ HN4.out.1)).trans (HN4.out.2.2 0); have nf1 := (hbb.frozen (p := ⟨w.heap.size, 1, none⟩) (show w.heap.size < _ from World.block_lt_of_cell? W4 ⟨w.heap.size, 0, none⟩ HN4.out.1)).trans (HN4.out.2.2 1); clear hb5 hbb))
      obtain ⟨z0, z1⟩ := res_set (.int .i64 C) (.int .i64 A) n0 n1
      have HFin := Lib.hid (bel_set2 (bel_call HB4.out HB5.out) (Nat.le_refl _) (.int .i64 C) (.int .i64 A))
      clear HQ4 HQ5 HN4 q0 q1
      go_wp2_with fail
      exact bodyPost_ret (by simp [results, Tryz.results139, go_sem, z0, z1]; rfl) rfl ⟨by rw [HCh.out, HAh.out], HFin.out⟩
    · rw [if_pos hE]
      obtain ⟨E, hEe⟩ : ∃ E, bytE b.length a size = E := ⟨_, rfl⟩
      have hAp : bytA b.length a size = ((bytA b.length a size).toNat : Int) := by unfold bytA; split <;> simp
      obtain ⟨A, hAe⟩ : ∃ A, (bytA b.length a size).toNat = A := ⟨_, rfl⟩
      obtain ⟨F, hFe⟩ : ∃ F, bytF b.length a size = F := ⟨_, rfl⟩
      rw [hAe] at hAp
      rw [hEe, hAp, hFe] at HBy
      rw [hEe] at hE
      rw [hEe, hAe]
      show Calls _ _ _ _ (Tells w (.tuple #[.string (bs []), .agg #[.int .i64 E, .int .i64 A]]))
      have tE : (E != 0) = true := by simpa using hE
      clear harg hE hEe hAe hFe hAp hS2
      go_enter Tryz.func139, Tryz.ntmps139
      go_wp2_with fail
      refine (HT.out _).mono ?_; rintro e w1 ⟨rfl, rfl⟩
      go_wp2_with fail
      refine (HT2.out _).mono ?_; rintro e w1 ⟨rfl, rfl⟩
      go_wp2_with fail
      refine HBy.out.mono ?_; rintro e w1 ⟨v1, g1, rfl, _, _, _, hb1⟩
      simp only [World.size_alloc] at hb1
      have HB1 := Lib.hid hb1
      have hlt := below_lt hb1
      obtain ⟨k0, k1, k3⟩ := res_cells hb1
      have k30 := k3 0
      have k31 := k3 1
      clear hb1
      go_wp2_with fail
      go_region
      all_goals
        try go_wp2_with fail
        obtain ⟨z0, z1⟩ := res_set (.int .i64 E) (.int .i64 A) k0 k1
        exact bodyPost_ret (by simp [results, Tryz.results139, go_sem, z0, z1, hlt]; rfl) rfl ⟨rfl, below_drewN (res_below HB1.out _ _ _) 1⟩
end Go.Proofs.YtdikgjbpjdnodaaGreat

/-
  The document's own cutting: texts, and how far a name goes.
-/
namespace Go.Proofs.YtdikgjbpjdnodaaGreat
open Go.RowKit Go.Shelf
set_option linter.unusedVariables false
set_option linter.unusedSimpArgs false
set_option maxRecDepth 100000

theorem txs_end {s : List UInt8} {p : Nat} (h : ¬ p < s.length) : ∀ n, s.length + 1 ≤ n + p → txs s n p = decide (p = s.length)
  | 0, hn => by rw [txs, decide_eq_false (by omega)]
  | n + 1, hn => by rw [txs, dif_neg h]
theorem frt_end {s : List UInt8} {p : Nat} (h : ¬ p < s.length) : ∀ n, frt s n p = none
  | 0 => rfl
  | n + 1 => by rw [frt, dif_neg h]

set_option maxHeartbeats 4000000 in
theorem rtexts_any (s : List UInt8) (hs : s.length ≤ 1000000) (w : World) : Calls Tryz.prog 72 #[.string (bs s)] w fun e w' => e = .returned (.bool (texts s)) ∧ w = w' := by
  have hsz : (bs s).size = s.length := bs_size s
  obtain ⟨X, hX⟩ : ∃ X, txs s (s.length + 1) 0 = X := ⟨_, rfl⟩
  obtain ⟨Y, hY⟩ : ∃ Y, texts s = Y := ⟨_, rfl⟩
  have HT := Lib.hid (show Y = (decide (s ≠ []) && X) by rw [← hY]; unfold texts; rw [hX])
  rw [hY]
  have HX := Lib.hid hX
  clear hY hX
  go_enter Tryz.func72, Tryz.ntmps72
  go_wp2_with fail
  go_loopg [3] (s.length + 1) (fun g v3 wr => ∃ p : Nat, v3 = .int .i64 p ∧ p ≤ s.length + 256 ∧ s.length + 1 ≤ g + p ∧ Hid (txs s g p = X) ∧ w = wr)
  case atStart => exact ⟨0, rfl, by omega, by omega, HX, rfl⟩
  case round =>
    obtain ⟨p, rfl, hp, hg, HP, rfl⟩ := hrel
    clear HX
    by_cases hlt : p < s.length
    · have hix := ix_run s p hlt
      have hst := HP.out
      obtain ⟨m, hm⟩ : ∃ m, gk = m + 1 := ⟨gk - 1, by omega⟩
      rw [hm, txs, dif_pos hlt] at hst
      have hc := s[p].toNat_lt
      obtain ⟨c, hcc⟩ : ∃ c, s[p].toNat = c := ⟨_, rfl⟩
      rw [hcc] at hix hst hc
      have HS := Lib.hid hst
      clear hst hcc
      go_wp2_with fail
      go_roundg m
      case measure => omega
      case rel => exact ⟨p + (1 + c), by go_num, by omega, by omega, HS, rfl⟩
    · have hX := txs_end hlt _ hg
      rw [HP.out] at hX
      have HE := Lib.hid hX
      have t1 : ¬ ((p : Int) < s.length) := by omega
      have e2 : ((p : Int) == (s.length : Int)) = decide (p = s.length) := by
        by_cases h : p = s.length
        · rw [decide_eq_true h, h]; simp
        · rw [decide_eq_false h]; simp; omega
      obtain ⟨z, hz⟩ : ∃ z, decide (p = s.length) = z := ⟨_, rfl⟩
      rw [hz] at HE e2
      clear HP hX hz
      have e1 : (bs s).toList.isEmpty = !decide (s ≠ []) := by rw [bs_toList]; cases s <;> simp
      obtain ⟨y, hy⟩ : ∃ y, decide (s ≠ []) = y := ⟨_, rfl⟩
      rw [hy] at HT e1
      clear hy
      cases y with
      | false =>
        have e3 : (bs s).toList.isEmpty = true := e1
        go_wp2_with fail
        go_ret
        exact ⟨by rw [HT.out, HE.out]; rfl, rfl⟩
      | true =>
        have e3 : (bs s).toList.isEmpty = false := e1
        go_wp2_with fail
        go_ret
        exact ⟨by rw [HT.out, HE.out]; rfl, rfl⟩

/-- The front's place as the walk tells it. -/
def frontI (s : List UInt8) : Int := match front s with | some n => (n : Int) | none => -1

/-- The same, from where a byte 0 stands. -/
def frv (s : List UInt8) (X : Option Nat) : Int := match X with | none => -1 | some p => if chk (s.take (p + 1)) = 0 then ((p + 1 : Nat) : Int) else -1
theorem frontI_frv (s : List UInt8) : frontI s = frv s (frt s (s.length + 1) 0) := by
  unfold frontI front frv
  rcases frt s (s.length + 1) 0 with _ | p
  · rfl
  · simp only
    by_cases h : chk (s.take (p + 1)) = 0
    · rw [if_pos h, if_pos h]
    · rw [if_neg h, if_neg h]

set_option maxHeartbeats 4000000 in
theorem rfront_any (s : List UInt8) (hs : s.length ≤ 1000000) (w : World) : Calls Tryz.prog 71 #[.string (bs s)] w (Tells w (.int .i64 (frontI s))) := by
  have hsz : (bs s).size = s.length := bs_size s
  obtain ⟨X, hX⟩ : ∃ X, frt s (s.length + 1) 0 = X := ⟨_, rfl⟩
  obtain ⟨Y, hY⟩ : ∃ Y, frontI s = Y := ⟨_, rfl⟩
  have HT := Lib.hid (show Y = frv s X by rw [← hY, frontI_frv, hX])
  rw [hY]
  have HX := Lib.hid hX
  have HC := Lib.hid (fun (n : List UInt8) (hn : n.length ≤ 1000000) wx => rcheck_any n hn wx)
  clear hY hX
  go_enter Tryz.func71, Tryz.ntmps71
  go_wp2_with fail
  go_loopg [3] (s.length + 1) (fun g v3 wr => ∃ p : Nat, v3 = .int .i64 p ∧ p ≤ s.length + 256 ∧ s.length + 1 ≤ g + p ∧ Hid (frt s g p = X) ∧ w = wr)
  case atStart => exact ⟨0, rfl, by omega, by omega, HX, rfl⟩
  case round =>
    obtain ⟨p, rfl, hp, hg, HP, rfl⟩ := hrel
    clear HX
    by_cases hlt : p < s.length
    · have hix := ix_run s p hlt
      have hst := HP.out
      obtain ⟨m, hm⟩ : ∃ m, gk = m + 1 := ⟨gk - 1, by omega⟩
      rw [hm, frt, dif_pos hlt] at hst
      have hc := s[p].toNat_lt
      obtain ⟨c, hcc⟩ : ∃ c, s[p].toNat = c := ⟨_, rfl⟩
      rw [hcc] at hix hst hc
      clear HP hcc
      by_cases h0 : c = 0
      · subst h0
        rw [if_pos rfl] at hst
        have HS := Lib.hid hst
        have htk := to_run s (p + 1) (by omega)
        push_cast at htk
        have HCk := Lib.hid (HC.out (s.take (p + 1)) (by rw [List.length_take]; omega) w)
        obtain ⟨k, hk⟩ : ∃ k, chk (s.take (p + 1)) = k := ⟨_, rfl⟩
        rw [hk] at HCk
        have HK := Lib.hid hk
        have ti : (p : Int) < s.length := by omega
        clear hst hk HC
        go_wp2_with fail
        refine HCk.out.mono ?_; rintro e0 w1 ⟨rfl, hb⟩
        have HB := Lib.hid hb
        clear hb
        by_cases hk0 : k = 0
        · subst hk0
          have HYv := Lib.hid (show Y = ((p + 1 : Nat) : Int) by rw [HT.out, ← HS.out]; unfold frv; simp only; rw [HK.out, if_pos rfl])
          go_wp2_with fail
          go_ret
          exact ⟨by rw [HYv.out]; push_cast; rfl, HB.out⟩
        · have HYv := Lib.hid (show Y = -1 by rw [HT.out, ← HS.out]; unfold frv; simp only; rw [HK.out, if_neg hk0])
          have tk : (k == 0) = false := by simpa using hk0
          go_wp2_with fail
          go_ret
          exact ⟨by rw [HYv.out]; rfl, HB.out⟩
      · rw [if_neg h0] at hst
        have HS := Lib.hid hst
        have tc : ((c : Int) != 0) = true := by simp; omega
        clear hst
        go_wp2_with fail
        go_roundg m
        case measure => omega
        case rel => exact ⟨p + (1 + c), by go_num, by omega, by omega, HS, rfl⟩
    · have hX := frt_end hlt gk
      rw [HP.out] at hX
      have HYv := Lib.hid (show Y = -1 by rw [HT.out, hX]; rfl)
      have t1 : ¬ ((p : Int) < s.length) := by omega
      clear HP hX HC HT
      go_wp2_with fail
      go_ret
      exact ⟨by rw [HYv.out]; rfl, Below.refl _ _⟩
end Go.Proofs.YtdikgjbpjdnodaaGreat

/-
  Rows beside each other: bytes, numbers, texts; appends to them.
-/
namespace Go.Proofs.YtdikgjbpjdnodaaGreat
open Go.RowKit Go.Shelf
set_option linter.unusedVariables false
set_option maxRecDepth 100000

/-- A row of numbers of the call's own. -/
def iv (l : List Nat) : List Value := l.map fun x : Nat => Value.int .i64 (x : Int)
def OwnI (w : World) (B : Nat) (v : Value) (l : List Nat) : Prop := OwnZ w B 3 (.int .i64 0) v (iv l)

theorem iv_len (l : List Nat) : (iv l).length = l.length := by simp [iv]
theorem OwnI.nil (w : World) (B : Nat) : OwnI w B (.slice .none 0 0) [] := OwnZ.nil _ _ _ _
theorem OwnI.shape {w : World} {B : Nat} {v : Value} {l : List Nat} (h : OwnI w B v l) : ∃ a c, v = .slice a l.length c := by
  rcases h with ⟨rfl, h0⟩ | ⟨g, cap, rfl, _⟩
  · have : l = [] := by simpa [iv] using h0
    subst this
    exact ⟨.none, 0, rfl⟩
  · exact ⟨_, cap, by rw [iv_len]⟩
theorem OwnI.at_ {w : World} {B : Nat} {v : Value} {l : List Nat} (h : OwnI w B v l) (j : Nat) (hj : j < l.length) : ∃ g c, v = .slice (some ⟨g, 0, none⟩) l.length c ∧ w.cell? ⟨g, j, none⟩ = some (.int .i64 (l[j] : Nat)) := by
  rcases h with ⟨_, h0⟩ | ⟨g, cap, rfl, _, hl, _, hh⟩
  · have : l = [] := by simpa [iv] using h0
    subst this
    simp at hj
  · refine ⟨g, cap, by rw [iv_len], ?_⟩
    rw [World.cell?, hh]
    simp [iv, List.getElem?_append_left, hj]
theorem OwnT.at_ {w : World} {B : Nat} {v : Value} {l : List (List UInt8)} (h : OwnT w B v l) (j : Nat) (hj : j < l.length) : ∃ g c, v = .slice (some ⟨g, 0, none⟩) l.length c ∧ w.cell? ⟨g, j, none⟩ = some (.string (bs l[j])) := by
  rcases h with ⟨_, h0⟩ | ⟨g, cap, rfl, _, hl, _, hh⟩
  · have : l = [] := by simpa using h0
    subst this
    simp at hj
  · refine ⟨g, cap, by rw [List.length_map], ?_⟩
    rw [World.cell?, hh]
    simp [List.getElem?_append_left, hj, tv]
theorem OwnZ.but {w w' : World} {B : Nat} {e : TypeId} {z v : Value} {cs : List Value} {G : Nat → Prop} (h : OwnZ w B e z v cs) (ha : Aside G w w') (hG : ∀ b, v.ownBlock = some b → ¬ G b) : OwnZ w' B e z v cs := by
  have hlt := h.lt
  rcases h with h2 | ⟨g, cap, hv, hg, h1, h2, hh⟩
  · exact .inl h2
  · exact .inr ⟨g, cap, hv, hg, h1, h2, (ha.block g (by subst hv; exact (hlt g rfl).2) (hG g (by rw [hv]; rfl))).trans hh⟩

/-- What a row's append may turn. -/
theorem aside_grown {w w' : World} {v : Value} (h : w.grownBy w' v.ownBlock) : Aside (fun b => v.ownBlock = some b) w w' := Aside.grown h fun _ h => h

/-- append of no bytes. -/
theorem run_appB0 {w : World} (B : Nat) (v : Value) (l : List UInt8) (ad : Option Addr) (c : Nat) (hown : OwnB w B v l) :
    (Builtin.append_ #[28, 28] 28 #[v, .slice ad 0 c]).run Tryz.prog w = .ok v w := by
  obtain ⟨i0, hi, hz0, hz1, hz2⟩ := info_parts Tryz.info5
  rcases hown with ⟨rfl, rfl⟩ | ⟨g, cap, fz, rfl, hbg, hlc, hcm, hfz, hg⟩
  · cases ad <;> simp [Builtin.append_, run_underlying Tryz.underlying28, sizeOf, typeInfo, hi, Builtin.lenOf, Builtin.firstCells, loadCells, loadCellsFrom]
  · cases ad <;> simp [Builtin.append_, run_underlying Tryz.underlying28, sizeOf, typeInfo, hi, Builtin.lenOf, Builtin.firstCells, loadCells, loadCellsFrom, storeCells, hlc]

/-- append of any bytes. -/
theorem run_appBs {w : World} (B : Nat) (v xv : Value) (l l' : List UInt8) {lo hi : Nat} (hown : OwnB w B v l) (hx : Sl w lo hi xv (iz l')) (hb : l.length + l'.length ≤ 1000000) (hB : B ≤ w.heap.size) :
    ∃ a' c' w', (Builtin.append_ #[28, 28] 28 #[v, xv]).run Tryz.prog w = .ok (.slice a' (l.length + l'.length) c') w' ∧ OwnB w' B (.slice a' (l.length + l'.length) c') (l ++ l') ∧ Aside (fun b => v.ownBlock = some b) w w' := by
  rcases Nat.eq_zero_or_pos l'.length with h0 | h0
  · have : l' = [] := List.eq_nil_of_length_eq_zero h0
    subst this
    obtain ⟨ad, c, rfl, _⟩ := hx
    have h1 := run_appB0 B v l ad c hown
    obtain ⟨a', c', rfl⟩ := hown.shape
    exact ⟨a', c', w, h1, by rw [List.append_nil]; exact hown, Aside.refl _ _⟩
  · obtain ⟨v', w', h1, h2, h3, _⟩ := run_appB B v xv l l' hown hx h0 hb hB
    obtain ⟨a', c', hv⟩ := h2.shape
    rw [List.length_append] at hv
    subst hv
    exact ⟨a', c', w', h1, h2, aside_grown h3⟩

end Go.Proofs.YtdikgjbpjdnodaaGreat

/-
  The document's own cutting: the forms, and the parts.
-/
namespace Go.Proofs.YtdikgjbpjdnodaaGreat
open Go.RowKit Go.Shelf
set_option linter.unusedVariables false
set_option linter.unusedSimpArgs false
set_option maxRecDepth 100000

/-- A part as the document's own text has it: a number. -/
def codeK : PK → Int
  | .fix n => n
  | .nam => -1
  | .txt => -2
  | .rst => -3

def FormPost (w : World) (ks : List PK) (e : Ending) (w' : World) : Prop := e = .returned (.slice (some ⟨w.heap.size, 0, none⟩) ks.length ks.length) ∧ w' = w.alloc (.cells (ks.map fun k => Value.int .i64 (codeK k)).toArray 3)

set_option maxHeartbeats 4000000 in
theorem form_any (t : Int) (w : World) : Calls Tryz.prog 67 #[.int .i64 t] w (FormPost w (kinds t)) := by
  by_cases h1 : t = 1
  · subst h1
    go_enter Tryz.func67, Tryz.ntmps67
    go_wp2
    go_ret
    exact ⟨rfl, rfl⟩
  by_cases h28 : t = 28
  · subst h28
    go_enter Tryz.func67, Tryz.ntmps67
    go_wp2
    go_ret
    exact ⟨rfl, rfl⟩
  by_cases h2 : t = 2
  · subst h2
    go_enter Tryz.func67, Tryz.ntmps67
    go_wp2
    go_ret
    exact ⟨rfl, rfl⟩
  by_cases h5 : t = 5
  · subst h5
    go_enter Tryz.func67, Tryz.ntmps67
    go_wp2
    go_ret
    exact ⟨rfl, rfl⟩
  by_cases h12 : t = 12
  · subst h12
    go_enter Tryz.func67, Tryz.ntmps67
    go_wp2
    go_ret
    exact ⟨rfl, rfl⟩
  by_cases h15 : t = 15
  · subst h15
    go_enter Tryz.func67, Tryz.ntmps67
    go_wp2
    go_ret
    exact ⟨rfl, rfl⟩
  by_cases h6 : t = 6
  · subst h6
    go_enter Tryz.func67, Tryz.ntmps67
    go_wp2
    go_ret
    exact ⟨rfl, rfl⟩
  by_cases h16 : t = 16
  · subst h16
    go_enter Tryz.func67, Tryz.ntmps67
    go_wp2
    go_ret
    exact ⟨rfl, rfl⟩
  have hk : kinds t = [.rst] := by unfold kinds; rw [if_neg h1, if_neg h28, if_neg (by omega), if_neg h15, if_neg h6, if_neg h16]
  rw [hk]
  have e1 : (t == 1) = false := by simpa using h1
  have e28 : (t == 28) = false := by simpa using h28
  have e2 : (t == 2) = false := by simpa using h2
  have e5 : (t == 5) = false := by simpa using h5
  have e12 : (t == 12) = false := by simpa using h12
  have e15 : (t == 15) = false := by simpa using h15
  have e6 : (t == 6) = false := by simpa using h6
  have e16 : (t == 16) = false := by simpa using h16
  clear hk
  go_enter Tryz.func67, Tryz.ntmps67
  go_wp2
  go_ret
  exact ⟨rfl, rfl⟩
end Go.Proofs.YtdikgjbpjdnodaaGreat

/-
  The document's own cutting: the walk of its parts.
-/
namespace Go.Proofs.YtdikgjbpjdnodaaGreat
open Go.RowKit Go.Shelf
set_option linter.unusedVariables false
set_option linter.unusedSimpArgs false
set_option maxRecDepth 100000

/-- The pieces' bytes behind those that are there, and what is left. -/
def ctsA (ks : List PK) (s : List UInt8) (acc : List (List UInt8)) : Option (List (List UInt8) × List UInt8) := (cuts ks s).map fun r => (acc ++ r.1.map (·.1), r.2)

theorem ctsA_nil (s : List UInt8) (acc : List (List UInt8)) : ctsA [] s acc = some (acc, s) := by simp [ctsA, cuts]
theorem ctsA_none {k : PK} {ks : List PK} {s : List UInt8} {acc : List (List UInt8)} (h : lenP s k = none) : ctsA (k :: ks) s acc = none := by unfold ctsA; rw [cuts, h]; rfl
theorem ctsA_some {k : PK} {ks : List PK} {s : List UInt8} {acc : List (List UInt8)} {n : Nat} (h : lenP s k = some n) : ctsA (k :: ks) s acc = ctsA ks (s.drop n) (acc ++ [s.take n]) := by
  unfold ctsA
  rw [cuts, h]
  simp only
  rcases cuts ks (s.drop n) with _ | r
  · rfl
  · simp [List.append_assoc]

def PartsP (w : World) (X : Option (List (List UInt8) × List UInt8)) (e : Ending) (w' : World) : Prop :=
  ∃ v, (match X with | none => e = .returned (.tuple #[.slice none 0 0, .bool false]) | some r => e = .returned (.tuple #[v, .bool (decide (r.2 = []))]) ∧ OwnT w' w.heap.size v r.1) ∧ Below w.heap.size w w'

set_option maxHeartbeats 8000000 in
theorem rparts_any (t : Int) (s : List UInt8) (hs : s.length ≤ 1000000) (w : World) : Calls Tryz.prog 68 #[.int .i64 t, .string (bs s)] w (PartsP w (ctsA (kinds t) s [])) := by
  have HFm := Lib.hid (fun wx => form_any t wx)
  have hks := kinds_small t
  obtain ⟨ks, hk⟩ : ∃ ks, kinds t = ks := ⟨_, rfl⟩
  rw [hk] at HFm hks ⊢
  have HSM := Lib.hid hks.2
  have hks3 := hks.1
  obtain ⟨X, hX⟩ : ∃ X, ctsA ks s [] = X := ⟨_, rfl⟩
  rw [hX]
  have HX := Lib.hid hX
  have HFr := Lib.hid (fun (n : List UInt8) (hn : n.length ≤ 1000000) wx => rfront_any n hn wx)
  have HTx := Lib.hid (fun (n : List UInt8) (hn : n.length ≤ 1000000) wx => rtexts_any n hn wx)
  clear hk hks hX
  go_enter Tryz.func68, Tryz.ntmps68
  go_wp2_with fail
  refine (HFm.out _).mono ?_; rintro e0 w1 ⟨rfl, hw1⟩
  have hb1 : Below w.heap.size w w1 := by rw [hw1]; exact (Below.refl _ _).alloc (Nat.le_refl _) _
  have HF := Lib.hid (fun (wx : World) (hb : Below w1.heap.size w1 wx) j (hj : j < ks.length) => show wx.cell? ⟨w.heap.size, j, none⟩ = some (.int .i64 (codeK ks[j])) from by
    refine cell_later hb ?_
    rw [hw1]
    rw [World.cell?]
    rw [show (w.alloc (.cells (ks.map fun k => Value.int .i64 (codeK k)).toArray 3)).heap[w.heap.size]? = some (.cells (ks.map fun k => Value.int .i64 (codeK k)).toArray 3) from heap_alloc_new w _]
    simp [hj])
  have HB1 := Lib.hid hb1
  clear hw1 hb1
  go_wp2_with fail
  go_loopg [1, 7, 8] ks.length (fun g v1 v7 v8 wr => ∃ (k : Nat) (s' : List UInt8) (acc : List (List UInt8)) (va : Option Addr) (ca : Nat), k + g = ks.length ∧ v1 = .string (bs s') ∧ v7 = .slice va k ca ∧ v8 = .int .i64 k ∧ Hid (acc.length = k) ∧ s'.length ≤ 1000000 ∧ Hid (OwnT wr w1.heap.size (.slice va k ca) acc) ∧ Hid (Below w1.heap.size w1 wr) ∧ Hid (ctsA (ks.drop k) s' acc = X))
  case atStart => exact ⟨0, s, [], none, 0, by omega, rfl, rfl, rfl, rfl, hs, OwnT.nil _ _, Below.refl _ _, HX⟩
  case round =>
    obtain ⟨k, s', acc, va, ca, hk, rfl, rfl, rfl, hak, hsl, HO2, HB2, HXk⟩ := hrel
    clear HX
    by_cases hlt : k < ks.length
    · have hst := HXk.out
      rw [List.drop_eq_getElem_cons hlt] at hst
      have hcell := HF.out _ HB2.out k hlt
      have hsm := HSM.out ks[k] (List.getElem_mem hlt)
      obtain ⟨K, hK⟩ : ∃ K, ks[k] = K := ⟨_, rfl⟩
      rw [hK] at hst hcell hsm
      have hsz : (bs s').size = s'.length := bs_size s'
      have hak3 : acc.length + 1 ≤ 1000000 := by rw [hak.out]; omega
      clear hK HXk
      cases K with
      | fix m =>
        have hm := hsm m rfl
        have hcell2 : wr.cell? ⟨w.heap.size, k, none⟩ = some (.int .i64 (m : Int)) := hcell
        have u1 : ((m : Int) == -1) = false := by first | (simp; done) | (simp; omega)
        have u2 : ((m : Int) == -2) = false := by first | (simp; done) | (simp; omega)
        have u3 : ((m : Int) == -3) = false := by first | (simp; done) | (simp; omega)
        clear hcell hsm
        by_cases hn : m ≤ s'.length
        · rw [ctsA_some (show lenP s' (.fix m) = some m from if_pos hn)] at hst
          have hst2 := Lib.hid hst
          have htk := to_run s' m hn
          have hfr := from_run s' m hn
          
          have hn2 : m ≤ 1000000 := by omega
          
          have hal : Below wr.heap.size wr (wr.alloc (.cells #[.string (bs (s'.take m))] 9)) := (Below.refl _ _).alloc (Nat.le_refl _) _
          obtain ⟨a7, c7, w7, hr7, ho7, hg7⟩ := run_appT w1.heap.size (.slice va k ca) acc (s'.take m) wr.heap.size (HO2.out.below hal) (by simp [go_sem, tv]) hak3 (Nat.le_trans HB2.out.size hal.size)
          rw [hak.out] at hr7 ho7
          have ha7 := aside_grown hg7
          have hlt7 := OwnZ.lt HO2.out
          have HR7 := Lib.hid hr7
          have HO7 := Lib.hid ho7
          have HB7 := Lib.hid (below_aside (bel_call HB2.out hal) ha7 fun x hx => ⟨Nat.lt_of_lt_of_le hx (bel_call HB2.out hal).size, fun hg => by have := (hlt7 x hg).1; omega⟩)
          have hdl : (s'.drop m).length ≤ 1000000 := by rw [List.length_drop]; omega
          have hal2 := Lib.hid (show (acc ++ [s'.take m]).length = k + 1 by rw [List.length_append, hak.out]; rfl)
          clear hal hr7 ho7 hg7 ha7 hlt7 hst
          go_wp2_with (at_builtin; refine wpList_append_run (.tmp 48) (.tmp 52) 105 105 rfl rfl rfl rfl HR7.out ?_)
          go_roundg (ks.length - (k + 1))
          case measure => omega
          case rel => exact ⟨k + 1, s'.drop m, acc ++ [s'.take m], a7, c7, by omega, rfl, rfl, by go_num, hal2, hdl, HO7, HB7, hst2⟩
        · have hE : X = none := by rw [← hst]; exact ctsA_none (if_neg hn)
          have HE := Lib.hid hE
          clear hst hE
          go_wp2_with fail
          go_ret2
          exact ⟨.slice none 0 0, by rw [HE.out]; rfl, bel_call HB1.out HB2.out⟩
      | rst =>
        have hcell2 : wr.cell? ⟨w.heap.size, k, none⟩ = some (.int .i64 (-3)) := hcell
        have hn : s'.length ≤ s'.length := Nat.le_refl _
        clear hcell hsm
        rw [ctsA_some (show lenP s' .rst = some s'.length from rfl)] at hst
        obtain ⟨z, hz⟩ : ∃ z, s'.length = z := ⟨_, rfl⟩
        have HZ := Lib.hid hz
        have hn : z ≤ s'.length := by omega
        have HSL := Lib.hid hsl
        rw [hz] at hst hsz hsl
        clear hz
        have hst2 := Lib.hid hst
        have htk := to_run s' z hn
        have hfr := from_run s' z hn
        
        have hn2 : z ≤ 1000000 := by omega
        
        have hal : Below wr.heap.size wr (wr.alloc (.cells #[.string (bs (s'.take z))] 9)) := (Below.refl _ _).alloc (Nat.le_refl _) _
        obtain ⟨a7, c7, w7, hr7, ho7, hg7⟩ := run_appT w1.heap.size (.slice va k ca) acc (s'.take z) wr.heap.size (HO2.out.below hal) (by simp [go_sem, tv]) hak3 (Nat.le_trans HB2.out.size hal.size)
        rw [hak.out] at hr7 ho7
        have ha7 := aside_grown hg7
        have hlt7 := OwnZ.lt HO2.out
        have HR7 := Lib.hid hr7
        have HO7 := Lib.hid ho7
        have HB7 := Lib.hid (below_aside (bel_call HB2.out hal) ha7 fun x hx => ⟨Nat.lt_of_lt_of_le hx (bel_call HB2.out hal).size, fun hg => by have := (hlt7 x hg).1; omega⟩)
        have hdl : (s'.drop z).length ≤ 1000000 := by have := HSL.out; rw [List.length_drop]; omega
        have hal2 := Lib.hid (show (acc ++ [s'.take z]).length = k + 1 by rw [List.length_append, hak.out]; rfl)
        clear hal hr7 ho7 hg7 ha7 hlt7 hst
        go_wp2_with (at_builtin; refine wpList_append_run (.tmp 48) (.tmp 52) 105 105 rfl rfl rfl rfl HR7.out ?_)
        go_roundg (ks.length - (k + 1))
        case measure => omega
        case rel => exact ⟨k + 1, s'.drop z, acc ++ [s'.take z], a7, c7, by omega, rfl, rfl, by go_num, hal2, hdl, HO7, HB7, hst2⟩
      | txt =>
        have hcell2 : wr.cell? ⟨w.heap.size, k, none⟩ = some (.int .i64 (-2)) := hcell
        have hn : s'.length ≤ s'.length := Nat.le_refl _
        have HT := Lib.hid (HTx.out s' hsl wr)
        clear hcell hsm
        by_cases hx : texts s' = true
        · rw [ctsA_some (show lenP s' .txt = some s'.length from if_pos hx)] at hst
          rw [hx] at HT
          clear hx
          go_wp2_with fail
          refine HT.out.mono ?_; rintro e0 w2 ⟨rfl, rfl⟩
          obtain ⟨z, hz⟩ : ∃ z, s'.length = z := ⟨_, rfl⟩
          have HZ := Lib.hid hz
          have hn : z ≤ s'.length := by omega
          have HSL := Lib.hid hsl
          rw [hz] at hst hsz hsl
          clear hz
          have hst2 := Lib.hid hst
          have htk := to_run s' z hn
          have hfr := from_run s' z hn
          
          have hn2 : z ≤ 1000000 := by omega
          
          have hal : Below wr.heap.size wr (wr.alloc (.cells #[.string (bs (s'.take z))] 9)) := (Below.refl _ _).alloc (Nat.le_refl _) _
          obtain ⟨a7, c7, w7, hr7, ho7, hg7⟩ := run_appT w1.heap.size (.slice va k ca) acc (s'.take z) wr.heap.size (HO2.out.below hal) (by simp [go_sem, tv]) hak3 (Nat.le_trans HB2.out.size hal.size)
          rw [hak.out] at hr7 ho7
          have ha7 := aside_grown hg7
          have hlt7 := OwnZ.lt HO2.out
          have HR7 := Lib.hid hr7
          have HO7 := Lib.hid ho7
          have HB7 := Lib.hid (below_aside (bel_call HB2.out hal) ha7 fun x hx => ⟨Nat.lt_of_lt_of_le hx (bel_call HB2.out hal).size, fun hg => by have := (hlt7 x hg).1; omega⟩)
          have hdl : (s'.drop z).length ≤ 1000000 := by have := HSL.out; rw [List.length_drop]; omega
          have hal2 := Lib.hid (show (acc ++ [s'.take z]).length = k + 1 by rw [List.length_append, hak.out]; rfl)
          clear hal hr7 ho7 hg7 ha7 hlt7 hst
          go_wp2_with (at_builtin; refine wpList_append_run (.tmp 48) (.tmp 52) 105 105 rfl rfl rfl rfl HR7.out ?_)
          go_roundg (ks.length - (k + 1))
          case measure => omega
          case rel => exact ⟨k + 1, s'.drop z, acc ++ [s'.take z], a7, c7, by omega, rfl, rfl, by go_num, hal2, hdl, HO7, HB7, hst2⟩
        · have hE : X = none := by rw [← hst]; exact ctsA_none (if_neg hx)
          have HE := Lib.hid hE
          rw [Bool.not_eq_true] at hx
          rw [hx] at HT
          clear hst hE hx
          go_wp2_with fail
          refine HT.out.mono ?_; rintro e0 w2 ⟨rfl, rfl⟩
          go_wp2_with fail
          go_ret2
          exact ⟨.slice none 0 0, by rw [HE.out]; rfl, bel_call HB1.out HB2.out⟩
      | nam =>
        have hcell2 : wr.cell? ⟨w.heap.size, k, none⟩ = some (.int .i64 (-1)) := hcell
        have HT := Lib.hid (HFr.out s' hsl wr)
        clear hcell hsm
        rcases hf : front s' with _ | m
        · have hE : X = none := by rw [← hst]; exact ctsA_none hf
          have HE := Lib.hid hE
          have hfi : frontI s' = -1 := by unfold frontI; rw [hf]
          rw [hfi] at HT
          clear hst hE hf hfi
          go_wp2_with fail
          refine HT.out.mono ?_; rintro e0 w2 ⟨rfl, hb⟩
          replace HB2 := Lib.hid (bel_call HB2.out hb)
          clear hb
          go_wp2_with fail
          go_ret2
          exact ⟨.slice none 0 0, by rw [HE.out]; rfl, bel_call HB1.out HB2.out⟩
        · obtain ⟨ls, q1, q2, q3, hn⟩ := front_some hf
          clear q1 q2 q3
          have hfi : frontI s' = (m : Int) := by unfold frontI; rw [hf]
          rw [hfi] at HT
          rw [ctsA_some (show lenP s' .nam = some m from hf)] at hst
          have u1 : ((m : Int) == -1) = false := by first | (simp; done) | (simp; omega)
          have u2 : ((m : Int) == -2) = false := by first | (simp; done) | (simp; omega)
          have u3 : ((m : Int) == -3) = false := by first | (simp; done) | (simp; omega)
          clear hf hfi
          go_wp2_with fail
          refine HT.out.mono ?_; rintro e0 w2 ⟨rfl, hb⟩
          replace HB2 := Lib.hid (bel_call HB2.out hb)
          replace HO2 := Lib.hid (HO2.out.below hb)
          clear hb
          have hst2 := Lib.hid hst
          have htk := to_run s' m hn
          have hfr := from_run s' m hn
          
          have hn2 : m ≤ 1000000 := by omega
          
          have hal : Below w2.heap.size w2 (w2.alloc (.cells #[.string (bs (s'.take m))] 9)) := (Below.refl _ _).alloc (Nat.le_refl _) _
          obtain ⟨a7, c7, w7, hr7, ho7, hg7⟩ := run_appT w1.heap.size (.slice va k ca) acc (s'.take m) w2.heap.size (HO2.out.below hal) (by simp [go_sem, tv]) hak3 (Nat.le_trans HB2.out.size hal.size)
          rw [hak.out] at hr7 ho7
          have ha7 := aside_grown hg7
          have hlt7 := OwnZ.lt HO2.out
          have HR7 := Lib.hid hr7
          have HO7 := Lib.hid ho7
          have HB7 := Lib.hid (below_aside (bel_call HB2.out hal) ha7 fun x hx => ⟨Nat.lt_of_lt_of_le hx (bel_call HB2.out hal).size, fun hg => by have := (hlt7 x hg).1; omega⟩)
          have hdl : (s'.drop m).length ≤ 1000000 := by rw [List.length_drop]; omega
          have hal2 := Lib.hid (show (acc ++ [s'.take m]).length = k + 1 by rw [List.length_append, hak.out]; rfl)
          clear hal hr7 ho7 hg7 ha7 hlt7 hst
          go_wp2_with (at_builtin; refine wpList_append_run (.tmp 48) (.tmp 52) 105 105 rfl rfl rfl rfl HR7.out ?_)
          go_roundg (ks.length - (k + 1))
          case measure => omega
          case rel => exact ⟨k + 1, s'.drop m, acc ++ [s'.take m], a7, c7, by omega, rfl, rfl, by go_num, hal2, hdl, HO7, HB7, hst2⟩
    · have hke : k = ks.length := by omega
      have hst := HXk.out
      rw [hke, List.drop_length, ctsA_nil] at hst
      have HE := Lib.hid hst
      have t1 : ¬ ((k : Int) < ks.length) := by omega
      have e2 : (bs s').toList.isEmpty = decide (s' = []) := by rw [bs_toList]; cases s' <;> simp
      obtain ⟨z, hz⟩ : ∃ z, decide (s' = []) = z := ⟨_, rfl⟩
      rw [hz] at e2
      have HZ := Lib.hid hz
      clear hst HXk hz
      go_wp2_with fail
      go_ret2
      refine ⟨.slice va k ca, ?_, bel_call HB1.out HB2.out⟩
      rw [← HE.out]
      exact ⟨by rw [HZ.out, hke]; rfl, OwnT.mono HO2.out HB1.out.size⟩
end Go.Proofs.YtdikgjbpjdnodaaGreat

/-
  The document's own cutting: whether data are those of a type.
-/
namespace Go.Proofs.YtdikgjbpjdnodaaGreat
open Go.RowKit Go.Shelf
set_option linter.unusedVariables false
set_option linter.unusedSimpArgs false
set_option maxRecDepth 100000

theorem rparts_no {t : Int} {s : List UInt8} (hs : s.length ≤ 1000000) (hc : cuts (kinds t) s = none) (w : World) : Calls Tryz.prog 68 #[.int .i64 t, .string (bs s)] w (Tells w (.tuple #[.slice none 0 0, .bool false])) := by
  refine (rparts_any t s hs w).mono ?_
  rintro e w' ⟨v, h1, h2⟩
  rw [show ctsA (kinds t) s [] = none by unfold ctsA; rw [hc]; rfl] at h1
  exact ⟨h1, h2⟩
theorem rparts_yes {t : Int} {s r : List UInt8} {L : List Pc} (hs : s.length ≤ 1000000) (hc : cuts (kinds t) s = some (L, r)) (w : World) : Calls Tryz.prog 68 #[.int .i64 t, .string (bs s)] w fun e w' => ∃ v, e = .returned (.tuple #[v, .bool (decide (r = []))]) ∧ OwnT w' w.heap.size v (L.map (·.1)) ∧ Below w.heap.size w w' := by
  refine (rparts_any t s hs w).mono ?_
  rintro e w' ⟨v, h1, h2⟩
  rw [show ctsA (kinds t) s [] = some (L.map (·.1), r) by unfold ctsA; rw [hc]; rfl] at h1
  exact ⟨v, h1.1, h1.2, h2⟩

set_option maxHeartbeats 4000000 in
theorem rcheckR_any (t : Int) (d : List UInt8) (hd : d.length ≤ 1000000) (w : World) : Calls Tryz.prog 66 #[.int .i64 t, .string (bs d)] w (Tells w (.int .i64 (spl t d).code)) := by
  have hsz : (bs d).size = d.length := bs_size d
  rw [spl_cuts]
  by_cases ht : t < 0
  · rw [if_pos (.inl ht)]
    show Calls _ _ _ _ (Tells w (.int .i64 5))
    have t1 : decide (t < 0) = true := by simpa using ht
    go_enter Tryz.func66, Tryz.ntmps66
    go_wp2_with fail
    go_ret
    exact ⟨rfl, Below.refl _ _⟩
  · have t1 : decide (t < 0) = false := by simpa using ht
    by_cases ht2 : 65535 < t
    · rw [if_pos (.inr ht2)]
      show Calls _ _ _ _ (Tells w (.int .i64 5))
      go_enter Tryz.func66, Tryz.ntmps66
      go_wp2_with fail
      go_ret
      exact ⟨rfl, Below.refl _ _⟩
    · rw [if_neg (by omega)]
      by_cases hl : 65535 < d.length
      · rw [if_pos hl]
        show Calls _ _ _ _ (Tells w (.int .i64 3))
        go_enter Tryz.func66, Tryz.ntmps66
        go_wp2_with fail
        go_ret
        exact ⟨rfl, Below.refl _ _⟩
      · rw [if_neg hl]
        rcases hc : cuts (kinds t) d with _ | ⟨L, r⟩
        · show Calls _ _ _ _ (Tells w (.int .i64 4))
          have HP := Lib.hid (fun wx => rparts_no hd hc wx)
          clear hc
          go_enter Tryz.func66, Tryz.ntmps66
          go_wp2_with fail
          refine (HP.out _).mono ?_; rintro e w1 ⟨rfl, hb⟩
          have HB := Lib.hid hb
          clear hb
          go_wp2_with fail
          go_ret
          exact ⟨rfl, HB.out⟩
        · have HP := Lib.hid (fun wx => rparts_yes hd hc wx)
          simp only
          by_cases hr : r = []
          · rw [if_pos hr]
            show Calls _ _ _ _ (Tells w (.int .i64 0))
            rw [decide_eq_true hr] at HP
            clear hc hr
            go_enter Tryz.func66, Tryz.ntmps66
            go_wp2_with fail
            refine (HP.out _).mono ?_; rintro e w1 ⟨v, rfl, _, hb⟩
            have HB := Lib.hid hb
            clear hb
            go_wp2_with fail
            go_ret
            exact ⟨rfl, HB.out⟩
          · rw [if_neg hr]
            show Calls _ _ _ _ (Tells w (.int .i64 4))
            rw [decide_eq_false hr] at HP
            clear hc hr
            go_enter Tryz.func66, Tryz.ntmps66
            go_wp2_with fail
            refine (HP.out _).mono ?_; rintro e w1 ⟨v, rfl, _, hb⟩
            have HB := Lib.hid hb
            clear hb
            go_wp2_with fail
            go_ret
            exact ⟨rfl, HB.out⟩

end Go.Proofs.YtdikgjbpjdnodaaGreat

/-
  The document's own cutting: lower form.
-/
namespace Go.Proofs.YtdikgjbpjdnodaaGreat
open Go.RowKit Go.Shelf
set_option linter.unusedVariables false
set_option linter.unusedSimpArgs false
set_option maxRecDepth 100000

theorem fits_code {ks : List PK} {L : List Pc} (h : Fits ks L) : ∀ j (h1 : j < ks.length) (h2 : j < L.length), (codeK ks[j] == -1) = L[j].2 := by
  induction h with
  | nil => intro j h1; simp at h1
  | @fix n x ks L h h2 ih =>
    intro j h1 h3
    cases j with
    | zero => show ((n : Int) == -1) = false; first | (simp; done) | (simp; omega)
    | succ j => exact ih j (by simpa using h1) (by simpa using h3)
  | nam h h2 ih =>
    intro j h1 h3
    cases j with
    | zero => rfl
    | succ j => exact ih j (by simpa using h1) (by simpa using h3)
  | txt h =>
    intro j h1 h3
    obtain rfl : j = 0 := by simpa using h1
    rfl
  | rst =>
    intro j h1 h3
    obtain rfl : j = 0 := by simpa using h1
    rfl

end Go.Proofs.YtdikgjbpjdnodaaGreat

/-
  The document's own: whether a record may be, which are the same.
-/
namespace Go.Proofs.YtdikgjbpjdnodaaGreat
open Go.RowKit Go.Shelf
set_option linter.unusedVariables false
set_option linter.unusedSimpArgs false
set_option maxRecDepth 100000

theorem short_yes (n : Int) (h : 0 ≤ n ∧ n ≤ 65535) (w : World) : Calls Tryz.prog 65 #[.int .i64 n] w fun e w' => e = .returned (.bool true) ∧ w = w' := by
  obtain ⟨h1, h2⟩ := h
  go_enter Tryz.func65, Tryz.ntmps65
  go_wp2
  go_ret
  exact ⟨rfl, rfl⟩

theorem short_no (n : Int) (h : n < 0 ∨ 65535 < n) (w : World) : Calls Tryz.prog 65 #[.int .i64 n] w fun e w' => e = .returned (.bool false) ∧ w = w' := by
  by_cases h0 : n < 0
  · have t1 : decide (0 ≤ n) = false := by simpa using h0
    go_enter Tryz.func65, Tryz.ntmps65
    go_wp2
    go_ret
    exact ⟨rfl, rfl⟩
  · have t1 : decide (0 ≤ n) = true := by simpa using h0
    have t2 : decide (n ≤ 65535) = false := by simp; omega
    go_enter Tryz.func65, Tryz.ntmps65
    go_wp2
    go_ret
    exact ⟨rfl, rfl⟩

set_option maxHeartbeats 4000000 in
theorem rcheck07_any (n : List UInt8) (t c l : Int) (d : List UInt8) (hn : n.length ≤ 1000000) (hd : d.length ≤ 1000000) (w : World) :
    Calls Tryz.prog 57 #[.agg #[.string (bs n), .int .i64 t, .int .i64 c, .int .i64 l, .string (bs d)]] w (Tells w (.int .i64 (chkC ⟨n, t, c, l, d⟩))) := by
  have HA := Lib.hid (fun wx => rcheck_any n hn wx)
  have HR := Lib.hid (fun wx => rcheckR_any t d hd wx)
  have HB := Lib.hid ((Below.refl w.heap.size w).alloc (Nat.le_refl _) (.cells #[.string (bs n), .int .i64 t, .int .i64 c, .int .i64 l, .string (bs d)] 78))
  have HX := Lib.hid (cel_new w (.string (bs n)) (.int .i64 t) (.int .i64 c) (.int .i64 l) (.string (bs d)) 78)
  obtain ⟨E, hE⟩ : ∃ E, chk n = E := ⟨_, rfl⟩
  obtain ⟨C, hC⟩ : ∃ C, (spl t d).code = C := ⟨_, rfl⟩
  have e0 : chkC ⟨n, t, c, l, d⟩ = if E ≠ 0 then E else if t < 0 ∨ 65535 < t ∨ c < 0 ∨ 65535 < c then 5 else if l < 0 ∨ 2147483647 < l then 5 else C := by
    unfold chkC askE
    simp only [hE, hC]
    by_cases h1 : E ≠ 0
    · simp only [if_pos h1]
    · simp only [if_neg h1]
      by_cases h2 : t < 0 ∨ 65535 < t ∨ c < 0 ∨ 65535 < c
      · simp only [if_pos h2]; simp
      · simp only [if_neg h2]; simp
  rw [e0]
  rw [hE] at HA
  rw [hC] at HR
  clear e0 hE hC
  by_cases h0 : E = 0
  · subst h0
    rw [if_neg (by simp)]
    by_cases ht : 0 ≤ t ∧ t ≤ 65535
    · have HT := Lib.hid (fun wx => short_yes t ht wx)
      by_cases hc : 0 ≤ c ∧ c ≤ 65535
      · have HC := Lib.hid (fun wx => short_yes c hc wx)
        rw [if_neg (by omega)]
        by_cases hl : l < 0
        · rw [if_pos (.inl hl)]
          have tl : decide (l < 0) = true := by simpa using hl
          clear ht hc hl
          go_enter Tryz.func57, Tryz.ntmps57
          go_wp2_with fail
          refine (HA.out _).mono ?_; rintro e w1 ⟨rfl, hb⟩
          replace HB := Lib.hid (bel_call HB.out hb)
          replace HX := Lib.hid (HX.out.below (by simp) hb)
          obtain ⟨c0, c1, c2, c3, c4⟩ := HX.out.five
          clear hb
          go_wp2_with fail
          refine (HT.out _).mono ?_; rintro e w2 ⟨rfl, rfl⟩
          go_wp2_with fail
          refine (HC.out _).mono ?_; rintro e w3 ⟨rfl, rfl⟩
          go_wp2_with fail
          go_ret
          exact ⟨rfl, HB.out⟩
        · have tl : decide (l < 0) = false := by simpa using hl
          by_cases hl2 : 2147483647 < l
          · rw [if_pos (.inr hl2)]
            have tl2 : decide ((2147483648 : Int) ≤ l) = true := by simp; omega
            clear ht hc hl hl2
            go_enter Tryz.func57, Tryz.ntmps57
            go_wp2_with fail
            refine (HA.out _).mono ?_; rintro e w1 ⟨rfl, hb⟩
            replace HB := Lib.hid (bel_call HB.out hb)
            replace HX := Lib.hid (HX.out.below (by simp) hb)
            obtain ⟨c0, c1, c2, c3, c4⟩ := HX.out.five
            clear hb
            go_wp2_with fail
            refine (HT.out _).mono ?_; rintro e w2 ⟨rfl, rfl⟩
            go_wp2_with fail
            refine (HC.out _).mono ?_; rintro e w3 ⟨rfl, rfl⟩
            go_wp2_with fail
            go_ret
            exact ⟨rfl, HB.out⟩
          · rw [if_neg (by omega)]
            have tl2 : decide ((2147483648 : Int) ≤ l) = false := by simp; omega
            clear ht hc hl hl2
            go_enter Tryz.func57, Tryz.ntmps57
            go_wp2_with fail
            refine (HA.out _).mono ?_; rintro e w1 ⟨rfl, hb⟩
            replace HB := Lib.hid (bel_call HB.out hb)
            replace HX := Lib.hid (HX.out.below (by simp) hb)
            obtain ⟨c0, c1, c2, c3, c4⟩ := HX.out.five
            clear hb
            go_wp2_with fail
            refine (HT.out _).mono ?_; rintro e w2 ⟨rfl, rfl⟩
            go_wp2_with fail
            refine (HC.out _).mono ?_; rintro e w3 ⟨rfl, rfl⟩
            go_wp2_with fail
            refine (HR.out _).mono ?_; rintro e w5 ⟨rfl, hb⟩
            replace HB := Lib.hid (bel_call HB.out hb)
            clear hb
            go_wp2_with fail
            go_ret
            exact ⟨rfl, HB.out⟩
      · have HC := Lib.hid (fun wx => short_no c (by omega) wx)
        rw [if_pos (by omega)]
        clear ht hc
        go_enter Tryz.func57, Tryz.ntmps57
        go_wp2_with fail
        refine (HA.out _).mono ?_; rintro e w1 ⟨rfl, hb⟩
        replace HB := Lib.hid (bel_call HB.out hb)
        replace HX := Lib.hid (HX.out.below (by simp) hb)
        obtain ⟨c0, c1, c2, c3, c4⟩ := HX.out.five
        clear hb
        go_wp2_with fail
        refine (HT.out _).mono ?_; rintro e w2 ⟨rfl, rfl⟩
        go_wp2_with fail
        refine (HC.out _).mono ?_; rintro e w3 ⟨rfl, rfl⟩
        go_wp2_with fail
        go_ret
        exact ⟨rfl, HB.out⟩
    · have HT := Lib.hid (fun wx => short_no t (by omega) wx)
      rw [if_pos (by omega)]
      clear ht
      go_enter Tryz.func57, Tryz.ntmps57
      go_wp2_with fail
      refine (HA.out _).mono ?_; rintro e w1 ⟨rfl, hb⟩
      replace HB := Lib.hid (bel_call HB.out hb)
      replace HX := Lib.hid (HX.out.below (by simp) hb)
      obtain ⟨c0, c1, c2, c3, c4⟩ := HX.out.five
      clear hb
      go_wp2_with fail
      refine (HT.out _).mono ?_; rintro e w2 ⟨rfl, rfl⟩
      go_wp2_with fail
      go_ret
      exact ⟨rfl, HB.out⟩
  · rw [if_pos h0]
    have tE : (E != 0) = true := by simpa using h0
    clear h0
    go_enter Tryz.func57, Tryz.ntmps57
    go_wp2_with fail
    refine (HA.out _).mono ?_; rintro e w1 ⟨rfl, hb⟩
    replace HB := Lib.hid (bel_call HB.out hb)
    replace HX := Lib.hid (HX.out.below (by simp) hb)
    obtain ⟨c0, c1, c2, c3, c4⟩ := HX.out.five
    clear hb
    go_wp2_with fail
    go_ret
    exact ⟨rfl, HB.out⟩

end Go.Proofs.YtdikgjbpjdnodaaGreat
