/-
  Read.
-/
import Derived.Test.YteegekpanadmkaaGreatS05
import Derived.Test.YteegekpanadmkaaGreatS02
import Derived.Test.YteegekpanadmkaaGreatS03
import Derived.Test.YteegekpanadmkaaGreatS01
namespace Go.Proofs.YteegekpanadmkaaGreat
open Go.RowKit Go.Shelf
set_option linter.unusedVariables false
set_option linter.unusedSimpArgs false
set_option maxRecDepth 100000

/-- How long what is read may be. -/
theorem go_len {F : Nat → Got} {b : List UInt8} {s e : Nat} (hF : ∀ p, (F p).2.2.1 = 0 → (F p).1.length ≤ 255) : ∀ (ks : List PK) (p : Nat) (acc L : List Pc), goP F b s e ks p acc = .ok L → (joined L).length ≤ (joined acc).length + ks.length * (b.length + 255) ∧ L.length = acc.length + ks.length
  | [], p, acc, L, h => by
    rw [goP] at h
    split at h
    · simp at h
    · injection h with h; subst h; simp
  | k :: ks, p, acc, L, h => by
    rw [goP] at h
    split at h
    · rename_i x q hx
      have hlen : x.1.length ≤ b.length + 255 := by
        have hcut : ∀ q', cutP b s e p q' = .ok x q → x.1.length ≤ b.length + 255 := by
          intro q' hq
          unfold cutP at hq
          split at hq
          · simp at hq
          · injection hq with h1 h2
            subst h1
            simp only [List.length_take, List.length_drop]
            omega
        cases k with
        | fix n => exact hcut _ hx
        | nam =>
          simp only [stepP] at hx
          split at hx
          · simp at hx
          · split at hx
            · simp at hx
            · rename_i h0
              split at hx
              · simp at hx
              · injection hx with h1 h2
                subst h1
                have := hF p (by simpa using h0)
                show (F p).1.length ≤ _
                omega
        | txt =>
          rw [txR_step] at hx
          cases hy : txE b e (e + 1) p with
          | none => rw [hy] at hx; simp [txR] at hx
          | some y => rw [hy] at hx; exact hcut _ hx
        | rst => exact hcut _ hx
      obtain ⟨h1, h2⟩ := go_len hF ks q (acc ++ [x]) L h
      rw [joined_app, List.length_append] at h1
      have h3 : joined [x] = x.1 := by simp [joined]
      rw [h3] at h1
      rw [List.length_append] at h2
      simp only [List.length_cons, List.length_nil] at h2 ⊢
      refine ⟨?_, by omega⟩
      rw [Nat.add_mul]
      omega
    · simp at h

theorem rda_len (b : List UInt8) (p : Nat) (h : (rda b p).2.2.1 = 0) : (rda b p).1.length ≤ 255 := (chk_pos (rda_fine b p h).1).2

theorem rdR_byt (b : List UInt8) (a size t : Int) (h : ¬ (t < 0 ∨ 65535 < t ∨ size < 0 ∨ 65535 < size)) :
    rdR b a size t = if bytE b.length a size ≠ 0 then .bad (bytE b.length a size) (bytA b.length a size).toNat else goP (fun p => rda b p) b a.toNat (a.toNat + size.toNat) (kinds t) a.toNat [] := by
  have e0 : rdR b a size t = if a < 0 ∨ (b.length : Int) < a then .bad 5 0 else if (b.length : Int) < a + size then .bad 4 b.length else goP (fun p => rda b p) b a.toNat (a.toNat + size.toNat) (kinds t) a.toNat [] := by unfold rdR; rw [if_neg h]
  rw [e0]
  by_cases h1 : a < 0 ∨ (b.length : Int) < a
  · have e1 : bytE b.length a size = 5 := by unfold bytE; rw [if_neg (by omega), if_pos h1]
    have e2 : bytA b.length a size = 0 := by unfold bytA; rw [if_neg (by omega)]
    rw [if_pos h1, e1, e2, if_pos (by decide)]; rfl
  · rw [if_neg h1]
    by_cases h2 : (b.length : Int) < a + size
    · have e1 : bytE b.length a size = 4 := by unfold bytE; rw [if_neg (by omega), if_neg h1, if_pos h2]
      have e2 : bytA b.length a size = b.length := by unfold bytA; rw [if_pos (by omega)]
      rw [if_pos h2, e1, e2, if_pos (by decide)]; rfl
    · have e1 : bytE b.length a size = 0 := by unfold bytE; rw [if_neg (by omega), if_neg h1, if_neg h2]
      rw [if_neg h2, e1, if_neg (by simp)]

theorem aside_set2 (w : World) (g : Nat) (x y : Value) : Aside (fun b => b = g) w ((w.setCell ⟨g, 0, none⟩ x).setCell ⟨g, 1, none⟩ y) :=
  (Aside.setCell (G := fun b => b = g) w (p := ⟨g, 0, none⟩) x rfl).trans (Aside.setCell (G := fun b => b = g) _ (p := ⟨g, 1, none⟩) y rfl)

set_option maxHeartbeats 4000000 in
theorem readD_any {w : World} {lo hi : Nat} {v : Value} {b : List UInt8} (hS : Sl w lo hi v (iz b)) (hhi : hi ≤ w.heap.size) (hbl : b.length ≤ 300000) (a size t : Int) (ht : (Lit.int .i64 t).wf = true) :
    Calls Tryz.prog 166 #[v, .int .i64 a, .int .i64 size, .int .i64 t] w (Tells w (.tuple #[.string (bs (joined (rdR b a size t).pcs)), .agg #[.int .i64 (rdR b a size t).code, .int .i64 (rdR b a size t).place]])) := by
  have hb0 : Below w.heap.size w (w.alloc (.cells #[.int .i64 0, .int .i64 0] 42)) := (Below.refl _ _).alloc (Nat.le_refl _) _
  have HB0 := Lib.hid hb0
  have hS2 := hS
  obtain ⟨av, cv, rfl, _⟩ := hS
  replace hS2 : Sl w lo hi (.slice av b.length cv) (iz b) := by rw [iz_len] at hS2; exact hS2
  rw [iz_len]
  by_cases harg : t < 0 ∨ 65535 < t ∨ size < 0 ∨ 65535 < size
  · have e : rdR b a size t = .bad 2 0 := by unfold rdR; rw [if_pos harg]
    rw [e]
    show Calls _ _ _ _ (Tells w (.tuple #[.string (bs []), .agg #[.int .i64 2, .int .i64 0]]))
    by_cases ht1 : t < 0 ∨ 65535 < t
    · have HT := Lib.hid (fun wx => bounded_no t ht1 wx)
      clear harg e ht1
      go_enter Tryz.func166, Tryz.ntmps166
      go_wp2_with fail
      refine (HT.out _).mono ?_; rintro e w1 ⟨rfl, rfl⟩
      go_wp2_with fail
      exact bodyPost_ret (by simp [results, Tryz.results166, go_sem]; rfl) rfl ⟨rfl, (Below.refl _ _).alloc (Nat.le_refl _) _⟩
    · have HT := Lib.hid (fun wx => bounded_yes t (by omega) (by omega) wx)
      have HT2 := Lib.hid (fun wx => bounded_no size (by omega) wx)
      clear harg e ht1
      go_enter Tryz.func166, Tryz.ntmps166
      go_wp2_with fail
      refine (HT.out _).mono ?_; rintro e w1 ⟨rfl, rfl⟩
      go_wp2_with fail
      refine (HT2.out _).mono ?_; rintro e w1 ⟨rfl, rfl⟩
      go_wp2_with fail
      exact bodyPost_ret (by simp [results, Tryz.results166, go_sem]; rfl) rfl ⟨rfl, (Below.refl _ _).alloc (Nat.le_refl _) _⟩
  · have HT := Lib.hid (fun wx => bounded_yes t (by omega) (by omega) wx)
    have HT2 := Lib.hid (fun wx => bounded_yes size (by omega) (by omega) wx)
    have HBy := Lib.hid (bytes_any (hS2.below hb0 hhi) (by rw [iz_len]; omega) (Nat.le_trans hhi hb0.size) a size (by omega))
    rw [iz_len] at HBy
    rw [rdR_byt b a size t harg]
    by_cases hE : bytE b.length a size = 0
    · rw [if_neg (by simpa using hE)]
      have hin : 0 ≤ a ∧ 0 ≤ size ∧ a + size ≤ b.length := by
        unfold bytE at hE
        split at hE
        · simp at hE
        · split at hE
          · simp at hE
          · split at hE
            · simp at hE
            · omega
      obtain ⟨p, rfl⟩ : ∃ p : Nat, a = p := ⟨a.toNat, by omega⟩
      obtain ⟨m, rfl⟩ : ∃ m : Nat, size = m := ⟨size.toNat, by omega⟩
      have hA : bytA b.length p m = 0 := by unfold bytA; rw [if_neg (by omega)]
      have hF : bytF b.length p m = ((p + m : Nat) : Int) := by unfold bytF; rw [if_pos (by omega)]; push_cast; rfl
      rw [hE, hA, hF] at HBy
      rw [Int.toNat_natCast, Int.toNat_natCast]
      obtain ⟨q, hq⟩ : ∃ q, p + m = q := ⟨_, rfl⟩
      rw [hq] at HBy ⊢
      have HRd := Lib.hid (fun wx (hb : Below w.heap.size w wx) => read_read (s := p) (p := p) (e := q) (F := fun p => rda b p) t ht (hS2.below hb hhi) (Nat.le_trans hhi hb.size) (by omega) (by omega) (by omega) fun wy hs hh p => read_any hs hh (by omega) p)
      have HGl := Lib.hid (fun L (h : goP (fun p => rda b p) b p q (kinds t) p [] = .ok L) => go_len (F := fun p => rda b p) (b := b) (s := p) (e := q) (fun p h => rda_len b p h) (kinds t) p [] L h)
      have HK3 := Lib.hid (kinds_small t).1
      obtain ⟨R, hR⟩ : ∃ R, goP (fun p => rda b p) b p q (kinds t) p [] = R := ⟨_, rfl⟩
      rw [hR] at HRd HGl ⊢
      have HJ : Hid (∀ wx B v, OwnP wx B v R.pcs → Calls Tryz.prog 173 #[v] wx (Tells wx (.string (bs (joined R.pcs))))) := by
        intro wx B v hown
        refine joinP_any hown ?_ ?_
        · rcases R with L | ⟨c, aa⟩
          · obtain ⟨h1, h2⟩ := HGl.out L rfl
            have hk := HK3.out
            show (joined L).length ≤ _
            have h3 : (joined ([] : List Pc)).length = 0 := rfl
            have h4 : (kinds t).length * (b.length + 255) ≤ 3 * (b.length + 255) := Nat.mul_le_mul_right _ hk
            omega
          · show (joined []).length ≤ _; simp [joined]
        · rcases R with L | ⟨c, aa⟩
          · obtain ⟨h1, h2⟩ := HGl.out L rfl
            have hk := HK3.out
            show L.length ≤ _
            simp at h2
            omega
          · simp [RR.pcs]
      clear harg hE hin hA hF hq hR HGl hS2
      go_enter Tryz.func166, Tryz.ntmps166
      go_wp2_with fail
      refine (HT.out _).mono ?_; rintro e w1 ⟨rfl, rfl⟩
      go_wp2_with fail
      refine (HT2.out _).mono ?_; rintro e w1 ⟨rfl, rfl⟩
      go_wp2_with fail
      refine HBy.out.mono ?_; rintro e w1 ⟨v1, g1, rfl, _, _, _, hb1⟩
      simp only [World.size_alloc] at hb1
      have HB1 := Lib.hid hb1
      have hlt := below_lt hb1
      obtain ⟨k0, k1, k3⟩ := res_cells hb1
      have HBW := Lib.hid (HB0.out.trans (hb1.mono (Nat.le_succ _)))
      have HR2 := Lib.hid (HRd.out (w1.alloc (.cells #[.int .i64 0, .int .i64 0] 42)) (bel_alloc HBW.out _))
      clear hb1
      go_wp2_with fail
      refine HR2.out.mono ?_; rintro e w3 ⟨v3, rfl, hown, hb3⟩
      simp only [World.size_alloc] at hown
      have m0 : w3.cell? ⟨w1.heap.size, 0, none⟩ = some (.int .i64 0) := cell_later hb3 (by simp [go_sem])
      have m1 : w3.cell? ⟨w1.heap.size, 1, none⟩ = some (.int .i64 0) := cell_later hb3 (by simp [go_sem])
      have mf : ∀ j, w3.frozen? ⟨w1.heap.size, j, none⟩ = false := fun j => (hb3.frozen (p := ⟨w1.heap.size, j, none⟩) (by simp)).trans (by simp [go_sem])
      have hal1 : Below w1.heap.size w1 (w1.alloc (.cells #[.int .i64 0, .int .i64 0] 42)) := (Below.refl _ _).alloc (Nat.le_refl _) _
      have n0 : w3.cell? ⟨w.heap.size, 0, none⟩ = some (.int .i64 0) := cell_later hb3 (cell_later hal1 k0)
      have n1 : w3.cell? ⟨w.heap.size, 1, none⟩ = some (.int .i64 0) := cell_later hb3 (cell_later hal1 k1)
      have nf : ∀ j, w3.frozen? ⟨w.heap.size, j, none⟩ = false := fun j => (hb3.frozen (p := ⟨w.heap.size, j, none⟩) (by simp; omega)).trans ((hal1.frozen (p := ⟨w.heap.size, j, none⟩) hlt).trans (k3 j))
      obtain ⟨g, hg⟩ : ∃ g, w1.heap.size = g := ⟨_, rfl⟩
      rw [hg] at m0 m1 mf hlt hown ⊢
      obtain ⟨C, hC⟩ : ∃ C, R.code = C := ⟨_, rfl⟩
      obtain ⟨A, hA⟩ : ∃ A, R.place = A := ⟨_, rfl⟩
      rw [hC, hA]
      have HCh := Lib.hid hC
      have HAh := Lib.hid hA
      obtain ⟨W4, hW4⟩ : ∃ W4, (w3.setCell ⟨g, 0, none⟩ (.int .i64 C)).setCell ⟨g, 1, none⟩ (.int .i64 A) = W4 := ⟨_, rfl⟩
      have HW4 := Lib.hid hW4
      have hAs : Aside (fun b => b = g) w3 W4 := by rw [← hW4]; exact aside_set2 w3 g _ _
      obtain ⟨q0, q1⟩ := res_set (.int .i64 C) (.int .i64 A) m0 m1
      have q0' : W4.cell? ⟨g, 0, none⟩ = some (.int .i64 C) := by rw [← hW4, World.cell?_setCell_other _ _ _ _ (by simp)]; exact q0
      have q1' : W4.cell? ⟨g, 1, none⟩ = some (.int .i64 A) := by rw [← hW4]; exact q1
      have hgw : ¬ w.heap.size = g := by omega
      have n0' := hAs.cell_lt n0 hgw
      have n1' := hAs.cell_lt n1 hgw
      have nf' : ∀ j, W4.frozen? ⟨w.heap.size, j, none⟩ = false := fun j => (hAs.frozen (p := ⟨w.heap.size, j, none⟩) (show w.heap.size < _ from World.block_lt_of_cell? w3 ⟨w.heap.size, 0, none⟩ n0) hgw).trans (nf j)
      have ho4 := hown.aside hAs fun b hb e => by have := (hown.lt b hb).1; omega
      have hbw3 : Below w.heap.size w w3 := bel_call (bel_alloc HBW.out _) hb3
      have hbw4 : Below w.heap.size w W4 := below_aside hbw3 hAs fun b hb => ⟨Nat.lt_of_lt_of_le hb hbw3.size, by omega⟩
      have hd4 : Below W4.heap.size W4 W4.drew := (Below.refl _ _).drew
      have HJ4 := Lib.hid (HJ.out W4.drew _ _ (ho4.below hd4))
      have HB4 := Lib.hid hbw4
      have HN4 := Lib.hid (And.intro n0' (And.intro n1' nf'))
      have HQ4 := Lib.hid (And.intro q0' q1')
      have mf0 := mf 0
      have mf1 := mf 1
      clear hown hb3 n0 n1 nf hAs q0 q1 q0' q1' hgw n0' n1' nf' ho4 hbw3 hbw4 hd4 k0 k1 k3 hal1 mf hC hA HR2 HRd HJ HBy
      go_wp2_with fail
      clear m0 m1 mf0 mf1 hW4
      obtain ⟨q0, q1⟩ := HQ4.out
      go_region_held3 (fun wx => wx.cell? ⟨g, 0, none⟩ = some (.int .i64 C) ∧ wx.cell? ⟨g, 1, none⟩ = some (.int .i64 A)) (first | exact HQ4.out | exact ⟨cell_later ((Below.refl _ W4).drew) HQ4.out.1, cell_later ((Below.refl _ W4).drew) HQ4.out.2⟩ | exact HQ5.out | exact ⟨(World.cell?_setCell_other _ _ _ _ (by first | (simp; done) | (simp; omega))).trans ((World.cell?_setCell_other _ _ _ _ (by first | (simp; done) | (simp; omega))).trans HQ5.out.1), (World.cell?_setCell_other _ _ _ _ (by first | (simp; done) | (simp; omega))).trans ((World.cell?_setCell_other _ _ _ _ (by first | (simp; done) | (simp; omega))).trans HQ5.out.2)⟩) (first | (go_at_call 173; refine HJ4.out.mono ?_; rintro e w5 ⟨rfl, hb5⟩; have hbb : Below W4.heap.size W4 w5 := bel_call ((Below.refl _ W4).drew) hb5; have HQ5 := Lib.hid (And.intro (cell_later hbb HQ4.out.1) (cell_later hbb HQ4.out.2)); have HB5 := Lib.hid hbb; have n0 := cell_later hbb HN4.out.1; have n1 := cell_later hbb HN4.out.2.1; have nf0 := (hbb.frozen (p := ⟨w.heap.size, 0, none⟩) (show w.heap.size < _ from World.block_lt_of_cell? W4 ⟨w.heap.size, 0, none⟩ HN4.out.1)).trans (HN4.out.2.2 0); have nf1 := (hbb.frozen (p := ⟨w.heap.size, 1, none⟩) (show w.heap.size < _ from World.block_lt_of_cell? W4 ⟨w.heap.size, 0, none⟩ HN4.out.1)).trans (HN4.out.2.2 1); clear hb5 hbb))
      obtain ⟨z0, z1⟩ := res_set (.int .i64 C) (.int .i64 A) n0 n1
      have HFin := Lib.hid (bel_set2 (bel_call HB4.out HB5.out) (Nat.le_refl _) (.int .i64 C) (.int .i64 A))
      clear HQ4 HQ5 HN4 q0 q1
      go_wp2_with fail
      exact bodyPost_ret (by simp [results, Tryz.results166, go_sem, z0, z1]; rfl) rfl ⟨by rw [HCh.out, HAh.out], HFin.out⟩
    · rw [if_pos hE]
      obtain ⟨E, hEe⟩ : ∃ E, bytE b.length a size = E := ⟨_, rfl⟩
      have hAp : bytA b.length a size = ((bytA b.length a size).toNat : Int) := by unfold bytA; split <;> simp
      obtain ⟨A, hAe⟩ : ∃ A, (bytA b.length a size).toNat = A := ⟨_, rfl⟩
      obtain ⟨F, hFe⟩ : ∃ F, bytF b.length a size = F := ⟨_, rfl⟩
      rw [hAe] at hAp
      rw [hEe, hAp, hFe] at HBy
      rw [hEe] at hE
      rw [hEe, hAe]
      show Calls _ _ _ _ (Tells w (.tuple #[.string (bs []), .agg #[.int .i64 E, .int .i64 A]]))
      have tE : (E != 0) = true := by simpa using hE
      clear harg hE hEe hAe hFe hAp hS2
      go_enter Tryz.func166, Tryz.ntmps166
      go_wp2_with fail
      refine (HT.out _).mono ?_; rintro e w1 ⟨rfl, rfl⟩
      go_wp2_with fail
      refine (HT2.out _).mono ?_; rintro e w1 ⟨rfl, rfl⟩
      go_wp2_with fail
      refine HBy.out.mono ?_; rintro e w1 ⟨v1, g1, rfl, _, _, _, hb1⟩
      simp only [World.size_alloc] at hb1
      have HB1 := Lib.hid hb1
      have hlt := below_lt hb1
      obtain ⟨k0, k1, k3⟩ := res_cells hb1
      have k30 := k3 0
      have k31 := k3 1
      clear hb1
      go_wp2_with fail
      go_region
      all_goals
        try go_wp2_with fail
        obtain ⟨z0, z1⟩ := res_set (.int .i64 E) (.int .i64 A) k0 k1
        exact bodyPost_ret (by simp [results, Tryz.results166, go_sem, z0, z1, hlt]; rfl) rfl ⟨rfl, below_drewN (res_below HB1.out _ _ _) 1⟩
end Go.Proofs.YteegekpanadmkaaGreat

/-
  The reader that goes along a message: data; its methods.
-/
namespace Go.Proofs.YteegekpanadmkaaGreat
open Go.RowKit Go.Shelf
set_option linter.unusedVariables false
set_option linter.unusedSimpArgs false
set_option maxRecDepth 100000

/-- Data are read. -/
def stD (b : List UInt8) (s : RS) (size t : Int) : RS := if s.e ≠ 0 then s else ⟨wrap64 (s.a + size), (rdR b s.a size t).code, ((rdR b s.a size t).place : Nat)⟩
def vlD (b : List UInt8) (s : RS) (size t : Int) (old : List UInt8) : List UInt8 := if s.e ≠ 0 then old else joined (rdR b s.a size t).pcs

set_option maxHeartbeats 4000000 in
theorem data1_any {w : World} {lo hi gs gt : Nat} {vb : Value} {b : List UInt8} {size t : Int} (hS : Sl w lo hi vb (iz b)) (hhi : hi ≤ w.heap.size) (hbl : b.length ≤ 300000) (hs : w.cell? ⟨gs, 0, none⟩ = some (.int .i64 size)) (hw : w.cell? ⟨gt, 0, none⟩ = some (.int .i64 t)) (a : Int) (ht : (Lit.int .i64 t).wf = true) :
    Calls Tryz.prog 165 #[vb, .int .i64 a, .pointer (some ⟨gs, 0, none⟩), .pointer (some ⟨gt, 0, none⟩)] w (Tells w (.tuple #[.string (bs (joined (rdR b a size t).pcs)), .int .i64 (wrap64 (a + size)), .agg #[.int .i64 (rdR b a size t).code, .int .i64 ((rdR b a size t).place : Nat)]])) := by
  have HB0 := Lib.hid ((Below.refl w.heap.size w).alloc (Nat.le_refl _) (.cells #[.int .i64 0, .int .i64 0] 42))
  have hrd := readD_any (w := w.alloc (.cells #[.int .i64 0, .int .i64 0] 42)) (hS.below HB0.out hhi) (Nat.le_trans hhi HB0.out.size) hbl a size t ht
  obtain ⟨n, hn⟩ : ∃ n, joined (rdR b a size t).pcs = n := ⟨_, rfl⟩
  obtain ⟨f, hf⟩ : ∃ f, (rdR b a size t).code = f := ⟨_, rfl⟩
  obtain ⟨g, hg⟩ : ∃ g : Int, ((rdR b a size t).place : Nat) = g := ⟨_, rfl⟩
  rw [hn, hf, hg] at hrd
  rw [hn, hf, hg]
  have HRd := Lib.hid hrd
  have hs1 := cell_later HB0.out hs
  have hw1 := cell_later HB0.out hw
  have ls := World.block_lt_of_cell? w _ hs
  have lw := World.block_lt_of_cell? w _ hw
  simp only at ls lw
  clear hrd hn hf hg hS
  go_enter Tryz.func165, Tryz.ntmps165
  go_wp2_with fail
  refine HRd.out.mono ?_; rintro en w1 ⟨rfl, hb1⟩
  have HB1 := Lib.hid (bel_call HB0.out hb1)
  have hs2 := cell_later hb1 hs1
  simp only [World.size_alloc] at hb1
  obtain ⟨k0, k1, k3⟩ := res_cells hb1
  have hlt := below_lt hb1
  have k30 := k3 0
  have k31 := k3 1
  have lg : gs < w1.heap.size := Nat.lt_of_lt_of_le ls HB1.out.size
  clear hb1 hs1 hw1 k3
  obtain ⟨A, hA⟩ : ∃ A, wrap64 (a + size) = A := ⟨_, rfl⟩
  have hA2 : IntKind.i64.wrap (a + size) = A := by rw [← hA, IntKind.wrap_i64]; first | rfl | (unfold wrap64; rfl)
  rw [hA]
  go_wp2_with fail
  go_region
  go_wp2_with fail
  obtain ⟨z0, z1⟩ := res_set (.int .i64 f) (.int .i64 g) k0 k1
  have hb2 := bel_set2 HB1.out (Nat.le_refl _) (.int .i64 f) (.int .i64 g)
  exact bodyPost_ret (by simp [results, Tryz.results165, go_sem, z0, z1, hlt]; rfl) rfl ⟨by rw [hA], (bel_alloc hb2 _).drew⟩

set_option maxHeartbeats 8000000 in
theorem data_next {w : World} {r q o lo hi gs gt : Nat} {vb : Value} {s : RS} {l : List Value} {b : List UInt8} {size t : Int} (hR : Rdr w r vb s) (hC : Cel w q l) (ho : o < l.length) (hne : r ≠ q) {old : List UInt8} (hold : l[o] = .string (bs old)) (hS : Sl w lo hi vb (iz b)) (hhi : hi ≤ w.heap.size) (hbl : b.length ≤ 300000) (hs : w.cell? ⟨gs, 0, none⟩ = some (.int .i64 size)) (hw : w.cell? ⟨gt, 0, none⟩ = some (.int .i64 t)) (ht : (Lit.int .i64 t).wf = true) :
    Calls Tryz.prog 134 #[.pointer (some ⟨r, 0, none⟩), .pointer (some ⟨q, o, none⟩), .func (.func 165) #[] #[.pointer (some ⟨gs, 0, none⟩), .pointer (some ⟨gt, 0, none⟩)]] w (NextPost w r q o vb (stD b s size t) (l.set o (.string (bs (vlD b s size t old))))) := by
  obtain ⟨a, e, p⟩ := s
  by_cases h0 : e = 0
  · subst h0
    have e1 : stD b ⟨a, 0, p⟩ size t = ⟨wrap64 (a + size), (rdR b a size t).code, ((rdR b a size t).place : Nat)⟩ := by unfold stD; rw [if_neg (by simp)]
    have e2 : vlD b ⟨a, 0, p⟩ size t old = joined (rdR b a size t).pcs := by unfold vlD; rw [if_neg (by simp)]
    rw [e1, e2]
    have hrd := data1_any (w := w.drew) (hS.below (Below.refl w.heap.size w).drew hhi) (Nat.le_trans hhi (Nat.le_refl _)) hbl (cell_later (Below.refl _ w).drew hs) (cell_later (Below.refl _ w).drew hw) a ht
    obtain ⟨n, hn⟩ : ∃ n, joined (rdR b a size t).pcs = n := ⟨_, rfl⟩
    obtain ⟨i, hi2⟩ : ∃ i, wrap64 (a + size) = i := ⟨_, rfl⟩
    obtain ⟨f, hf⟩ : ∃ f, (rdR b a size t).code = f := ⟨_, rfl⟩
    obtain ⟨g, hg⟩ : ∃ g : Int, ((rdR b a size t).place : Nat) = g := ⟨_, rfl⟩
    rw [hn, hi2, hf, hg] at hrd
    rw [hn, hi2, hf, hg]
    clear hn hi2 hf hg e1 e2 hs hw
    have HRd := Lib.hid hrd
    clear hrd
    have HH := Lib.hid (half_start (t := ⟨i, f, g⟩) (v := .string (bs n)) hR hC ho hne hold)
    clear hR hC hold hS
    obtain ⟨c0, c1, c2, c3, fz⟩ := HH.out.rd
    simp only [if_true, if_false, Bool.false_eq_true] at c1 c2 c3
    have c2' : w.cell? ⟨r, 2, none⟩ = some (.int .i64 0) := c2
    have fz1 := fz 1
    have fz2 := fz 2
    have fz3 := fz 3
    have cq := HH.out.old
    have fq := HH.out.ce.fz o
    clear fz
    go_enter Tryz.func134, Tryz.ntmps134
    go_wp2_with fail
    refine wp_region_held_drew (S := (fun wx => wx.cell? ⟨r, 0, none⟩ = some vb)) (by kernel_rfl) HH.out.rd.c0 (fun hHeld => ?_)
    refine wpAnyH_take (i := 0) (v := ?_) rfl (by kernel_rfl) (by kernel_rfl) (by kernel_rfl) (fun _ _ _ h => h) (Or.inl ⟨by rfl, ?_⟩) (by assumption) ?_
    rotate_left 1
    · intro w hSw; (try dsimp only at hSw); go_simp; try (with_reducible rfl)
    try simp only [Act.put, List.setIfInBounds_toArray, List.set_cons_zero, List.set_cons_succ]
    refine wpAnyH_take (i := 1) (v := ?_) rfl (by kernel_rfl) (by kernel_rfl) (by kernel_rfl) (fun _ _ _ h => h) (Or.inl ⟨by rfl, ?_⟩) (by assumption) ?_
    rotate_left 1
    · intro w hSw; (try dsimp only at hSw); go_simp; try (with_reducible rfl)
    try simp only [Act.put, List.setIfInBounds_toArray, List.set_cons_zero, List.set_cons_succ]
    refine wpAnyH_take (i := 2) (v := ?_) rfl (by kernel_rfl) (by kernel_rfl) (by kernel_rfl) (fun _ _ _ h => h) (Or.inl ⟨by rfl, ?_⟩) (by assumption) ?_
    rotate_left 1
    · intro w hSw; (try dsimp only at hSw); go_simp; try (with_reducible rfl)
    try simp only [Act.put, List.setIfInBounds_toArray, List.set_cons_zero, List.set_cons_succ]
    refine wpAnyH_take (i := 3) (v := ?_) rfl (by kernel_rfl) (by kernel_rfl) (by kernel_rfl) (fun _ _ _ h => h) (Or.inl ⟨by rfl, ?_⟩) (by assumption) ?_
    rotate_left 1
    · intro w hSw; (try dsimp only at hSw); go_simp; try (with_reducible rfl)
    try simp only [Act.put, List.setIfInBounds_toArray, List.set_cons_zero, List.set_cons_succ]
    refine wpAnyH_take (i := 4) (v := ?_) rfl (by kernel_rfl) (by kernel_rfl) (by kernel_rfl) (fun _ _ _ h => h) (Or.inl ⟨by rfl, ?_⟩) (by assumption) ?_
    rotate_left 1
    · intro w hSw; (try dsimp only at hSw); go_simp; try (with_reducible rfl)
    try simp only [Act.put, List.setIfInBounds_toArray, List.set_cons_zero, List.set_cons_succ]
    refine wpAnyH_take (i := 5) (v := ?_) rfl (by kernel_rfl) (by kernel_rfl) (by kernel_rfl) (fun _ _ _ h => h) (Or.inl ⟨by rfl, ?_⟩) (by assumption) ?_
    rotate_left 1
    · intro w hSw; (try dsimp only at hSw); go_simp; try (with_reducible rfl)
    try simp only [Act.put, List.setIfInBounds_toArray, List.set_cons_zero, List.set_cons_succ]
    refine wpAnyH_take (i := 6) (v := ?_) rfl (by kernel_rfl) (by kernel_rfl) (by kernel_rfl) (fun _ _ _ h => h) (Or.inl ⟨by rfl, ?_⟩) (by assumption) ?_
    rotate_left 1
    · intro w hSw; (try dsimp only at hSw); go_simp; try (with_reducible rfl)
    try simp only [Act.put, List.setIfInBounds_toArray, List.set_cons_zero, List.set_cons_succ]
    refine wpAnyH_take (i := 7) (v := ?_) rfl (by kernel_rfl) (by kernel_rfl) (by kernel_rfl) (fun _ _ _ h => h) (Or.inl ⟨by rfl, ?_⟩) (by assumption) ?_
    rotate_left 1
    · intro w hSw; (try dsimp only at hSw); go_simp; try (with_reducible rfl)
    try simp only [Act.put, List.setIfInBounds_toArray, List.set_cons_zero, List.set_cons_succ]
    refine wpAnyH_take (i := 8) (v := ?_) rfl (by kernel_rfl) (by kernel_rfl) (by kernel_rfl) (fun _ _ _ h => h) (Or.inl ⟨by rfl, ?_⟩) (by assumption) ?_
    rotate_left 1
    · intro w hSw; (try dsimp only at hSw); go_simp; try (with_reducible rfl)
    try simp only [Act.put, List.setIfInBounds_toArray, List.set_cons_zero, List.set_cons_succ]
    refine wpAnyH_take (i := 9) (v := ?_) rfl (by kernel_rfl) (by kernel_rfl) (by kernel_rfl) (fun _ _ _ h => h) (Or.inl ⟨by rfl, ?_⟩) (by assumption) ?_
    rotate_left 1
    · intro w hSw; (try dsimp only at hSw); go_simp; try (with_reducible rfl)
    try simp only [Act.put, List.setIfInBounds_toArray, List.set_cons_zero, List.set_cons_succ]
    refine wpAnyH_take (i := 10) (v := ?_) rfl (by kernel_rfl) (by kernel_rfl) (by kernel_rfl) (fun _ _ _ h => h) (Or.inl ⟨by rfl, ?_⟩) (by assumption) ?_
    rotate_left 1
    · intro w hSw; (try dsimp only at hSw); go_simp; try (with_reducible rfl)
    try simp only [Act.put, List.setIfInBounds_toArray, List.set_cons_zero, List.set_cons_succ]
    refine wpAnyH_ready (rs := [11]) (by kernel_rfl) (by simp) ?_
    refine AllReadyH.cons rfl (fun K hK => ?_) AllReadyH.nil
    go_simp
    refine hK.out _ _ HH.out.rd.c0 (fun hHeld => ?_)
    clear hK K
    try simp only [Act.put, List.setIfInBounds_toArray, List.set_cons_zero, List.set_cons_succ]
    refine wpAnyH_ready (rs := [12]) (by kernel_rfl) (by simp) ?_
    refine AllReadyH.cons rfl (fun K hK => ?_) AllReadyH.nil
    go_simp
    refine HRd.out.mono ?_; rintro en w1 ⟨rfl, hb1⟩
    replace HH := Lib.hid (HH.out.later hb1)
    clear hb1
    try go_wp2_with fail
    refine hK.out _ _ HH.out.rd.c0 (fun hHeld => ?_)
    clear hK K
    try simp only [Act.put, List.setIfInBounds_toArray, List.set_cons_zero, List.set_cons_succ]
    clear c0 c1 c2 c3 cq fq fz1 fz2 fz3
    obtain ⟨c0, c1, c2, c3, fz⟩ := HH.out.rd
    simp only [if_true, if_false, Bool.false_eq_true] at c1 c2 c3
    have fz1 := fz 1
    have fz2 := fz 2
    have fz3 := fz 3
    have cq := HH.out.old
    have fq := HH.out.ce.fz o
    clear fz
    refine wpAnyH_take (i := 13) (v := ?_) rfl (by kernel_rfl) (by kernel_rfl) (by kernel_rfl) (fun _ _ _ h => h) (Or.inl ⟨by rfl, ?_⟩) (by assumption) ?_
    rotate_left 1
    · intro w hSw; (try dsimp only at hSw); go_simp; try (with_reducible rfl)
    try simp only [Act.put, List.setIfInBounds_toArray, List.set_cons_zero, List.set_cons_succ]
    refine wpAnyH_take (i := 14) (v := ?_) rfl (by kernel_rfl) (by kernel_rfl) (by kernel_rfl) (fun _ _ _ h => h) (Or.inl ⟨by rfl, ?_⟩) (by assumption) ?_
    rotate_left 1
    · intro w hSw; (try dsimp only at hSw); go_simp; try (with_reducible rfl)
    try simp only [Act.put, List.setIfInBounds_toArray, List.set_cons_zero, List.set_cons_succ]
    refine wpAnyH_take (i := 15) (v := ?_) rfl (by kernel_rfl) (by kernel_rfl) (by kernel_rfl) (fun _ _ _ h => h) (Or.inl ⟨by rfl, ?_⟩) (by assumption) ?_
    rotate_left 1
    · intro w hSw; (try dsimp only at hSw); go_simp; try (with_reducible rfl)
    try simp only [Act.put, List.setIfInBounds_toArray, List.set_cons_zero, List.set_cons_succ]
    refine wpAnyH_take (i := 16) (v := ?_) rfl (by kernel_rfl) (by kernel_rfl) (by kernel_rfl) (fun _ _ _ h => h) (Or.inl ⟨by rfl, ?_⟩) (by assumption) ?_
    rotate_left 1
    · intro w hSw; (try dsimp only at hSw); go_simp; try (with_reducible rfl)
    try simp only [Act.put, List.setIfInBounds_toArray, List.set_cons_zero, List.set_cons_succ]
    refine wpAnyH_take (i := 17) (v := ?_) rfl (by kernel_rfl) (by kernel_rfl) (by kernel_rfl) (fun _ _ _ h => h) (Or.inl ⟨by rfl, ?_⟩) (by assumption) ?_
    rotate_left 1
    · intro w hSw; (try dsimp only at hSw); go_simp; try (with_reducible rfl)
    try simp only [Act.put, List.setIfInBounds_toArray, List.set_cons_zero, List.set_cons_succ]
    refine wpAnyH_ready (rs := [18]) (by kernel_rfl) (by simp) ?_
    refine AllReadyH.cons rfl (fun K hK => ?_) AllReadyH.nil
    go_simp
    replace HH := Lib.hid HH.out.sq
    refine hK.out _ _ HH.out.rd.c0 (fun hHeld => ?_)
    clear hK K
    try simp only [Act.put, List.setIfInBounds_toArray, List.set_cons_zero, List.set_cons_succ]
    clear c0 c1 c2 c3 cq fq fz1 fz2 fz3
    obtain ⟨c0, c1, c2, c3, fz⟩ := HH.out.rd
    simp only [if_true, if_false, Bool.false_eq_true] at c1 c2 c3
    have fz1 := fz 1
    have fz2 := fz 2
    have fz3 := fz 3
    have cq := HH.out.old
    have fq := HH.out.ce.fz o
    clear fz
    refine wpAnyH_take (i := 19) (v := ?_) rfl (by kernel_rfl) (by kernel_rfl) (by kernel_rfl) (fun _ _ _ h => h) (Or.inl ⟨by rfl, ?_⟩) (by assumption) ?_
    rotate_left 1
    · intro w hSw; (try dsimp only at hSw); go_simp; try (with_reducible rfl)
    try simp only [Act.put, List.setIfInBounds_toArray, List.set_cons_zero, List.set_cons_succ]
    refine wpAnyH_take (i := 20) (v := ?_) rfl (by kernel_rfl) (by kernel_rfl) (by kernel_rfl) (fun _ _ _ h => h) (Or.inl ⟨by rfl, ?_⟩) (by assumption) ?_
    rotate_left 1
    · intro w hSw; (try dsimp only at hSw); go_simp; try (with_reducible rfl)
    try simp only [Act.put, List.setIfInBounds_toArray, List.set_cons_zero, List.set_cons_succ]
    refine wpAnyH_ready (rs := [21]) (by kernel_rfl) (by simp) ?_
    refine AllReadyH.cons rfl (fun K hK => ?_) AllReadyH.nil
    go_simp
    replace HH := Lib.hid HH.out.sa
    refine hK.out _ _ HH.out.rd.c0 (fun hHeld => ?_)
    clear hK K
    try simp only [Act.put, List.setIfInBounds_toArray, List.set_cons_zero, List.set_cons_succ]
    clear c0 c1 c2 c3 cq fq fz1 fz2 fz3
    obtain ⟨c0, c1, c2, c3, fz⟩ := HH.out.rd
    simp only [if_true, if_false, Bool.false_eq_true] at c1 c2 c3
    have fz1 := fz 1
    have fz2 := fz 2
    have fz3 := fz 3
    have cq := HH.out.old
    have fq := HH.out.ce.fz o
    clear fz
    refine wpAnyH_take (i := 22) (v := ?_) rfl (by kernel_rfl) (by kernel_rfl) (by kernel_rfl) (fun _ _ _ h => h) (Or.inl ⟨by rfl, ?_⟩) (by assumption) ?_
    rotate_left 1
    · intro w hSw; (try dsimp only at hSw); go_simp; try (with_reducible rfl)
    try simp only [Act.put, List.setIfInBounds_toArray, List.set_cons_zero, List.set_cons_succ]
    refine wpAnyH_take (i := 23) (v := ?_) rfl (by kernel_rfl) (by kernel_rfl) (by kernel_rfl) (fun _ _ _ h => h) (Or.inl ⟨by rfl, ?_⟩) (by assumption) ?_
    rotate_left 1
    · intro w hSw; (try dsimp only at hSw); go_simp; try (with_reducible rfl)
    try simp only [Act.put, List.setIfInBounds_toArray, List.set_cons_zero, List.set_cons_succ]
    refine wpAnyH_ready (rs := [24]) (by kernel_rfl) (by simp) ?_
    refine AllReadyH.cons rfl (fun K hK => ?_) AllReadyH.nil
    go_simp
    replace HH := Lib.hid HH.out.sf
    refine hK.out _ _ HH.out.rd.c0 (fun hHeld => ?_)
    clear hK K
    try simp only [Act.put, List.setIfInBounds_toArray, List.set_cons_zero, List.set_cons_succ]
    clear c0 c1 c2 c3 cq fq fz1 fz2 fz3
    obtain ⟨c0, c1, c2, c3, fz⟩ := HH.out.rd
    simp only [if_true, if_false, Bool.false_eq_true] at c1 c2 c3
    have fz1 := fz 1
    have fz2 := fz 2
    have fz3 := fz 3
    have cq := HH.out.old
    have fq := HH.out.ce.fz o
    clear fz
    refine wpAnyH_done (by kernel_rfl) ?_ _
    clear hHeld
    go_wp2_with fail
    go_ret
    exact half_done HH.out


  · have tE : (e == 0) = false := by simpa using h0
    have e1 : stD b ⟨a, e, p⟩ size t = ⟨a, e, p⟩ := by unfold stD; rw [if_pos h0]
    have e2 : (Value.string (bs (vlD b ⟨a, e, p⟩ size t old))) = l[o] := by rw [hold]; unfold vlD; rw [if_pos h0]
    rw [e1, e2, List.set_getElem_self]
    have HR := Lib.hid hR
    have HC := Lib.hid hC
    have c2 := hR.c2
    clear hR hC e1 e2 hS hold
    go_enter Tryz.func134, Tryz.ntmps134
    go_wp2_with fail
    go_ret
    exact ⟨rfl, HR.out, HC.out, Aside.refl _ _⟩

section
variable {w : World} {r q o lo hi : Nat} {vb : Value} {s : RS} {l : List Value} {b : List UInt8}

theorem nameM_any (hR : Rdr w r vb s) (hC : Cel w q l) (ho : o < l.length) (hne : r ≠ q) {old : List UInt8} (hold : l[o] = .string (bs old)) (hS : Sl w lo hi vb (iz b)) (hhi : hi ≤ w.heap.size) (hbl : b.length ≤ 1000000) :
    Calls Tryz.prog 126 #[.pointer (some ⟨r, 0, none⟩), .pointer (some ⟨q, o, none⟩)] w (NextPost w r q o vb (stN b s) (l.set o (.string (bs (vlN b s old))))) := by
  have HN := Lib.hid (name_next hR hC ho hne hold hS hhi hbl)
  clear hR hC hS
  go_enter Tryz.func126, Tryz.ntmps126
  go_wp2_with fail
  refine HN.out.mono ?_; rintro en w1 ⟨rfl, h1, h2, h3⟩
  have HP := Lib.hid (And.intro h1 (And.intro h2 h3))
  clear h1 h2 h3
  go_wp2_with fail
  go_ret
  exact ⟨rfl, HP.out⟩

theorem twoM_any (hR : Rdr w r vb s) (hC : Cel w q l) (ho : o < l.length) (hne : r ≠ q) {old : Int} (hold : l[o] = .int .i64 old) (hS : Sl w lo hi vb (iz b)) (hhi : hi ≤ w.heap.size) (hbl : b.length ≤ 1000000) :
    Calls Tryz.prog 127 #[.pointer (some ⟨r, 0, none⟩), .pointer (some ⟨q, o, none⟩)] w (NextPost w r q o vb (st2 b s) (l.set o (.int .i64 (vl2 b s old)))) := by
  have HN := Lib.hid (two_next hR hC ho hne hold hS hhi hbl)
  clear hR hC hS
  go_enter Tryz.func127, Tryz.ntmps127
  go_wp2_with fail
  refine HN.out.mono ?_; rintro en w1 ⟨rfl, h1, h2, h3⟩
  have HP := Lib.hid (And.intro h1 (And.intro h2 h3))
  clear h1 h2 h3
  go_wp2_with fail
  go_ret
  exact ⟨rfl, HP.out⟩

theorem fourM_any (hR : Rdr w r vb s) (hC : Cel w q l) (ho : o < l.length) (hne : r ≠ q) {old : Int} (hold : l[o] = .int .i64 old) (hS : Sl w lo hi vb (iz b)) (hhi : hi ≤ w.heap.size) (hbl : b.length ≤ 1000000) :
    Calls Tryz.prog 159 #[.pointer (some ⟨r, 0, none⟩), .pointer (some ⟨q, o, none⟩)] w (NextPost w r q o vb (st4 b s) (l.set o (.int .i64 (vl4 b s old)))) := by
  have HN := Lib.hid (four_next hR hC ho hne hold hS hhi hbl)
  clear hR hC hS
  go_enter Tryz.func159, Tryz.ntmps159
  go_wp2_with fail
  refine HN.out.mono ?_; rintro en w1 ⟨rfl, h1, h2, h3⟩
  have HP := Lib.hid (And.intro h1 (And.intro h2 h3))
  clear h1 h2 h3
  go_wp2_with fail
  go_ret
  exact ⟨rfl, HP.out⟩

theorem dataM_any (hR : Rdr w r vb s) (hC : Cel w q l) (ho : o < l.length) (hne : r ≠ q) {old : List UInt8} (hold : l[o] = .string (bs old)) (hS : Sl w lo hi vb (iz b)) (hhi : hi ≤ w.heap.size) (hbl : b.length ≤ 300000) (size t : Int) (ht : (Lit.int .i64 t).wf = true) :
    Calls Tryz.prog 160 #[.pointer (some ⟨r, 0, none⟩), .pointer (some ⟨q, o, none⟩), .int .i64 size, .int .i64 t] w (NextPost w r q o vb (stD b s size t) (l.set o (.string (bs (vlD b s size t old))))) := by
  have a1 : Below w.heap.size w (w.alloc (.cells #[.int .i64 size] 3)) := (Below.refl _ _).alloc (Nat.le_refl _) _
  have a2 : Below w.heap.size w ((w.alloc (.cells #[.int .i64 size] 3)).alloc (.cells #[.int .i64 t] 3)) := bel_alloc a1 _
  have HN := Lib.hid (data_next (gs := w.heap.size) (gt := w.heap.size + 1) (hR.below a2) (hC.below (by omega) a2) ho hne hold (hS.below a2 hhi) (Nat.le_trans hhi a2.size) hbl (size := size) (t := t) (by simp [go_sem]) (by simp [go_sem]) ht)
  have HA := Lib.hid (Aside.of_all a2 : Aside (fun b => b = r ∨ b = q) w _)
  clear hR hC hS a1 a2
  go_enter Tryz.func160, Tryz.ntmps160
  go_wp2_with fail
  refine HN.out.mono ?_; rintro en w1 ⟨rfl, h1, h2, h3⟩
  have HP := Lib.hid (And.intro h1 (And.intro h2 (HA.out.trans h3)))
  clear h1 h2 h3
  go_wp2_with fail
  go_ret
  exact ⟨rfl, HP.out⟩
end

end Go.Proofs.YteegekpanadmkaaGreat

/-
  Question: what is read, the walk.
-/
namespace Go.Proofs.YteegekpanadmkaaGreat
open Go.RowKit Go.Shelf
set_option linter.unusedVariables false
set_option linter.unusedSimpArgs false
set_option maxRecDepth 100000

/-- The reader behind each part, and what each part comes to. -/
def s1 (b : List UInt8) (a : Int) : RS := stN b ⟨a, 0, 0⟩
def rN (b : List UInt8) (a : Int) : List UInt8 := vlN b ⟨a, 0, 0⟩ []
def s2 (b : List UInt8) (a : Int) : RS := st2 b (s1 b a)
def rT (b : List UInt8) (a : Int) : Int := vl2 b (s1 b a) 0
def s3 (b : List UInt8) (a : Int) : RS := st2 b (s2 b a)
def rC (b : List UInt8) (a : Int) : Int := vl2 b (s2 b a) 0
def s4 (b : List UInt8) (a : Int) : RS := st4 b (s3 b a)
def rL (b : List UInt8) (a : Int) : Int := vl4 b (s3 b a) 0
def s5 (b : List UInt8) (a : Int) : RS := st2 b (s4 b a)
def rZ (b : List UInt8) (a : Int) : Int := vl2 b (s4 b a) 0
def s6 (b : List UInt8) (a : Int) : RS := stD b (s5 b a) (rZ b a) (rT b a)
def rD (b : List UInt8) (a : Int) : List UInt8 := vlD b (s5 b a) (rZ b a) (rT b a) []

/-- What Question tells. -/
def quesV (b : List UInt8) (a : Int) : Value :=
  if (s3 b a).e = 0 then .tuple #[.agg #[.string (bs (rN b a)), .int .i64 (rT b a), .int .i64 (rC b a)], .int .i64 (s3 b a).a, .agg #[.int .i64 0, .int .i64 0]]
  else .tuple #[.agg #[.string ⟨#[]⟩, .int .i64 0, .int .i64 0], .int .i64 0, .agg #[.int .i64 (s3 b a).e, .int .i64 (s3 b a).p]]

theorem nx_below {w0 w w' : World} {r q : Nat} (ha : Aside (fun b => b = r ∨ b = q) w w') (hb : Below w0.heap.size w0 w) (hr : w0.heap.size ≤ r) (hq : w0.heap.size ≤ q) : Below w0.heap.size w0 w' :=
  below_aside hb ha fun b hb2 => ⟨Nat.lt_of_lt_of_le hb2 hb.size, fun hg => by rcases hg with rfl | rfl <;> omega⟩

set_option maxHeartbeats 8000000 in
theorem question_any {w : World} {lo hi : Nat} {vb : Value} {b : List UInt8} (hS : Sl w lo hi vb (iz b)) (hhi : hi ≤ w.heap.size) (hbl : b.length ≤ 300000) (a : Int) :
    Calls Tryz.prog 123 #[vb, .int .i64 a] w (Tells w (quesV b a)) := by
  have hS2 := hS
  obtain ⟨av, cv, rfl, _⟩ := hS
  have hS : Sl w lo hi (.slice av b.length cv) (iz b) := by rw [iz_len] at hS2; exact hS2
  clear hS2
  rw [iz_len]
  obtain ⟨m, hm⟩ : ∃ m, b.length = m := ⟨_, rfl⟩
  rw [hm] at hS hbl ⊢
  obtain ⟨vb, hvb⟩ : ∃ vb : Value, .slice av m cv = vb := ⟨_, rfl⟩
  have HVB := Lib.hid hvb
  rw [hvb] at hS ⊢
  clear hvb
  obtain ⟨S1, hS1⟩ : ∃ S, s1 b a = S := ⟨_, rfl⟩
  obtain ⟨S2, hS2⟩ : ∃ S, s2 b a = S := ⟨_, rfl⟩
  obtain ⟨S3, hS3⟩ : ∃ S, s3 b a = S := ⟨_, rfl⟩
  obtain ⟨n, hn⟩ : ∃ n, rN b a = n := ⟨_, rfl⟩
  obtain ⟨t, ht⟩ : ∃ t, rT b a = t := ⟨_, rfl⟩
  obtain ⟨c, hc⟩ : ∃ c, rC b a = c := ⟨_, rfl⟩
  have hV : quesV b a = if S3.e = 0 then .tuple #[.agg #[.string (bs n), .int .i64 t, .int .i64 c], .int .i64 S3.a, .agg #[.int .i64 0, .int .i64 0]]
      else .tuple #[.agg #[.string ⟨#[]⟩, .int .i64 0, .int .i64 0], .int .i64 0, .agg #[.int .i64 S3.e, .int .i64 S3.p]] := by unfold quesV; rw [hS3, hn, ht, hc]
  rw [hV]
  obtain ⟨V, hVV⟩ : ∃ V, (if S3.e = 0 then Value.tuple #[.agg #[.string (bs n), .int .i64 t, .int .i64 c], .int .i64 S3.a, .agg #[.int .i64 0, .int .i64 0]]
      else .tuple #[.agg #[.string ⟨#[]⟩, .int .i64 0, .int .i64 0], .int .i64 0, .agg #[.int .i64 S3.e, .int .i64 S3.p]]) = V := ⟨_, rfl⟩
  rw [hVV]
  have HV := Lib.hid hVV
  clear hVV
  obtain ⟨wA, hA⟩ : ∃ wA, w.alloc (.cells #[.string ⟨#[]⟩, .int .i64 0, .int .i64 0] 56) = wA := ⟨_, rfl⟩
  obtain ⟨wB, hB⟩ : ∃ wB, wA.alloc (.cells #[.int .i64 0, .int .i64 0] 42) = wB := ⟨_, rfl⟩
  obtain ⟨wC, hC⟩ : ∃ wC, wB.alloc (.cells #[.string ⟨#[]⟩, .int .i64 0, .int .i64 0] 56) = wC := ⟨_, rfl⟩
  obtain ⟨wD, hD⟩ : ∃ wD, wC.alloc (.cells #[vb, .int .i64 a, .int .i64 0, .int .i64 0] 177) = wD := ⟨_, rfl⟩
  have zA : wA.heap.size = w.heap.size + 1 := by rw [← hA]; simp
  have zB : wB.heap.size = w.heap.size + 2 := by rw [← hB, World.size_alloc, zA]
  have zC : wC.heap.size = w.heap.size + 3 := by rw [← hC, World.size_alloc, zB]
  have zD : wD.heap.size = w.heap.size + 4 := by rw [← hD, World.size_alloc, zC]
  have bA : Below w.heap.size w wA := by rw [← hA]; exact (Below.refl _ _).alloc (Nat.le_refl _) _
  have bB : Below wA.heap.size wA wB := by rw [← hB]; exact (Below.refl _ _).alloc (Nat.le_refl _) _
  have bC : Below wB.heap.size wB wC := by rw [← hC]; exact (Below.refl _ _).alloc (Nat.le_refl _) _
  have bD : Below wC.heap.size wC wD := by rw [← hD]; exact (Below.refl _ _).alloc (Nat.le_refl _) _
  have hb : Below w.heap.size w wD := bel_call (bel_call (bel_call bA bB) bC) bD
  have c0 : Cel wA w.heap.size [.string ⟨#[]⟩, .int .i64 0, .int .i64 0] := ⟨fun j hj => by
    rw [← hA]
    match j, hj with
    | 0, _ => simp [go_sem]
    | 1, _ => simp [go_sem]
    | 2, _ => simp [go_sem], fun j => by rw [← hA]; simp [go_sem]⟩
  have c1 : Cel wB (w.heap.size + 1) [.int .i64 0, .int .i64 0] := ⟨fun j hj => by
    rw [← hB, ← zA]
    match j, hj with
    | 0, _ => simp [go_sem]
    | 1, _ => simp [go_sem], fun j => by rw [← hB, ← zA]; simp [go_sem]⟩
  have c2 : Cel wC (w.heap.size + 2) [.string ⟨#[]⟩, .int .i64 0, .int .i64 0] := ⟨fun j hj => by
    rw [← hC, ← zB]
    match j, hj with
    | 0, _ => simp [go_sem]
    | 1, _ => simp [go_sem]
    | 2, _ => simp [go_sem], fun j => by rw [← hC, ← zB]; simp [go_sem]⟩
  have cr : Rdr wD (w.heap.size + 3) vb ⟨a, 0, 0⟩ := by
    rw [← hD, ← zC]
    exact ⟨by simp [go_sem], by simp [go_sem], by simp [go_sem], by simp [go_sem], fun j => by simp [go_sem]⟩
  have c0' := ((c0.below (by simp) bB).below (by simp) bC).below (by simp) bD
  have c1' := (c1.below (by simp) bC).below (by simp) bD
  have c2' := c2.below (by simp) bD
  obtain ⟨z, hz⟩ : ∃ z, w.heap.size = z := ⟨_, rfl⟩
  have HS := Lib.hid hS
  have HN := Lib.hid (nameM_any (o := 0) cr c2' (by simp) (by omega) (old := []) rfl (hS.below hb hhi) (Nat.le_trans hhi hb.size) (by omega))
  have e1 : stN b ⟨a, 0, 0⟩ = S1 := hS1
  have e2 : vlN b ⟨a, 0, 0⟩ [] = n := hn
  rw [e1, e2] at HN
  have H2 := Lib.hid (fun wx (hb2 : Below w.heap.size w wx) (hr : Rdr wx (w.heap.size + 3) vb S1) (hc : Cel wx (w.heap.size + 2) [.string (bs n), .int .i64 0, .int .i64 0]) => show Calls Tryz.prog 127 #[.pointer (some ⟨w.heap.size + 3, 0, none⟩), .pointer (some ⟨w.heap.size + 2, 1, none⟩)] wx (NextPost wx (w.heap.size + 3) (w.heap.size + 2) 1 vb S2 [.string (bs n), .int .i64 t, .int .i64 0]) from by
    have h := twoM_any (o := 1) hr hc (by simp) (by omega) (old := 0) rfl (hS.below hb2 hhi) (Nat.le_trans hhi hb2.size) (by omega)
    have g1 : st2 b S1 = S2 := by rw [← hS2, s2, hS1]
    have g2 : vl2 b S1 0 = t := by rw [← ht, rT, hS1]
    rw [g1, g2] at h
    exact h)
  have H3 := Lib.hid (fun wx (hb2 : Below w.heap.size w wx) (hr : Rdr wx (w.heap.size + 3) vb S2) (hc2 : Cel wx (w.heap.size + 2) [.string (bs n), .int .i64 t, .int .i64 0]) => show Calls Tryz.prog 127 #[.pointer (some ⟨w.heap.size + 3, 0, none⟩), .pointer (some ⟨w.heap.size + 2, 2, none⟩)] wx (NextPost wx (w.heap.size + 3) (w.heap.size + 2) 2 vb S3 [.string (bs n), .int .i64 t, .int .i64 c]) from by
    have h := twoM_any (o := 2) hr hc2 (by simp) (by omega) (old := 0) rfl (hS.below hb2 hhi) (Nat.le_trans hhi hb2.size) (by omega)
    have g1 : st2 b S2 = S3 := by rw [← hS3, s3, hS2]
    have g2 : vl2 b S2 0 = c := by rw [← hc, rC, hS2]
    rw [g1, g2] at h
    exact h)
  have HK := Lib.hid (And.intro c0' c1')
  have HB := Lib.hid hb
  clear hS1 hS2 hS3 hn ht hc hV e1 e2 c0 c1 c2 cr c0' c1' c2' bA bB bC bD hb hS
  rw [hz] at HN H2 H3 HK
  have hvb := HVB.out
  subst hvb
  go_enter Tryz.func123, Tryz.ntmps123
  go_wp2_with fail
  refine HN.out.mono ?_; rintro en w1 ⟨rfl, hr, hc, ha⟩
  have hb1 := nx_below (w0 := w) ha HB.out (by omega) (by omega)
  have HB1 := Lib.hid hb1
  have HK1 := Lib.hid (And.intro (HK.out.1.aside (by simp) ha (by omega)) (HK.out.2.aside (by simp) ha (by omega)))
  have HX := Lib.hid (H2.out _ (by rw [← hz]; exact hb1) hr hc)
  clear hr hc ha hb1 HK HB HN H2
  go_wp2_with fail
  refine HX.out.mono ?_; rintro en w2 ⟨rfl, hr, hc, ha⟩
  have hb2 := nx_below (w0 := w) ha HB1.out (by omega) (by omega)
  have HB2 := Lib.hid hb2
  have HK2 := Lib.hid (And.intro (HK1.out.1.aside (by simp) ha (by omega)) (HK1.out.2.aside (by simp) ha (by omega)))
  have HY := Lib.hid (H3.out _ (by rw [← hz]; exact hb2) hr hc)
  clear hr hc ha hb2 HK1 HB1 HX H3
  go_wp2_with fail
  refine HY.out.mono ?_; rintro en w3 ⟨rfl, hr, hc, ha⟩
  have hb3 := nx_below (w0 := w) ha HB2.out (by omega) (by omega)
  have HB3 := Lib.hid hb3
  have HK3 := Lib.hid (And.intro (HK2.out.1.aside (by simp) ha (by omega)) (HK2.out.2.aside (by simp) ha (by omega)))
  obtain ⟨a3, e3, p3⟩ := S3
  obtain ⟨r0, r1, r2, r3, rf⟩ := hr
  simp only at r1 r2 r3
  have q0 : w3.cell? ⟨z + 2, 0, none⟩ = some (.string (bs n)) := hc.c 0 (by simp)
  have q1 : w3.cell? ⟨z + 2, 1, none⟩ = some (.int .i64 t) := hc.c 1 (by simp)
  have q2 : w3.cell? ⟨z + 2, 2, none⟩ = some (.int .i64 c) := hc.c 2 (by simp)
  have k0 : w3.cell? ⟨z, 0, none⟩ = some (.string ⟨#[]⟩) := HK3.out.1.c 0 (by simp)
  have k1 : w3.cell? ⟨z, 1, none⟩ = some (.int .i64 0) := HK3.out.1.c 1 (by simp)
  have k2 : w3.cell? ⟨z, 2, none⟩ = some (.int .i64 0) := HK3.out.1.c 2 (by simp)
  have f0 := HK3.out.1.fz 0
  have f1 := HK3.out.1.fz 1
  have f2 := HK3.out.1.fz 2
  have l0 : w3.cell? ⟨z + 1, 0, none⟩ = some (.int .i64 0) := HK3.out.2.c 0 (by simp)
  have l1 : w3.cell? ⟨z + 1, 1, none⟩ = some (.int .i64 0) := HK3.out.2.c 1 (by simp)
  have g0 := HK3.out.2.fz 0
  have g1 := HK3.out.2.fz 1
  clear hc ha hb3 HK2 HB2 HY rf
  by_cases h0 : e3 = 0
  · subst h0
    rw [if_pos rfl] at HV
    go_wp2_with fail
    go_region
    have W1 := (((((HK3.out.1.set (o := 0) (by simp) (Value.string (bs n))).set (o := 1) (by simp) (Value.int .i64 t)).set (o := 2) (by simp) (Value.int .i64 c)).other (a := ⟨z + 1, 0, none⟩) (by simp) (Value.int .i64 0)).other (a := ⟨z + 1, 1, none⟩) (by simp) (Value.int .i64 0))
    have W2 := (((((HK3.out.2.other (a := ⟨z, 0, none⟩) (by simp) (Value.string (bs n))).other (a := ⟨z, 1, none⟩) (by simp) (Value.int .i64 t)).other (a := ⟨z, 2, none⟩) (by simp) (Value.int .i64 c)).set (o := 0) (by simp) (Value.int .i64 0)).set (o := 1) (by simp) (Value.int .i64 0))
    have x0 : (((((w3.setCell ⟨z, 0, none⟩ (Value.string (bs n))).setCell ⟨z, 1, none⟩ (Value.int .i64 t)).setCell ⟨z, 2, none⟩ (Value.int .i64 c)).setCell ⟨z + 1, 0, none⟩ (Value.int .i64 0)).setCell ⟨z + 1, 1, none⟩ (Value.int .i64 0)).cell? ⟨z, 0, none⟩ = some (Value.string (bs n)) := W1.c 0 (by simp)
    have x1 : (((((w3.setCell ⟨z, 0, none⟩ (Value.string (bs n))).setCell ⟨z, 1, none⟩ (Value.int .i64 t)).setCell ⟨z, 2, none⟩ (Value.int .i64 c)).setCell ⟨z + 1, 0, none⟩ (Value.int .i64 0)).setCell ⟨z + 1, 1, none⟩ (Value.int .i64 0)).cell? ⟨z, 1, none⟩ = some (Value.int .i64 t) := W1.c 1 (by simp)
    have x2 : (((((w3.setCell ⟨z, 0, none⟩ (Value.string (bs n))).setCell ⟨z, 1, none⟩ (Value.int .i64 t)).setCell ⟨z, 2, none⟩ (Value.int .i64 c)).setCell ⟨z + 1, 0, none⟩ (Value.int .i64 0)).setCell ⟨z + 1, 1, none⟩ (Value.int .i64 0)).cell? ⟨z, 2, none⟩ = some (Value.int .i64 c) := W1.c 2 (by simp)
    have y0 : (((((w3.setCell ⟨z, 0, none⟩ (Value.string (bs n))).setCell ⟨z, 1, none⟩ (Value.int .i64 t)).setCell ⟨z, 2, none⟩ (Value.int .i64 c)).setCell ⟨z + 1, 0, none⟩ (Value.int .i64 0)).setCell ⟨z + 1, 1, none⟩ (Value.int .i64 0)).cell? ⟨z + 1, 0, none⟩ = some (Value.int .i64 0) := W2.c 0 (by simp)
    have y1 : (((((w3.setCell ⟨z, 0, none⟩ (Value.string (bs n))).setCell ⟨z, 1, none⟩ (Value.int .i64 t)).setCell ⟨z, 2, none⟩ (Value.int .i64 c)).setCell ⟨z + 1, 0, none⟩ (Value.int .i64 0)).setCell ⟨z + 1, 1, none⟩ (Value.int .i64 0)).cell? ⟨z + 1, 1, none⟩ = some (Value.int .i64 0) := W2.c 1 (by simp)
    have hle : w.heap.size ≤ z := by omega
    have hle1 : w.heap.size ≤ z + 1 := by omega
    have HF := Lib.hid (((((HB3.out.setCell (p := ⟨z, 0, none⟩) hle (Value.string (bs n))).setCell (p := ⟨z, 1, none⟩) hle (Value.int .i64 t)).setCell (p := ⟨z, 2, none⟩) hle (Value.int .i64 c)).setCell (p := ⟨z + 1, 0, none⟩) hle1 (Value.int .i64 0)).setCell (p := ⟨z + 1, 1, none⟩) hle1 (Value.int .i64 0)).drew
    clear W1 W2 hle hle1
    go_wp2_with fail
    exact bodyPost_ret (by simp [results, Tryz.results123, go_sem, x0, x1, x2, y0, y1]; rfl) rfl ⟨by rw [← HV.out], HF.out⟩
  · have tE : (e3 != 0) = true := by simpa using h0
    rw [if_neg h0] at HV
    go_wp2_with fail
    go_region
    have W1 := (((((HK3.out.1.set (o := 0) (by simp) (Value.string ⟨#[]⟩)).set (o := 1) (by simp) (Value.int .i64 0)).set (o := 2) (by simp) (Value.int .i64 0)).other (a := ⟨z + 1, 0, none⟩) (by simp) (Value.int .i64 e3)).other (a := ⟨z + 1, 1, none⟩) (by simp) (Value.int .i64 p3))
    have W2 := (((((HK3.out.2.other (a := ⟨z, 0, none⟩) (by simp) (Value.string ⟨#[]⟩)).other (a := ⟨z, 1, none⟩) (by simp) (Value.int .i64 0)).other (a := ⟨z, 2, none⟩) (by simp) (Value.int .i64 0)).set (o := 0) (by simp) (Value.int .i64 e3)).set (o := 1) (by simp) (Value.int .i64 p3))
    have x0 : (((((w3.setCell ⟨z, 0, none⟩ (Value.string ⟨#[]⟩)).setCell ⟨z, 1, none⟩ (Value.int .i64 0)).setCell ⟨z, 2, none⟩ (Value.int .i64 0)).setCell ⟨z + 1, 0, none⟩ (Value.int .i64 e3)).setCell ⟨z + 1, 1, none⟩ (Value.int .i64 p3)).cell? ⟨z, 0, none⟩ = some (Value.string ⟨#[]⟩) := W1.c 0 (by simp)
    have x1 : (((((w3.setCell ⟨z, 0, none⟩ (Value.string ⟨#[]⟩)).setCell ⟨z, 1, none⟩ (Value.int .i64 0)).setCell ⟨z, 2, none⟩ (Value.int .i64 0)).setCell ⟨z + 1, 0, none⟩ (Value.int .i64 e3)).setCell ⟨z + 1, 1, none⟩ (Value.int .i64 p3)).cell? ⟨z, 1, none⟩ = some (Value.int .i64 0) := W1.c 1 (by simp)
    have x2 : (((((w3.setCell ⟨z, 0, none⟩ (Value.string ⟨#[]⟩)).setCell ⟨z, 1, none⟩ (Value.int .i64 0)).setCell ⟨z, 2, none⟩ (Value.int .i64 0)).setCell ⟨z + 1, 0, none⟩ (Value.int .i64 e3)).setCell ⟨z + 1, 1, none⟩ (Value.int .i64 p3)).cell? ⟨z, 2, none⟩ = some (Value.int .i64 0) := W1.c 2 (by simp)
    have y0 : (((((w3.setCell ⟨z, 0, none⟩ (Value.string ⟨#[]⟩)).setCell ⟨z, 1, none⟩ (Value.int .i64 0)).setCell ⟨z, 2, none⟩ (Value.int .i64 0)).setCell ⟨z + 1, 0, none⟩ (Value.int .i64 e3)).setCell ⟨z + 1, 1, none⟩ (Value.int .i64 p3)).cell? ⟨z + 1, 0, none⟩ = some (Value.int .i64 e3) := W2.c 0 (by simp)
    have y1 : (((((w3.setCell ⟨z, 0, none⟩ (Value.string ⟨#[]⟩)).setCell ⟨z, 1, none⟩ (Value.int .i64 0)).setCell ⟨z, 2, none⟩ (Value.int .i64 0)).setCell ⟨z + 1, 0, none⟩ (Value.int .i64 e3)).setCell ⟨z + 1, 1, none⟩ (Value.int .i64 p3)).cell? ⟨z + 1, 1, none⟩ = some (Value.int .i64 p3) := W2.c 1 (by simp)
    have hle : w.heap.size ≤ z := by omega
    have hle1 : w.heap.size ≤ z + 1 := by omega
    have HF := Lib.hid (((((HB3.out.setCell (p := ⟨z, 0, none⟩) hle (Value.string ⟨#[]⟩)).setCell (p := ⟨z, 1, none⟩) hle (Value.int .i64 0)).setCell (p := ⟨z, 2, none⟩) hle (Value.int .i64 0)).setCell (p := ⟨z + 1, 0, none⟩) hle1 (Value.int .i64 e3)).setCell (p := ⟨z + 1, 1, none⟩) hle1 (Value.int .i64 p3)).drew
    clear W1 W2 hle hle1
    go_wp2_with fail
    exact bodyPost_ret (by simp [results, Tryz.results123, go_sem, x0, x1, x2, y0, y1]; rfl) rfl ⟨by rw [← HV.out], HF.out⟩
end Go.Proofs.YteegekpanadmkaaGreat

/-
  Read: what is read, the walk.
-/
namespace Go.Proofs.YteegekpanadmkaaGreat
open Go.RowKit Go.Shelf
set_option linter.unusedVariables false
set_option linter.unusedSimpArgs false
set_option maxRecDepth 100000

/-- A TTL, as it is told. -/
def ttlR (l : Int) : Int := if 2147483647 < l then 0 else l

/-- What Read tells. -/
def recV (b : List UInt8) (a : Int) : Value :=
  if (s6 b a).e = 0 then .tuple #[.agg #[.string (bs (rN b a)), .int .i64 (rT b a), .int .i64 (rC b a), .int .i64 (ttlR (rL b a)), .string (bs (rD b a))], .int .i64 (s6 b a).a, .agg #[.int .i64 0, .int .i64 0]]
  else .tuple #[.agg #[.string ⟨#[]⟩, .int .i64 0, .int .i64 0, .int .i64 0, .string ⟨#[]⟩], .int .i64 0, .agg #[.int .i64 (s6 b a).e, .int .i64 (s6 b a).p]]

theorem num2_lt (x y : Int) (hx : 0 ≤ x ∧ x < 256) (hy : 0 ≤ y ∧ y < 256) : 0 ≤ num2 x y ∧ num2 x y ≤ 65535 := by unfold num2; omega

theorem vl2_lt (b : List UInt8) (s : RS) : 0 ≤ vl2 b s 0 ∧ vl2 b s 0 ≤ 65535 := by
  unfold vl2
  split
  · decide
  · unfold getF
    split
    · rename_i h
      unfold nAt2
      have hg : ∀ k, 0 ≤ (iz b).getD k 0 ∧ (iz b).getD k 0 < 256 := fun k => by
        rcases Nat.lt_or_ge k b.length with hk | hk
        · rw [iz_get b k hk]
          have : b[k].toNat < 256 := b[k].toNat_lt
          omega
        · rw [List.getD, List.getElem?_eq_none (by rw [iz_len]; exact hk)]; decide
      exact num2_lt _ _ (hg _) (hg _)
    · decide

set_option maxHeartbeats 16000000 in
theorem readC_any {w : World} {lo hi : Nat} {vb : Value} {b : List UInt8} (hS : Sl w lo hi vb (iz b)) (hhi : hi ≤ w.heap.size) (hbl : b.length ≤ 300000) (a : Int) :
    Calls Tryz.prog 156 #[vb, .int .i64 a] w (Tells w (recV b a)) := by
  have hS2 := hS
  obtain ⟨av, cv, rfl, _⟩ := hS
  have hS : Sl w lo hi (.slice av b.length cv) (iz b) := by rw [iz_len] at hS2; exact hS2
  clear hS2
  rw [iz_len]
  obtain ⟨m, hm⟩ : ∃ m, b.length = m := ⟨_, rfl⟩
  rw [hm] at hS hbl ⊢
  obtain ⟨vb, hvb⟩ : ∃ vb : Value, .slice av m cv = vb := ⟨_, rfl⟩
  have HVB := Lib.hid hvb
  rw [hvb] at hS ⊢
  clear hvb
  obtain ⟨S1, hS1⟩ : ∃ S, s1 b a = S := ⟨_, rfl⟩
  obtain ⟨S2, hS2⟩ : ∃ S, s2 b a = S := ⟨_, rfl⟩
  obtain ⟨S3, hS3⟩ : ∃ S, s3 b a = S := ⟨_, rfl⟩
  obtain ⟨S4, hS4⟩ : ∃ S, s4 b a = S := ⟨_, rfl⟩
  obtain ⟨S5, hS5⟩ : ∃ S, s5 b a = S := ⟨_, rfl⟩
  obtain ⟨S6, hS6⟩ : ∃ S, s6 b a = S := ⟨_, rfl⟩
  obtain ⟨n, hn⟩ : ∃ n, rN b a = n := ⟨_, rfl⟩
  obtain ⟨t, ht⟩ : ∃ t, rT b a = t := ⟨_, rfl⟩
  obtain ⟨c, hc⟩ : ∃ c, rC b a = c := ⟨_, rfl⟩
  obtain ⟨l, hl⟩ : ∃ l, rL b a = l := ⟨_, rfl⟩
  obtain ⟨y, hy⟩ : ∃ y, rZ b a = y := ⟨_, rfl⟩
  obtain ⟨d, hd⟩ : ∃ d, rD b a = d := ⟨_, rfl⟩
  have hwt : (Lit.int .i64 t).wf = true := by
    have h := vl2_lt b (s1 b a)
    have e : vl2 b (s1 b a) 0 = t := ht
    rw [e] at h
    exact WalkArith.wf_i64 (by omega)
  have hV : recV b a = if S6.e = 0 then .tuple #[.agg #[.string (bs n), .int .i64 t, .int .i64 c, .int .i64 (ttlR l), .string (bs d)], .int .i64 S6.a, .agg #[.int .i64 0, .int .i64 0]]
      else .tuple #[.agg #[.string ⟨#[]⟩, .int .i64 0, .int .i64 0, .int .i64 0, .string ⟨#[]⟩], .int .i64 0, .agg #[.int .i64 S6.e, .int .i64 S6.p]] := by unfold recV; rw [hS6, hn, ht, hc, hl, hd]
  rw [hV]
  obtain ⟨V, hVV⟩ : ∃ V, (if S6.e = 0 then Value.tuple #[.agg #[.string (bs n), .int .i64 t, .int .i64 c, .int .i64 (ttlR l), .string (bs d)], .int .i64 S6.a, .agg #[.int .i64 0, .int .i64 0]]
      else .tuple #[.agg #[.string ⟨#[]⟩, .int .i64 0, .int .i64 0, .int .i64 0, .string ⟨#[]⟩], .int .i64 0, .agg #[.int .i64 S6.e, .int .i64 S6.p]]) = V := ⟨_, rfl⟩
  rw [hVV]
  have HV := Lib.hid hVV
  clear hVV
  obtain ⟨wA, hA⟩ : ∃ wA, w.alloc (.cells #[.string ⟨#[]⟩, .int .i64 0, .int .i64 0, .int .i64 0, .string ⟨#[]⟩] 52) = wA := ⟨_, rfl⟩
  obtain ⟨wB, hB⟩ : ∃ wB, wA.alloc (.cells #[.int .i64 0, .int .i64 0] 42) = wB := ⟨_, rfl⟩
  obtain ⟨wC, hC⟩ : ∃ wC, wB.alloc (.cells #[.string ⟨#[]⟩, .int .i64 0, .int .i64 0, .int .i64 0, .string ⟨#[]⟩] 52) = wC := ⟨_, rfl⟩
  obtain ⟨wD, hD⟩ : ∃ wD, wC.alloc (.cells #[.int .i64 0] 3) = wD := ⟨_, rfl⟩
  obtain ⟨wE, hE⟩ : ∃ wE, wD.alloc (.cells #[vb, .int .i64 a, .int .i64 0, .int .i64 0] 177) = wE := ⟨_, rfl⟩
  have zA : wA.heap.size = w.heap.size + 1 := by rw [← hA]; simp
  have zB : wB.heap.size = w.heap.size + 2 := by rw [← hB, World.size_alloc, zA]
  have zC : wC.heap.size = w.heap.size + 3 := by rw [← hC, World.size_alloc, zB]
  have zD : wD.heap.size = w.heap.size + 4 := by rw [← hD, World.size_alloc, zC]
  have zE : wE.heap.size = w.heap.size + 5 := by rw [← hE, World.size_alloc, zD]
  have bA : Below w.heap.size w wA := by rw [← hA]; exact (Below.refl _ _).alloc (Nat.le_refl _) _
  have bB : Below wA.heap.size wA wB := by rw [← hB]; exact (Below.refl _ _).alloc (Nat.le_refl _) _
  have bC : Below wB.heap.size wB wC := by rw [← hC]; exact (Below.refl _ _).alloc (Nat.le_refl _) _
  have bD : Below wC.heap.size wC wD := by rw [← hD]; exact (Below.refl _ _).alloc (Nat.le_refl _) _
  have bE : Below wD.heap.size wD wE := by rw [← hE]; exact (Below.refl _ _).alloc (Nat.le_refl _) _
  have hb : Below w.heap.size w wE := bel_call (bel_call (bel_call (bel_call bA bB) bC) bD) bE
  have c0 : Cel wA (w.heap.size) [.string ⟨#[]⟩, .int .i64 0, .int .i64 0, .int .i64 0, .string ⟨#[]⟩] := ⟨fun j hj => by
    rw [← hA]
    match j, hj with
    | 0, _ => simp [go_sem]
    | 1, _ => simp [go_sem]
    | 2, _ => simp [go_sem]
    | 3, _ => simp [go_sem]
    | 4, _ => simp [go_sem], fun j => by rw [← hA]; simp [go_sem]⟩
  have c1 : Cel wB (w.heap.size + 1) [.int .i64 0, .int .i64 0] := ⟨fun j hj => by
    rw [← hB, ← zA]
    match j, hj with
    | 0, _ => simp [go_sem]
    | 1, _ => simp [go_sem], fun j => by rw [← hB, ← zA]; simp [go_sem]⟩
  have c2 : Cel wC (w.heap.size + 2) [.string ⟨#[]⟩, .int .i64 0, .int .i64 0, .int .i64 0, .string ⟨#[]⟩] := ⟨fun j hj => by
    rw [← hC, ← zB]
    match j, hj with
    | 0, _ => simp [go_sem]
    | 1, _ => simp [go_sem]
    | 2, _ => simp [go_sem]
    | 3, _ => simp [go_sem]
    | 4, _ => simp [go_sem], fun j => by rw [← hC, ← zB]; simp [go_sem]⟩
  have c3 : Cel wD (w.heap.size + 3) [.int .i64 0] := ⟨fun j hj => by
    rw [← hD, ← zC]
    match j, hj with
    | 0, _ => simp [go_sem], fun j => by rw [← hD, ← zC]; simp [go_sem]⟩
  have cr : Rdr wE (w.heap.size + 4) vb ⟨a, 0, 0⟩ := by
    rw [← hE, ← zD]
    exact ⟨by simp [go_sem], by simp [go_sem], by simp [go_sem], by simp [go_sem], fun j => by simp [go_sem]⟩
  have c0' := (((c0.below (by simp) bB).below (by simp) bC).below (by simp) bD).below (by simp) bE
  have c1' := ((c1.below (by simp) bC).below (by simp) bD).below (by simp) bE
  have c2' := (c2.below (by simp) bD).below (by simp) bE
  have c3' := c3.below (by simp) bE
  obtain ⟨z, hz⟩ : ∃ z, w.heap.size = z := ⟨_, rfl⟩
  have HN := Lib.hid (nameM_any (o := 0) cr c2' (by simp) (by omega) (old := []) rfl (hS.below hb hhi) (Nat.le_trans hhi hb.size) (by omega))
  have e1 : stN b ⟨a, 0, 0⟩ = S1 := hS1
  have e2 : vlN b ⟨a, 0, 0⟩ [] = n := hn
  rw [e1, e2] at HN
  have H2 := Lib.hid (fun wx (hb2 : Below w.heap.size w wx) (hr : Rdr wx (w.heap.size + 4) vb S1) (hc2 : Cel wx (w.heap.size + 2) [.string (bs n), .int .i64 0, .int .i64 0, .int .i64 0, .string ⟨#[]⟩]) => show Calls Tryz.prog 127 #[.pointer (some ⟨w.heap.size + 4, 0, none⟩), .pointer (some ⟨w.heap.size + 2, 1, none⟩)] wx (NextPost wx (w.heap.size + 4) (w.heap.size + 2) 1 vb S2 [.string (bs n), .int .i64 t, .int .i64 0, .int .i64 0, .string ⟨#[]⟩]) from by
    have h := twoM_any (o := 1) hr hc2 (by simp) (by omega) (old := 0) rfl (hS.below hb2 hhi) (Nat.le_trans hhi hb2.size) (by omega)
    have g1 : st2 b S1 = S2 := by rw [← hS2, s2, hS1]
    have g2 : vl2 b S1 0 = t := by rw [← ht, rT, hS1]
    rw [g1, g2] at h
    exact h)
  have H3 := Lib.hid (fun wx (hb2 : Below w.heap.size w wx) (hr : Rdr wx (w.heap.size + 4) vb S2) (hc2 : Cel wx (w.heap.size + 2) [.string (bs n), .int .i64 t, .int .i64 0, .int .i64 0, .string ⟨#[]⟩]) => show Calls Tryz.prog 127 #[.pointer (some ⟨w.heap.size + 4, 0, none⟩), .pointer (some ⟨w.heap.size + 2, 2, none⟩)] wx (NextPost wx (w.heap.size + 4) (w.heap.size + 2) 2 vb S3 [.string (bs n), .int .i64 t, .int .i64 c, .int .i64 0, .string ⟨#[]⟩]) from by
    have h := twoM_any (o := 2) hr hc2 (by simp) (by omega) (old := 0) rfl (hS.below hb2 hhi) (Nat.le_trans hhi hb2.size) (by omega)
    have g1 : st2 b S2 = S3 := by rw [← hS3, s3, hS2]
    have g2 : vl2 b S2 0 = c := by rw [← hc, rC, hS2]
    rw [g1, g2] at h
    exact h)
  have H4 := Lib.hid (fun wx (hb2 : Below w.heap.size w wx) (hr : Rdr wx (w.heap.size + 4) vb S3) (hc2 : Cel wx (w.heap.size + 2) [.string (bs n), .int .i64 t, .int .i64 c, .int .i64 0, .string ⟨#[]⟩]) => show Calls Tryz.prog 159 #[.pointer (some ⟨w.heap.size + 4, 0, none⟩), .pointer (some ⟨w.heap.size + 2, 3, none⟩)] wx (NextPost wx (w.heap.size + 4) (w.heap.size + 2) 3 vb S4 [.string (bs n), .int .i64 t, .int .i64 c, .int .i64 l, .string ⟨#[]⟩]) from by
    have h := fourM_any (o := 3) hr hc2 (by simp) (by omega) (old := 0) rfl (hS.below hb2 hhi) (Nat.le_trans hhi hb2.size) (by omega)
    have g1 : st4 b S3 = S4 := by rw [← hS4, s4, hS3]
    have g2 : vl4 b S3 0 = l := by rw [← hl, rL, hS3]
    rw [g1, g2] at h
    exact h)
  have H5 := Lib.hid (fun wx (hb2 : Below w.heap.size w wx) (hr : Rdr wx (w.heap.size + 4) vb S4) (hc2 : Cel wx (w.heap.size + 3) [.int .i64 0]) => show Calls Tryz.prog 127 #[.pointer (some ⟨w.heap.size + 4, 0, none⟩), .pointer (some ⟨w.heap.size + 3, 0, none⟩)] wx (NextPost wx (w.heap.size + 4) (w.heap.size + 3) 0 vb S5 [.int .i64 y]) from by
    have h := twoM_any (o := 0) hr hc2 (by simp) (by omega) (old := 0) rfl (hS.below hb2 hhi) (Nat.le_trans hhi hb2.size) (by omega)
    have g1 : st2 b S4 = S5 := by rw [← hS5, s5, hS4]
    have g2 : vl2 b S4 0 = y := by rw [← hy, rZ, hS4]
    rw [g1, g2] at h
    exact h)
  have H6 := Lib.hid (fun wx (hb2 : Below w.heap.size w wx) (hr : Rdr wx (w.heap.size + 4) vb S5) (hc2 : Cel wx (w.heap.size + 2) [.string (bs n), .int .i64 t, .int .i64 c, .int .i64 l, .string ⟨#[]⟩]) => show Calls Tryz.prog 160 #[.pointer (some ⟨w.heap.size + 4, 0, none⟩), .pointer (some ⟨w.heap.size + 2, 4, none⟩), .int .i64 y, .int .i64 t] wx (NextPost wx (w.heap.size + 4) (w.heap.size + 2) 4 vb S6 [.string (bs n), .int .i64 t, .int .i64 c, .int .i64 l, .string (bs d)]) from by
    have h := dataM_any (o := 4) hr hc2 (by simp) (by omega) (old := []) rfl (hS.below hb2 hhi) (Nat.le_trans hhi hb2.size) (by omega) y t hwt
    have g1 : stD b S5 y t = S6 := by rw [← hS6, s6, hS5, hy, ht]
    have g2 : vlD b S5 y t [] = d := by rw [← hd, rD, hS5, hy, ht]
    rw [g1, g2] at h
    exact h)
  have HK := Lib.hid (And.intro c0' c1')
  have HQ3 := Lib.hid c3'
  have HB := Lib.hid hb
  clear hS1 hS2 hS3 hS4 hS5 hS6 hn ht hc hl hy hd hV e1 e2 c0 c1 c2 c3 cr c0' c1' c2' c3' bA bB bC bD bE hb hS
  rw [hz] at HN H2 H3 H4 H5 H6 HK HQ3
  have hvb := HVB.out
  subst hvb
  go_enter Tryz.func156, Tryz.ntmps156
  go_wp2_with fail
  refine HN.out.mono ?_; rintro en w1 ⟨rfl, hr, hc, ha⟩
  have hb1 := nx_below (w0 := w) ha HB.out (by omega) (by omega)
  have HB1 := Lib.hid hb1
  have HK1 := Lib.hid (And.intro (HK.out.1.aside (by simp) ha (by omega)) (HK.out.2.aside (by simp) ha (by omega)))
  have HQ4 := Lib.hid (HQ3.out.aside (by simp) ha (by omega))
  have HX2 := Lib.hid (H2.out _ (by rw [← hz]; exact hb1) hr hc)
  clear hr hc ha hb1 HK HB HN H2 HQ3
  go_wp2_with fail
  refine HX2.out.mono ?_; rintro en w2 ⟨rfl, hr, hc, ha⟩
  have hb2 := nx_below (w0 := w) ha HB1.out (by omega) (by omega)
  have HB2 := Lib.hid hb2
  have HK2 := Lib.hid (And.intro (HK1.out.1.aside (by simp) ha (by omega)) (HK1.out.2.aside (by simp) ha (by omega)))
  have HQ5 := Lib.hid (HQ4.out.aside (by simp) ha (by omega))
  have HX3 := Lib.hid (H3.out _ (by rw [← hz]; exact hb2) hr hc)
  clear hr hc ha hb2 HK1 HB1 HX2 H3 HQ4
  go_wp2_with fail
  refine HX3.out.mono ?_; rintro en w3 ⟨rfl, hr, hc, ha⟩
  have hb3 := nx_below (w0 := w) ha HB2.out (by omega) (by omega)
  have HB3 := Lib.hid hb3
  have HK3 := Lib.hid (And.intro (HK2.out.1.aside (by simp) ha (by omega)) (HK2.out.2.aside (by simp) ha (by omega)))
  have HQ6 := Lib.hid (HQ5.out.aside (by simp) ha (by omega))
  have HX4 := Lib.hid (H4.out _ (by rw [← hz]; exact hb3) hr hc)
  clear hr hc ha hb3 HK2 HB2 HX3 H4 HQ5
  go_wp2_with fail
  refine HX4.out.mono ?_; rintro en w4 ⟨rfl, hr, hc, ha⟩
  have hb4 := nx_below (w0 := w) ha HB3.out (by omega) (by omega)
  have HB4 := Lib.hid hb4
  have HK4 := Lib.hid (And.intro (HK3.out.1.aside (by simp) ha (by omega)) (HK3.out.2.aside (by simp) ha (by omega)))
  have hq := HQ6.out.aside (by simp) ha (by omega)
  have HR4 := Lib.hid hc
  have HX5 := Lib.hid (H5.out _ (by rw [← hz]; exact hb4) hr hq)
  clear hr hc ha hb4 HK3 HB3 HX4 H5 HQ6 hq
  go_wp2_with fail
  refine HX5.out.mono ?_; rintro en w5 ⟨rfl, hr, hc, ha⟩
  have hb5 := nx_below (w0 := w) ha HB4.out (by omega) (by omega)
  have HB5 := Lib.hid hb5
  have HK5 := Lib.hid (And.intro (HK4.out.1.aside (by simp) ha (by omega)) (HK4.out.2.aside (by simp) ha (by omega)))
  have hc5 := HR4.out.aside (by simp) ha (by omega)
  have u0 : w5.cell? ⟨z + 3, 0, none⟩ = some (.int .i64 y) := hc.c 0 (by simp)
  have u1 : w5.cell? ⟨z + 2, 1, none⟩ = some (.int .i64 t) := hc5.c 1 (by simp)
  have HX6 := Lib.hid (H6.out _ (by rw [← hz]; exact hb5) hr hc5)
  clear hr hc ha hb5 HK4 HB4 HX5 H6 HR4 hc5
  go_wp2_with fail
  refine HX6.out.mono ?_; rintro en w6 ⟨rfl, hr, hc, ha⟩
  have hb6 := nx_below (w0 := w) ha HB5.out (by omega) (by omega)
  have HB6 := Lib.hid hb6
  have HK6 := Lib.hid (And.intro (HK5.out.1.aside (by simp) ha (by omega)) (HK5.out.2.aside (by simp) ha (by omega)))
  obtain ⟨a3, e3, p3⟩ := S6
  obtain ⟨r0, r1, r2, r3, rf⟩ := hr
  simp only at r1 r2 r3
  clear u0 u1
  have q0 : w6.cell? ⟨z + 2, 0, none⟩ = some (.string (bs n)) := hc.c 0 (by simp)
  have q1 : w6.cell? ⟨z + 2, 1, none⟩ = some (.int .i64 t) := hc.c 1 (by simp)
  have q2 : w6.cell? ⟨z + 2, 2, none⟩ = some (.int .i64 c) := hc.c 2 (by simp)
  have q3 : w6.cell? ⟨z + 2, 3, none⟩ = some (.int .i64 l) := hc.c 3 (by simp)
  have q4 : w6.cell? ⟨z + 2, 4, none⟩ = some (.string (bs d)) := hc.c 4 (by simp)
  have qf := hc.fz 3
  have k0 : w6.cell? ⟨z, 0, none⟩ = some (.string ⟨#[]⟩) := HK6.out.1.c 0 (by simp)
  have f0 := HK6.out.1.fz 0
  have k1 : w6.cell? ⟨z, 1, none⟩ = some (.int .i64 0) := HK6.out.1.c 1 (by simp)
  have f1 := HK6.out.1.fz 1
  have k2 : w6.cell? ⟨z, 2, none⟩ = some (.int .i64 0) := HK6.out.1.c 2 (by simp)
  have f2 := HK6.out.1.fz 2
  have k3 : w6.cell? ⟨z, 3, none⟩ = some (.int .i64 0) := HK6.out.1.c 3 (by simp)
  have f3 := HK6.out.1.fz 3
  have k4 : w6.cell? ⟨z, 4, none⟩ = some (.string ⟨#[]⟩) := HK6.out.1.c 4 (by simp)
  have f4 := HK6.out.1.fz 4
  have l0 : w6.cell? ⟨z + 1, 0, none⟩ = some (.int .i64 0) := HK6.out.2.c 0 (by simp)
  have l1 : w6.cell? ⟨z + 1, 1, none⟩ = some (.int .i64 0) := HK6.out.2.c 1 (by simp)
  have g0 := HK6.out.2.fz 0
  have g1 := HK6.out.2.fz 1
  clear ha hb6 HK5 HB5 HX6 rf
  have HC6 := Lib.hid hc
  clear hc
  by_cases h0 : e3 = 0
  · subst h0
    rw [if_pos rfl] at HV
    by_cases hbig : 2147483647 < l
    · have tl : decide ((2147483647 : Int) < l) = true := by simpa using hbig
      have et : ttlR l = 0 := if_pos hbig
      rw [et] at HV
      obtain ⟨w7, hw7⟩ : ∃ w7, w6.setCell ⟨z + 2, 3, none⟩ (.int .i64 0) = w7 := ⟨_, rfl⟩
      have ha7 : Aside (fun b => b = z + 2) w6 w7 := by rw [← hw7]; exact Aside.setCell w6 (p := ⟨z + 2, 3, none⟩) _ rfl
      have hc7 : Cel w7 (z + 2) [.string (bs n), .int .i64 t, .int .i64 c, .int .i64 0, .string (bs d)] := by rw [← hw7]; exact HC6.out.set (o := 3) (by simp) (.int .i64 0)
      have HB7 := Lib.hid (below_aside HB6.out ha7 fun b hb => ⟨Nat.lt_of_lt_of_le hb HB6.out.size, by omega⟩)
      have HK7 := Lib.hid (And.intro (HK6.out.1.aside (by simp) ha7 (by omega)) (HK6.out.2.aside (by simp) ha7 (by omega)))
      have R0 := ha7.cell_lt r0 (by simp)
      have R1 := ha7.cell_lt r1 (by simp)
      have R2 := ha7.cell_lt r2 (by simp)
      have R3 := ha7.cell_lt r3 (by simp)
      have Q0 : w7.cell? ⟨z + 2, 0, none⟩ = some (.string (bs n)) := hc7.c 0 (by simp)
      have Q1 : w7.cell? ⟨z + 2, 1, none⟩ = some (.int .i64 t) := hc7.c 1 (by simp)
      have Q2 : w7.cell? ⟨z + 2, 2, none⟩ = some (.int .i64 c) := hc7.c 2 (by simp)
      have Q3 : w7.cell? ⟨z + 2, 3, none⟩ = some (.int .i64 0) := hc7.c 3 (by simp)
      have Q4 : w7.cell? ⟨z + 2, 4, none⟩ = some (.string (bs d)) := hc7.c 4 (by simp)
      have K0 : w7.cell? ⟨z, 0, none⟩ = some (.string ⟨#[]⟩) := HK7.out.1.c 0 (by simp)
      have F0 := HK7.out.1.fz 0
      have K1 : w7.cell? ⟨z, 1, none⟩ = some (.int .i64 0) := HK7.out.1.c 1 (by simp)
      have F1 := HK7.out.1.fz 1
      have K2 : w7.cell? ⟨z, 2, none⟩ = some (.int .i64 0) := HK7.out.1.c 2 (by simp)
      have F2 := HK7.out.1.fz 2
      have K3 : w7.cell? ⟨z, 3, none⟩ = some (.int .i64 0) := HK7.out.1.c 3 (by simp)
      have F3 := HK7.out.1.fz 3
      have K4 : w7.cell? ⟨z, 4, none⟩ = some (.string ⟨#[]⟩) := HK7.out.1.c 4 (by simp)
      have F4 := HK7.out.1.fz 4
      have L0 : w7.cell? ⟨z + 1, 0, none⟩ = some (.int .i64 0) := HK7.out.2.c 0 (by simp)
      have L1 : w7.cell? ⟨z + 1, 1, none⟩ = some (.int .i64 0) := HK7.out.2.c 1 (by simp)
      have G0 := HK7.out.2.fz 0
      have G1 := HK7.out.2.fz 1
      clear ha7 hc7 et
      go_wp2_with fail
      go_region
      have W1 := (((((((HK7.out.1.set (o := 0) (by simp) (Value.string (bs n))).set (o := 1) (by simp) (Value.int .i64 t)).set (o := 2) (by simp) (Value.int .i64 c)).set (o := 3) (by simp) (Value.int .i64 0)).set (o := 4) (by simp) (Value.string (bs d))).other (a := ⟨z + 1, 0, none⟩) (by simp) (Value.int .i64 0)).other (a := ⟨z + 1, 1, none⟩) (by simp) (Value.int .i64 0))
      have W2 := (((((((HK7.out.2.other (a := ⟨z, 0, none⟩) (by simp) (Value.string (bs n))).other (a := ⟨z, 1, none⟩) (by simp) (Value.int .i64 t)).other (a := ⟨z, 2, none⟩) (by simp) (Value.int .i64 c)).other (a := ⟨z, 3, none⟩) (by simp) (Value.int .i64 0)).other (a := ⟨z, 4, none⟩) (by simp) (Value.string (bs d))).set (o := 0) (by simp) (Value.int .i64 0)).set (o := 1) (by simp) (Value.int .i64 0))
      have x0 : (((((((w7.setCell ⟨z, 0, none⟩ (Value.string (bs n))).setCell ⟨z, 1, none⟩ (Value.int .i64 t)).setCell ⟨z, 2, none⟩ (Value.int .i64 c)).setCell ⟨z, 3, none⟩ (Value.int .i64 0)).setCell ⟨z, 4, none⟩ (Value.string (bs d))).setCell ⟨z + 1, 0, none⟩ (Value.int .i64 0)).setCell ⟨z + 1, 1, none⟩ (Value.int .i64 0)).cell? ⟨z, 0, none⟩ = some (Value.string (bs n)) := W1.c 0 (by simp)
      have x1 : (((((((w7.setCell ⟨z, 0, none⟩ (Value.string (bs n))).setCell ⟨z, 1, none⟩ (Value.int .i64 t)).setCell ⟨z, 2, none⟩ (Value.int .i64 c)).setCell ⟨z, 3, none⟩ (Value.int .i64 0)).setCell ⟨z, 4, none⟩ (Value.string (bs d))).setCell ⟨z + 1, 0, none⟩ (Value.int .i64 0)).setCell ⟨z + 1, 1, none⟩ (Value.int .i64 0)).cell? ⟨z, 1, none⟩ = some (Value.int .i64 t) := W1.c 1 (by simp)
      have x2 : (((((((w7.setCell ⟨z, 0, none⟩ (Value.string (bs n))).setCell ⟨z, 1, none⟩ (Value.int .i64 t)).setCell ⟨z, 2, none⟩ (Value.int .i64 c)).setCell ⟨z, 3, none⟩ (Value.int .i64 0)).setCell ⟨z, 4, none⟩ (Value.string (bs d))).setCell ⟨z + 1, 0, none⟩ (Value.int .i64 0)).setCell ⟨z + 1, 1, none⟩ (Value.int .i64 0)).cell? ⟨z, 2, none⟩ = some (Value.int .i64 c) := W1.c 2 (by simp)
      have x3 : (((((((w7.setCell ⟨z, 0, none⟩ (Value.string (bs n))).setCell ⟨z, 1, none⟩ (Value.int .i64 t)).setCell ⟨z, 2, none⟩ (Value.int .i64 c)).setCell ⟨z, 3, none⟩ (Value.int .i64 0)).setCell ⟨z, 4, none⟩ (Value.string (bs d))).setCell ⟨z + 1, 0, none⟩ (Value.int .i64 0)).setCell ⟨z + 1, 1, none⟩ (Value.int .i64 0)).cell? ⟨z, 3, none⟩ = some (Value.int .i64 0) := W1.c 3 (by simp)
      have x4 : (((((((w7.setCell ⟨z, 0, none⟩ (Value.string (bs n))).setCell ⟨z, 1, none⟩ (Value.int .i64 t)).setCell ⟨z, 2, none⟩ (Value.int .i64 c)).setCell ⟨z, 3, none⟩ (Value.int .i64 0)).setCell ⟨z, 4, none⟩ (Value.string (bs d))).setCell ⟨z + 1, 0, none⟩ (Value.int .i64 0)).setCell ⟨z + 1, 1, none⟩ (Value.int .i64 0)).cell? ⟨z, 4, none⟩ = some (Value.string (bs d)) := W1.c 4 (by simp)
      have y0 : (((((((w7.setCell ⟨z, 0, none⟩ (Value.string (bs n))).setCell ⟨z, 1, none⟩ (Value.int .i64 t)).setCell ⟨z, 2, none⟩ (Value.int .i64 c)).setCell ⟨z, 3, none⟩ (Value.int .i64 0)).setCell ⟨z, 4, none⟩ (Value.string (bs d))).setCell ⟨z + 1, 0, none⟩ (Value.int .i64 0)).setCell ⟨z + 1, 1, none⟩ (Value.int .i64 0)).cell? ⟨z + 1, 0, none⟩ = some (Value.int .i64 0) := W2.c 0 (by simp)
      have y1 : (((((((w7.setCell ⟨z, 0, none⟩ (Value.string (bs n))).setCell ⟨z, 1, none⟩ (Value.int .i64 t)).setCell ⟨z, 2, none⟩ (Value.int .i64 c)).setCell ⟨z, 3, none⟩ (Value.int .i64 0)).setCell ⟨z, 4, none⟩ (Value.string (bs d))).setCell ⟨z + 1, 0, none⟩ (Value.int .i64 0)).setCell ⟨z + 1, 1, none⟩ (Value.int .i64 0)).cell? ⟨z + 1, 1, none⟩ = some (Value.int .i64 0) := W2.c 1 (by simp)
      have hle : w.heap.size ≤ z := by omega
      have hle1 : w.heap.size ≤ z + 1 := by omega
      have HF := Lib.hid (((((((HB7.out.setCell (p := ⟨z, 0, none⟩) hle (Value.string (bs n))).setCell (p := ⟨z, 1, none⟩) hle (Value.int .i64 t)).setCell (p := ⟨z, 2, none⟩) hle (Value.int .i64 c)).setCell (p := ⟨z, 3, none⟩) hle (Value.int .i64 0)).setCell (p := ⟨z, 4, none⟩) hle (Value.string (bs d))).setCell (p := ⟨z + 1, 0, none⟩) hle1 (Value.int .i64 0)).setCell (p := ⟨z + 1, 1, none⟩) hle1 (Value.int .i64 0)).drew
      clear W1 W2 hle hle1
      go_wp2_with fail
      exact bodyPost_ret (by simp [results, Tryz.results156, go_sem, x0, x1, x2, x3, x4, y0, y1]; rfl) rfl ⟨by rw [← HV.out], HF.out⟩

    · have tl : decide ((2147483647 : Int) < l) = false := by simpa using hbig
      have et : ttlR l = l := if_neg hbig
      rw [et] at HV
      clear et
      go_wp2_with fail
      go_region
      have W1 := (((((((HK6.out.1.set (o := 0) (by simp) (Value.string (bs n))).set (o := 1) (by simp) (Value.int .i64 t)).set (o := 2) (by simp) (Value.int .i64 c)).set (o := 3) (by simp) (Value.int .i64 l)).set (o := 4) (by simp) (Value.string (bs d))).other (a := ⟨z + 1, 0, none⟩) (by simp) (Value.int .i64 0)).other (a := ⟨z + 1, 1, none⟩) (by simp) (Value.int .i64 0))
      have W2 := (((((((HK6.out.2.other (a := ⟨z, 0, none⟩) (by simp) (Value.string (bs n))).other (a := ⟨z, 1, none⟩) (by simp) (Value.int .i64 t)).other (a := ⟨z, 2, none⟩) (by simp) (Value.int .i64 c)).other (a := ⟨z, 3, none⟩) (by simp) (Value.int .i64 l)).other (a := ⟨z, 4, none⟩) (by simp) (Value.string (bs d))).set (o := 0) (by simp) (Value.int .i64 0)).set (o := 1) (by simp) (Value.int .i64 0))
      have x0 : (((((((w6.setCell ⟨z, 0, none⟩ (Value.string (bs n))).setCell ⟨z, 1, none⟩ (Value.int .i64 t)).setCell ⟨z, 2, none⟩ (Value.int .i64 c)).setCell ⟨z, 3, none⟩ (Value.int .i64 l)).setCell ⟨z, 4, none⟩ (Value.string (bs d))).setCell ⟨z + 1, 0, none⟩ (Value.int .i64 0)).setCell ⟨z + 1, 1, none⟩ (Value.int .i64 0)).cell? ⟨z, 0, none⟩ = some (Value.string (bs n)) := W1.c 0 (by simp)
      have x1 : (((((((w6.setCell ⟨z, 0, none⟩ (Value.string (bs n))).setCell ⟨z, 1, none⟩ (Value.int .i64 t)).setCell ⟨z, 2, none⟩ (Value.int .i64 c)).setCell ⟨z, 3, none⟩ (Value.int .i64 l)).setCell ⟨z, 4, none⟩ (Value.string (bs d))).setCell ⟨z + 1, 0, none⟩ (Value.int .i64 0)).setCell ⟨z + 1, 1, none⟩ (Value.int .i64 0)).cell? ⟨z, 1, none⟩ = some (Value.int .i64 t) := W1.c 1 (by simp)
      have x2 : (((((((w6.setCell ⟨z, 0, none⟩ (Value.string (bs n))).setCell ⟨z, 1, none⟩ (Value.int .i64 t)).setCell ⟨z, 2, none⟩ (Value.int .i64 c)).setCell ⟨z, 3, none⟩ (Value.int .i64 l)).setCell ⟨z, 4, none⟩ (Value.string (bs d))).setCell ⟨z + 1, 0, none⟩ (Value.int .i64 0)).setCell ⟨z + 1, 1, none⟩ (Value.int .i64 0)).cell? ⟨z, 2, none⟩ = some (Value.int .i64 c) := W1.c 2 (by simp)
      have x3 : (((((((w6.setCell ⟨z, 0, none⟩ (Value.string (bs n))).setCell ⟨z, 1, none⟩ (Value.int .i64 t)).setCell ⟨z, 2, none⟩ (Value.int .i64 c)).setCell ⟨z, 3, none⟩ (Value.int .i64 l)).setCell ⟨z, 4, none⟩ (Value.string (bs d))).setCell ⟨z + 1, 0, none⟩ (Value.int .i64 0)).setCell ⟨z + 1, 1, none⟩ (Value.int .i64 0)).cell? ⟨z, 3, none⟩ = some (Value.int .i64 l) := W1.c 3 (by simp)
      have x4 : (((((((w6.setCell ⟨z, 0, none⟩ (Value.string (bs n))).setCell ⟨z, 1, none⟩ (Value.int .i64 t)).setCell ⟨z, 2, none⟩ (Value.int .i64 c)).setCell ⟨z, 3, none⟩ (Value.int .i64 l)).setCell ⟨z, 4, none⟩ (Value.string (bs d))).setCell ⟨z + 1, 0, none⟩ (Value.int .i64 0)).setCell ⟨z + 1, 1, none⟩ (Value.int .i64 0)).cell? ⟨z, 4, none⟩ = some (Value.string (bs d)) := W1.c 4 (by simp)
      have y0 : (((((((w6.setCell ⟨z, 0, none⟩ (Value.string (bs n))).setCell ⟨z, 1, none⟩ (Value.int .i64 t)).setCell ⟨z, 2, none⟩ (Value.int .i64 c)).setCell ⟨z, 3, none⟩ (Value.int .i64 l)).setCell ⟨z, 4, none⟩ (Value.string (bs d))).setCell ⟨z + 1, 0, none⟩ (Value.int .i64 0)).setCell ⟨z + 1, 1, none⟩ (Value.int .i64 0)).cell? ⟨z + 1, 0, none⟩ = some (Value.int .i64 0) := W2.c 0 (by simp)
      have y1 : (((((((w6.setCell ⟨z, 0, none⟩ (Value.string (bs n))).setCell ⟨z, 1, none⟩ (Value.int .i64 t)).setCell ⟨z, 2, none⟩ (Value.int .i64 c)).setCell ⟨z, 3, none⟩ (Value.int .i64 l)).setCell ⟨z, 4, none⟩ (Value.string (bs d))).setCell ⟨z + 1, 0, none⟩ (Value.int .i64 0)).setCell ⟨z + 1, 1, none⟩ (Value.int .i64 0)).cell? ⟨z + 1, 1, none⟩ = some (Value.int .i64 0) := W2.c 1 (by simp)
      have hle : w.heap.size ≤ z := by omega
      have hle1 : w.heap.size ≤ z + 1 := by omega
      have HF := Lib.hid (((((((HB6.out.setCell (p := ⟨z, 0, none⟩) hle (Value.string (bs n))).setCell (p := ⟨z, 1, none⟩) hle (Value.int .i64 t)).setCell (p := ⟨z, 2, none⟩) hle (Value.int .i64 c)).setCell (p := ⟨z, 3, none⟩) hle (Value.int .i64 l)).setCell (p := ⟨z, 4, none⟩) hle (Value.string (bs d))).setCell (p := ⟨z + 1, 0, none⟩) hle1 (Value.int .i64 0)).setCell (p := ⟨z + 1, 1, none⟩) hle1 (Value.int .i64 0)).drew
      clear W1 W2 hle hle1
      go_wp2_with fail
      exact bodyPost_ret (by simp [results, Tryz.results156, go_sem, x0, x1, x2, x3, x4, y0, y1]; rfl) rfl ⟨by rw [← HV.out], HF.out⟩

  · have tE : (e3 != 0) = true := by simpa using h0
    rw [if_neg h0] at HV
    go_wp2_with fail
    go_region
    have W1 := (((((((HK6.out.1.set (o := 0) (by simp) (Value.string ⟨#[]⟩)).set (o := 1) (by simp) (Value.int .i64 0)).set (o := 2) (by simp) (Value.int .i64 0)).set (o := 3) (by simp) (Value.int .i64 0)).set (o := 4) (by simp) (Value.string ⟨#[]⟩)).other (a := ⟨z + 1, 0, none⟩) (by simp) (Value.int .i64 e3)).other (a := ⟨z + 1, 1, none⟩) (by simp) (Value.int .i64 p3))
    have W2 := (((((((HK6.out.2.other (a := ⟨z, 0, none⟩) (by simp) (Value.string ⟨#[]⟩)).other (a := ⟨z, 1, none⟩) (by simp) (Value.int .i64 0)).other (a := ⟨z, 2, none⟩) (by simp) (Value.int .i64 0)).other (a := ⟨z, 3, none⟩) (by simp) (Value.int .i64 0)).other (a := ⟨z, 4, none⟩) (by simp) (Value.string ⟨#[]⟩)).set (o := 0) (by simp) (Value.int .i64 e3)).set (o := 1) (by simp) (Value.int .i64 p3))
    have x0 : (((((((w6.setCell ⟨z, 0, none⟩ (Value.string ⟨#[]⟩)).setCell ⟨z, 1, none⟩ (Value.int .i64 0)).setCell ⟨z, 2, none⟩ (Value.int .i64 0)).setCell ⟨z, 3, none⟩ (Value.int .i64 0)).setCell ⟨z, 4, none⟩ (Value.string ⟨#[]⟩)).setCell ⟨z + 1, 0, none⟩ (Value.int .i64 e3)).setCell ⟨z + 1, 1, none⟩ (Value.int .i64 p3)).cell? ⟨z, 0, none⟩ = some (Value.string ⟨#[]⟩) := W1.c 0 (by simp)
    have x1 : (((((((w6.setCell ⟨z, 0, none⟩ (Value.string ⟨#[]⟩)).setCell ⟨z, 1, none⟩ (Value.int .i64 0)).setCell ⟨z, 2, none⟩ (Value.int .i64 0)).setCell ⟨z, 3, none⟩ (Value.int .i64 0)).setCell ⟨z, 4, none⟩ (Value.string ⟨#[]⟩)).setCell ⟨z + 1, 0, none⟩ (Value.int .i64 e3)).setCell ⟨z + 1, 1, none⟩ (Value.int .i64 p3)).cell? ⟨z, 1, none⟩ = some (Value.int .i64 0) := W1.c 1 (by simp)
    have x2 : (((((((w6.setCell ⟨z, 0, none⟩ (Value.string ⟨#[]⟩)).setCell ⟨z, 1, none⟩ (Value.int .i64 0)).setCell ⟨z, 2, none⟩ (Value.int .i64 0)).setCell ⟨z, 3, none⟩ (Value.int .i64 0)).setCell ⟨z, 4, none⟩ (Value.string ⟨#[]⟩)).setCell ⟨z + 1, 0, none⟩ (Value.int .i64 e3)).setCell ⟨z + 1, 1, none⟩ (Value.int .i64 p3)).cell? ⟨z, 2, none⟩ = some (Value.int .i64 0) := W1.c 2 (by simp)
    have x3 : (((((((w6.setCell ⟨z, 0, none⟩ (Value.string ⟨#[]⟩)).setCell ⟨z, 1, none⟩ (Value.int .i64 0)).setCell ⟨z, 2, none⟩ (Value.int .i64 0)).setCell ⟨z, 3, none⟩ (Value.int .i64 0)).setCell ⟨z, 4, none⟩ (Value.string ⟨#[]⟩)).setCell ⟨z + 1, 0, none⟩ (Value.int .i64 e3)).setCell ⟨z + 1, 1, none⟩ (Value.int .i64 p3)).cell? ⟨z, 3, none⟩ = some (Value.int .i64 0) := W1.c 3 (by simp)
    have x4 : (((((((w6.setCell ⟨z, 0, none⟩ (Value.string ⟨#[]⟩)).setCell ⟨z, 1, none⟩ (Value.int .i64 0)).setCell ⟨z, 2, none⟩ (Value.int .i64 0)).setCell ⟨z, 3, none⟩ (Value.int .i64 0)).setCell ⟨z, 4, none⟩ (Value.string ⟨#[]⟩)).setCell ⟨z + 1, 0, none⟩ (Value.int .i64 e3)).setCell ⟨z + 1, 1, none⟩ (Value.int .i64 p3)).cell? ⟨z, 4, none⟩ = some (Value.string ⟨#[]⟩) := W1.c 4 (by simp)
    have y0 : (((((((w6.setCell ⟨z, 0, none⟩ (Value.string ⟨#[]⟩)).setCell ⟨z, 1, none⟩ (Value.int .i64 0)).setCell ⟨z, 2, none⟩ (Value.int .i64 0)).setCell ⟨z, 3, none⟩ (Value.int .i64 0)).setCell ⟨z, 4, none⟩ (Value.string ⟨#[]⟩)).setCell ⟨z + 1, 0, none⟩ (Value.int .i64 e3)).setCell ⟨z + 1, 1, none⟩ (Value.int .i64 p3)).cell? ⟨z + 1, 0, none⟩ = some (Value.int .i64 e3) := W2.c 0 (by simp)
    have y1 : (((((((w6.setCell ⟨z, 0, none⟩ (Value.string ⟨#[]⟩)).setCell ⟨z, 1, none⟩ (Value.int .i64 0)).setCell ⟨z, 2, none⟩ (Value.int .i64 0)).setCell ⟨z, 3, none⟩ (Value.int .i64 0)).setCell ⟨z, 4, none⟩ (Value.string ⟨#[]⟩)).setCell ⟨z + 1, 0, none⟩ (Value.int .i64 e3)).setCell ⟨z + 1, 1, none⟩ (Value.int .i64 p3)).cell? ⟨z + 1, 1, none⟩ = some (Value.int .i64 p3) := W2.c 1 (by simp)
    have hle : w.heap.size ≤ z := by omega
    have hle1 : w.heap.size ≤ z + 1 := by omega
    have HF := Lib.hid (((((((HB6.out.setCell (p := ⟨z, 0, none⟩) hle (Value.string ⟨#[]⟩)).setCell (p := ⟨z, 1, none⟩) hle (Value.int .i64 0)).setCell (p := ⟨z, 2, none⟩) hle (Value.int .i64 0)).setCell (p := ⟨z, 3, none⟩) hle (Value.int .i64 0)).setCell (p := ⟨z, 4, none⟩) hle (Value.string ⟨#[]⟩)).setCell (p := ⟨z + 1, 0, none⟩) hle1 (Value.int .i64 e3)).setCell (p := ⟨z + 1, 1, none⟩) hle1 (Value.int .i64 p3)).drew
    clear W1 W2 hle hle1
    go_wp2_with fail
    exact bodyPost_ret (by simp [results, Tryz.results156, go_sem, x0, x1, x2, x3, x4, y0, y1]; rfl) rfl ⟨by rw [← HV.out], HF.out⟩
end Go.Proofs.YteegekpanadmkaaGreat

/-
  Rows beside each other: bytes, numbers, texts; appends to them.
-/
namespace Go.Proofs.YteegekpanadmkaaGreat
open Go.RowKit Go.Shelf
set_option linter.unusedVariables false
set_option maxRecDepth 100000

/-- What a row's append may turn. -/
theorem aside_grown {w w' : World} {v : Value} (h : w.grownBy w' v.ownBlock) : Aside (fun b => v.ownBlock = some b) w w' := Aside.grown h fun _ h => h

/-- append of no bytes. -/
theorem run_appB0 {w : World} (B : Nat) (v : Value) (l : List UInt8) (ad : Option Addr) (c : Nat) (hown : OwnB w B v l) :
    (Builtin.append_ #[28, 28] 28 #[v, .slice ad 0 c]).run Tryz.prog w = .ok v w := by
  obtain ⟨i0, hi, hz0, hz1, hz2⟩ := info_parts Tryz.info5
  rcases hown with ⟨rfl, rfl⟩ | ⟨g, cap, fz, rfl, hbg, hlc, hcm, hfz, hg⟩
  · cases ad <;> simp [Builtin.append_, run_underlying Tryz.underlying28, sizeOf, typeInfo, hi, Builtin.lenOf, Builtin.firstCells, loadCells, loadCellsFrom]
  · cases ad <;> simp [Builtin.append_, run_underlying Tryz.underlying28, sizeOf, typeInfo, hi, Builtin.lenOf, Builtin.firstCells, loadCells, loadCellsFrom, storeCells, hlc]

/-- append of any bytes. -/
theorem run_appBs {w : World} (B : Nat) (v xv : Value) (l l' : List UInt8) {lo hi : Nat} (hown : OwnB w B v l) (hx : Sl w lo hi xv (iz l')) (hb : l.length + l'.length ≤ 1000000) (hB : B ≤ w.heap.size) :
    ∃ a' c' w', (Builtin.append_ #[28, 28] 28 #[v, xv]).run Tryz.prog w = .ok (.slice a' (l.length + l'.length) c') w' ∧ OwnB w' B (.slice a' (l.length + l'.length) c') (l ++ l') ∧ Aside (fun b => v.ownBlock = some b) w w' := by
  rcases Nat.eq_zero_or_pos l'.length with h0 | h0
  · have : l' = [] := List.eq_nil_of_length_eq_zero h0
    subst this
    obtain ⟨ad, c, rfl, _⟩ := hx
    have h1 := run_appB0 B v l ad c hown
    obtain ⟨a', c', rfl⟩ := hown.shape
    exact ⟨a', c', w, h1, by rw [List.append_nil]; exact hown, Aside.refl _ _⟩
  · obtain ⟨v', w', h1, h2, h3, _⟩ := run_appB B v xv l l' hown hx h0 hb hB
    obtain ⟨a', c', hv⟩ := h2.shape
    rw [List.length_append] at hv
    subst hv
    exact ⟨a', c', w', h1, h2, aside_grown h3⟩

end Go.Proofs.YteegekpanadmkaaGreat
