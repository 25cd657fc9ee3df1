/-
  Read.
-/
import Derived.Test.YtdikgjbpjdnodaaGreatU02
import Derived.Deep.LoopGhost
import Derived.Deep.RegionHeld3
namespace Go.Proofs.YtdikgjbpjdnodaaGreat
open Go.RowKit Go.Shelf
set_option linter.unusedVariables false
set_option maxRecDepth 100000

/-- Where the result's block and one behind it stand. -/
structure Rdy (w w1 : World) : Prop where
  below : Below (w.heap.size + 1) (w.alloc (.cells #[.int .i64 0, .int .i64 0] 43)) w1

theorem Rdy.lt {w w1 : World} (h : Rdy w w1) : w.heap.size < w1.heap.size := below_lt h.below
theorem Rdy.call {w w1 w2 : World} (h : Rdy w w1) (hb : Below w1.heap.size w1 w2) : Rdy w w2 := ⟨h.below.trans (hb.mono h.lt)⟩
theorem Rdy.alloc {w w1 : World} (h : Rdy w w1) (o : Obj) : Rdy w (w1.alloc o) := ⟨h.below.alloc h.lt o⟩
theorem Rdy.set {w w1 : World} (h : Rdy w w1) {p : Addr} (hp : w.heap.size < p.block) (x : Value) : Rdy w (w1.setCell p x) := ⟨h.below.setCell hp x⟩
theorem Rdy.cells {w w1 : World} (h : Rdy w w1) : w1.cell? ⟨w.heap.size, 0, none⟩ = some (.int .i64 0) ∧ w1.cell? ⟨w.heap.size, 1, none⟩ = some (.int .i64 0) ∧ ∀ j, w1.frozen? ⟨w.heap.size, j, none⟩ = false := res_cells h.below
theorem Rdy.fin {w w1 : World} (h : Rdy w w1) (x y : Value) (o : Obj) : Below w.heap.size w (((w1.setCell ⟨w.heap.size, 0, none⟩ x).setCell ⟨w.heap.size, 1, none⟩ y).alloc o) := by
  have := ((((Below.refl w.heap.size w).alloc (Nat.le_refl _) _).trans (h.below.mono (Nat.le_succ _))).setCell (p := ⟨w.heap.size, 0, none⟩) (Nat.le_refl _) x).setCell (p := ⟨w.heap.size, 1, none⟩) (Nat.le_refl _) y
  exact this.alloc this.size o
theorem Rdy.end_ {w w1 : World} (h : Rdy w w1) (x y : Value) : Below w.heap.size w ((w1.setCell ⟨w.heap.size, 0, none⟩ x).setCell ⟨w.heap.size, 1, none⟩ y) :=
  ((((Below.refl w.heap.size w).alloc (Nat.le_refl _) _).trans (h.below.mono (Nat.le_succ _))).setCell (Nat.le_refl _) x).setCell (Nat.le_refl _) y

theorem Rdy.old {w w1 : World} (h : Rdy w w1) : Below w.heap.size w w1 := ((Below.refl w.heap.size w).alloc (Nat.le_refl _) _).trans (h.below.mono (Nat.le_succ _))
theorem Rdy.on {w w1 w2 : World} (h : Rdy w w1) (hb : Below (w.heap.size + 1) w1 w2) : Rdy w w2 := ⟨h.below.trans hb⟩

/-- append of bytes that are a whole block. -/
theorem app_own {w : World} {B g : Nat} {v vl : Value} {n m : List UInt8} (HO : OwnU w B v n) (hl : Own w g vl (iz m)) (hm : 0 < m.length) (hb : n.length + m.length ≤ 1000000) (hB : B ≤ w.heap.size) :
    ∃ a' c' w', (Builtin.append_ #[28, 28] 28 #[v, vl]).run Tryz.prog w = .ok (.slice a' (n.length + m.length) c') w' ∧ OwnU w' B (.slice a' (n.length + m.length) c') (n ++ m) ∧ Below B w w' := by
  rcases hl with ⟨_, h⟩ | ⟨rfl, hh⟩
  · have := congrArg List.length h
    rw [iz_len, List.length_nil] at this
    omega
  · rw [iz_len]
    obtain ⟨a', c', w', h1, h2, h3⟩ := run_appU (w := w) B v n m g m.length HO (fun j hj => by
      have : j < (iz m).length := by simpa using hj
      rw [List.getD, List.getElem?_eq_getElem hj]
      simp only [World.cell?, hh]
      simp [iz, hj]) hb hB
    exact ⟨a', c', w', h1, h2, (Below.refl _ _).grown h3 hB HO.row⟩

/-- What octet.Bytes tells, and what is known of the worlds behind it. -/
theorem bytes_cut {w1 : World} {lo hi : Nat} {v : Value} {b : List UInt8} (h : Sl w1 lo hi v (iz b)) (hl : b.length ≤ 1000000) (p k : Nat) (hk : p + k ≤ b.length) :
    Calls Tryz.prog 119 #[v, .int .i64 p, .int .i64 k] w1 (BytesPost w1 (iz ((b.drop p).take k)) (p + k : Nat) 0 0) := by
  have := bytes_at (iz b) p k (by simpa using hl) (by simpa using hk) w1 h
  rw [iz_cut] at this
  push_cast
  exact this

theorem bytes_short {w1 : World} {lo hi : Nat} {v : Value} {b : List UInt8} (h : Sl w1 lo hi v (iz b)) (hl : b.length ≤ 1000000) (p k : Nat) (hp : p ≤ b.length) (hk : b.length < p + k) (hk2 : k ≤ 1000) :
    Calls Tryz.prog 119 #[v, .int .i64 p, .int .i64 k] w1 (BytesPost w1 [] 0 4 b.length) := by
  have := bytes_at_no (iz b) p k (by simpa using hl) (by simpa using hp) (by simpa using hk) (by omega) w1 h
  rw [iz_len] at this
  exact this

set_option maxRecDepth 100000 in
set_option maxHeartbeats 4000000 in
theorem read_core {w : World} {lo hi : Nat} {v : Value} {b : List UInt8} (h : Sl w lo hi v (iz b)) (hhi : hi ≤ w.heap.size) (hl : b.length ≤ 1000000) (a : Nat) (ha : a ≤ b.length)
    (n' : List UInt8) (x' : Nat) (e' : Int) (a' : Nat) (hR : rd b a a a 0 [] = (n', x', e', a')) :
    Calls Tryz.prog 108 #[v, .int .i64 a] w (Tells w (.tuple #[.string (bs n'), .int .i64 x', .agg #[.int .i64 e', .int .i64 a']])) := by
  have HS := Lib.hid h
  obtain ⟨ad, c, rfl, _⟩ := h
  simp only [iz_len] at HS
  rw [iz_len]
  have t0 : ¬ b.length < a := by omega
  have HR := Lib.hid hR
  clear hR
  go_enter Tryz.func108, Tryz.ntmps108
  go_wp2
  go_step3
  go_wp2
  go_step3
  go_wp2
  go_loopg [7, 8, 9] a (fun g v7 v8 v9 wr => ∃ (next : Nat) (n : List UInt8), v8 = .int .i64 g ∧ v9 = .int .i64 next ∧ g ≤ b.length ∧ n.length ≤ 254 ∧ Hid (OwnU wr (w.heap.size + 1) v7 n) ∧ Hid (rd b a g g next n = (n', x', e', a')) ∧ Hid (Rdy w wr))
  case atStart => exact ⟨0, [], rfl, rfl, ha, by simp, OwnU.nil _ _, HR.out, ⟨Below.refl _ _⟩⟩
  case round =>
    obtain ⟨next, n, rfl, rfl, hg, hn, HO, HRR, HB⟩ := hrel
    obtain ⟨g, rfl⟩ : ∃ g, g = gk := ⟨_, rfl⟩
    obtain ⟨wo, rfl⟩ : ∃ wo, wo = wr := ⟨_, rfl⟩
    go_wp2
    go_loopg [7, 8, 9, 10] (b.length - g) (fun g2 v7 v8 v9 v10 wy => ∃ (here : Nat) (n : List UInt8), v8 = .int .i64 g ∧ v9 = .int .i64 next ∧ v10 = .int .i64 here ∧ here + g2 = b.length ∧ n.length ≤ 254 ∧ Hid (OwnU wy (w.heap.size + 1) v7 n) ∧ Hid (rd b a g here next n = (n', x', e', a')) ∧ Hid (Rdy w wy))
    case atStart => exact ⟨g, n, rfl, rfl, rfl, by omega, hn, HO, HRR, HB⟩
    case round =>
      clear HO HRR HB hn n
      obtain ⟨here, n, rfl, rfl, rfl, hh, hn, HO, HRR, HB⟩ := hrel
      have HSr := Lib.hid (HS.out.below ((((Below.refl w.heap.size w).alloc (Nat.le_refl _) _).trans (HB.out.below.mono (Nat.le_succ _)))) hhi)
      have HLen := Lib.hid (length_any HSr.out here (by omega) hl)
      have stop : ∀ (e : Int) (k : Nat), rd b a g here next n = ([], 0, e, k) → Hid (n' = [] ∧ x' = 0 ∧ e' = e ∧ a' = k) := fun e k hk => by
        have := hk.symm.trans HRR.out
        simp only [Prod.mk.injEq] at this
        exact ⟨this.1.symm, this.2.1.symm, this.2.2.1.symm, this.2.2.2.symm⟩
      by_cases hlt : here < b.length
      · by_cases hmid : 64 ≤ b[here].toNat ∧ b[here].toNat < 192
        · have HE := stop 4 here (rd_mid hlt hmid.1 hmid.2)
          have hv : lenV b here = .tuple #[.int .i64 0, .agg #[.int .i64 4, .int .i64 here]] := by unfold lenV; rw [dif_pos hlt, if_pos hmid]
          rw [hv] at HLen
          clear hv stop HRR hmid HSr HS HO HR
          go_wp2_with fail
          refine HLen.out.mono ?_; rintro e w1 ⟨rfl, hb⟩
          have HB1 := Lib.hid (HB.out.call hb)
          have hlt1 := HB1.out.lt
          obtain ⟨k0, k1, k3⟩ := HB1.out.cells
          clear hb
          go_wp2_with fail
          go_region
          go_wp2_with fail
          obtain ⟨m0, m1⟩ := res_set (.int .i64 4) (.int .i64 here) k0 k1
          exact bodyPost_ret (v := .tuple #[.string ⟨#[]⟩, .int .i64 0, .agg #[.int .i64 4, .int .i64 here]]) (by simp [results, Tryz.results108, go_sem, m0, m1, hlt1]) rfl ⟨by obtain ⟨rfl, rfl, rfl, rfl⟩ := HE.out; rfl, below_drewN (HB1.out.fin _ _ _) 1⟩
        · have hv : lenV b here = .tuple #[.int .i64 b[here].toNat, .agg #[.int .i64 0, .int .i64 0]] := by unfold lenV; rw [dif_pos hlt, if_neg hmid]
          rw [hv] at HLen
          clear hv
          by_cases hc : 192 ≤ b[here].toNat
          · have t1 : decide ((63 : Int) < b[here].toNat) = true := by simp; omega
            by_cases hh1 : here + 1 < b.length
            · by_cases hpt : g ≤ ptr b[here] b[here + 1]
              · have HE := stop 150 here (rd_back hlt hc hh1 hpt)
                have hfv : folV b here g = .tuple #[.int .i64 0, .int .i64 0, .agg #[.int .i64 150, .int .i64 here]] := by unfold folV; rw [dif_pos hh1, if_pos hpt]
                have HF := Lib.hid (fun (wx : World) (h1 : Rdy w wx) => hfv ▸ follow_any (HS.out.below h1.old hhi) (Nat.le_trans hhi h1.old.size) here g hlt hc hg hl)
                obtain ⟨cc, hcc⟩ : ∃ cc, b[here].toNat = cc := ⟨_, rfl⟩
                rw [hcc] at HLen t1
                clear hfv hpt stop HRR hmid HSr HS HO HR hcc hc
                go_wp2_with fail
                refine HLen.out.mono ?_; rintro e w1 ⟨rfl, hb⟩
                have HB1 := Lib.hid ((HB.out.call hb).alloc (.cells #[.int .i64 0, .int .i64 0] 43))
                clear hb
                go_wp2_with fail
                refine (HF.out _ HB1.out).mono ?_; rintro e w2 ⟨rfl, hb⟩
                have HB2 := Lib.hid (HB1.out.call hb)
                have hlt2 := HB2.out.lt
                obtain ⟨k0, k1, k3⟩ := HB2.out.cells
                clear hb
                go_wp2_with fail
                go_region
                go_wp2_with fail
                obtain ⟨m0, m1⟩ := res_set (.int .i64 150) (.int .i64 here) k0 k1
                exact bodyPost_ret (v := .tuple #[.string ⟨#[]⟩, .int .i64 0, .agg #[.int .i64 150, .int .i64 here]]) (by simp [results, Tryz.results108, go_sem, m0, m1, hlt2]) rfl ⟨by obtain ⟨rfl, rfl, rfl, rfl⟩ := HE.out; rfl, below_drewN (HB2.out.fin _ _ _) 1⟩
              · obtain ⟨T, hT⟩ : ∃ T, ptr b[here] b[here + 1] = T := ⟨_, rfl⟩
                have HN := Lib.hid (rd_go (a := a) (next := next) (n := n) hlt hc hh1 hpt)
                have hfv : folV b here g = .tuple #[.int .i64 0, .int .i64 0, .agg #[.int .i64 0, .int .i64 0]] ∨ folV b here g = .tuple #[.int .i64 T, .int .i64 (here + 2 : Nat), .agg #[.int .i64 0, .int .i64 0]] := by
                  right; unfold folV; rw [dif_pos hh1, if_neg hpt, hT]
                have hfv : folV b here g = .tuple #[.int .i64 T, .int .i64 (here + 2 : Nat), .agg #[.int .i64 0, .int .i64 0]] := by unfold folV; rw [dif_pos hh1, if_neg hpt, hT]
                have HF := Lib.hid (fun (wx : World) (h1 : Rdy w wx) => hfv ▸ follow_any (HS.out.below h1.old hhi) (Nat.le_trans hhi h1.old.size) here g hlt hc hg hl)
                rw [hT] at hpt HN
                obtain ⟨E, hE⟩ : ∃ E, here + 2 = E := ⟨_, rfl⟩
                rw [hE] at HF HN
                obtain ⟨nx, hnx⟩ : ∃ nx, (if next = 0 then E else next) = nx := ⟨_, rfl⟩
                rw [hnx] at HN
                have hor : (if (next : Int) = 0 then (E : Int) else next) = nx := by
                  rw [← hnx]; by_cases h : next = 0 <;> simp [h]
                have HOr := Lib.hid (fun gg wx c0 c1 => hor ▸ or_any gg next E wx c0 c1)
                have HRN := Lib.hid (HN.out.symm.trans HRR.out)
                have HO2 := Lib.hid (fun w1 (h : Below wr.heap.size wr w1) => HO.out.below h)
                obtain ⟨cc, hcc⟩ : ∃ cc, b[here].toNat = cc := ⟨_, rfl⟩
                rw [hcc] at HLen t1
                clear hfv stop HN HRR hmid HSr HS HO HR hcc hc hor hnx hE hT
                go_wp2_with fail
                refine HLen.out.mono ?_; rintro e w1 ⟨rfl, hb⟩
                have HB1 := Lib.hid ((HB.out.call hb).alloc (.cells #[.int .i64 0, .int .i64 0] 43))
                have HW1 := Lib.hid (hb.alloc hb.size (.cells #[.int .i64 0, .int .i64 0] 43))
                clear hb
                go_wp2_with fail
                refine (HF.out _ HB1.out).mono ?_; rintro e w2 ⟨rfl, hb⟩
                have HB2 := Lib.hid ((HB1.out.call hb).alloc (.cells #[.int .i64 0, .int .i64 0] 43))
                have HW2 := Lib.hid (have h := bel_call HW1.out hb; h.alloc h.size (.cells #[.int .i64 0, .int .i64 0] 43))
                clear hb
                go_wp2_with fail
                refine (HOr.out _ _ (by simp [go_sem]) (by simp [go_sem])).mono ?_; rintro e w3 ⟨rfl, rfl⟩
                have HB3 := Lib.hid (HB2.out.alloc (.cells #[.int .i64 next, .int .i64 E] 3))
                have HO3 := Lib.hid (HO2.out _ (HW2.out.alloc HW2.out.size (.cells #[.int .i64 next, .int .i64 E] 3)))
                clear HO2
                go_wp2_with fail
                go_roundg T
                case measure => omega
                case rel => exact ⟨nx, n, rfl, rfl, by omega, hn, HO3, HRN, HB3⟩
            · have HE := stop 4 b.length (rd_half hlt hc (by omega))
              have hfv : folV b here g = .tuple #[.int .i64 0, .int .i64 0, .agg #[.int .i64 4, .int .i64 b.length]] := by unfold folV; rw [dif_neg hh1]
              have HF := Lib.hid (fun (wx : World) (h1 : Rdy w wx) => hfv ▸ follow_any (HS.out.below h1.old hhi) (Nat.le_trans hhi h1.old.size) here g hlt hc hg hl)
              obtain ⟨cc, hcc⟩ : ∃ cc, b[here].toNat = cc := ⟨_, rfl⟩
              rw [hcc] at HLen t1
              clear hfv stop HRR hmid HSr HS HO HR hcc hc
              go_wp2_with fail
              refine HLen.out.mono ?_; rintro e w1 ⟨rfl, hb⟩
              have HB1 := Lib.hid ((HB.out.call hb).alloc (.cells #[.int .i64 0, .int .i64 0] 43))
              clear hb
              go_wp2_with fail
              refine (HF.out _ HB1.out).mono ?_; rintro e w2 ⟨rfl, hb⟩
              have HB2 := Lib.hid (HB1.out.call hb)
              have hlt2 := HB2.out.lt
              obtain ⟨k0, k1, k3⟩ := HB2.out.cells
              clear hb
              go_wp2_with fail
              go_region
              go_wp2_with fail
              obtain ⟨m0, m1⟩ := res_set (.int .i64 4) (.int .i64 b.length) k0 k1
              exact bodyPost_ret (v := .tuple #[.string ⟨#[]⟩, .int .i64 0, .agg #[.int .i64 4, .int .i64 b.length]]) (by simp [results, Tryz.results108, go_sem, m0, m1, hlt2]) rfl ⟨by obtain ⟨rfl, rfl, rfl, rfl⟩ := HE.out; rfl, below_drewN (HB2.out.fin _ _ _) 1⟩
          · have t1 : decide ((63 : Int) < b[here].toNat) = false := by simp; omega
            by_cases hsh : b.length < here + (1 + b[here].toNat)
            · have hz : b[here].toNat ≠ 0 := by omega
              have HE := stop 4 b.length (rd_short hlt hz (by omega) hsh)
              have HBy := Lib.hid (fun (wx : World) (h1 : Rdy w wx) => bytes_short (HS.out.below h1.old hhi) hl here (1 + b[here].toNat) (by omega) hsh (by omega))
              have hcb : b[here].toNat < 64 := by omega
              obtain ⟨cc, hcc⟩ : ∃ cc, b[here].toNat = cc := ⟨_, rfl⟩
              rw [hcc] at HLen t1 HBy hcb
              push_cast at HBy
              clear stop HRR hmid HSr HS HO HR hcc hc hsh hz
              go_wp2_with fail
              refine HLen.out.mono ?_; rintro e w1 ⟨rfl, hb⟩
              have HB1 := Lib.hid ((HB.out.call hb).alloc (.cells #[.int .i64 0, .int .i64 0] 43))
              have HW1 := Lib.hid (hb.alloc hb.size (.cells #[.int .i64 0, .int .i64 0] 43))
              have hlt0 := (HB.out.call hb).lt
              clear hb
              go_wp2_with fail
              refine (HBy.out _ HB1.out).mono ?_; rintro e w2 ⟨vl, gl, rfl, ho, hg1, hg2, hb⟩
              obtain ⟨f0, f1, f3⟩ := res_cells (show Below (w1.heap.size + 1) _ w2 from by simpa using hb)
              have hlt2 : w1.heap.size < w2.heap.size := below_lt hb
              have HB2 := Lib.hid (HB1.out.call hb)
              have HW2 := Lib.hid (bel_call HW1.out hb)
              have HOw := Lib.hid ho
              have hgl : w1.heap.size < gl := by simp at hg1; omega
              clear hb ho hg1 hg2
              have hne : w.heap.size ≠ w1.heap.size := Nat.ne_of_lt hlt0
              have hlt3 := HB2.out.lt
              obtain ⟨k0, k1, k3⟩ := HB2.out.cells
              go_wp2_with fail
              go_region
              go_wp2_with fail
              have HB4 := (HB2.out.set (p := ⟨w1.heap.size, 0, none⟩) hlt0 (.int .i64 4)).set (p := ⟨w1.heap.size, 1, none⟩) hlt0 (.int .i64 b.length)
              obtain ⟨j0, j1, j3⟩ := HB4.cells
              obtain ⟨m0, m1⟩ := res_set (.int .i64 4) (.int .i64 b.length) j0 j1
              exact bodyPost_ret (v := .tuple #[.string ⟨#[]⟩, .int .i64 0, .agg #[.int .i64 4, .int .i64 b.length]]) (by simp [results, Tryz.results108, go_sem, m0, m1]) rfl ⟨by obtain ⟨rfl, rfl, rfl, rfl⟩ := HE.out; rfl, below_drewN (HB4.end_ _ _) 1⟩
            · obtain ⟨m, hm⟩ : ∃ m, (b.drop here).take (1 + b[here].toNat) = m := ⟨_, rfl⟩
              have hml : m.length = 1 + b[here].toNat := by rw [← hm, List.length_take, List.length_drop]; omega
              have HBy := Lib.hid (fun (wx : World) (h1 : Rdy w wx) => bytes_cut (HS.out.below h1.old hhi) hl here (1 + b[here].toNat) (by omega))
              rw [hm] at HBy
              have hcb : b[here].toNat < 64 := by omega
              by_cases hz : b[here].toNat = 0
              · have hm0 : m = [0] := by
                  rw [← hm, hz, List.drop_eq_getElem_cons hlt, List.take_succ_cons, List.take_zero]
                  congr 1
                  exact UInt8.toNat_inj.mp hz
                obtain ⟨nx, hnx⟩ : ∃ nx, (if next = 0 then here + 1 else next) = nx := ⟨_, rfl⟩
                have hor : (if (next : Int) = 0 then (here + 1 : Int) else next) = nx := by
                  rw [← hnx]; by_cases h : next = 0 <;> simp [h]
                have HOr := Lib.hid (fun gg wx c0 c1 => hor ▸ or_any gg next (here + 1) wx c0 c1)
                have he := (rd_zero (a := a) (part := g) (next := next) (n := n) hlt hz).symm.trans HRR.out
                rw [hnx, ← hm0] at he
                have HE := Lib.hid he
                have HCV := Lib.hid (fun a5 c5 (wx : World) (h : OwnU wx (w.heap.size + 1) (.slice a5 (n.length + 1) c5) (n ++ m)) => back_U h)
                rw [hz] at HLen t1 HBy hcb hml hsh
                push_cast at HBy
                clear stop HRR hmid HSr HS HR hc hm hnx hor hm0 he hz
                rw [Nat.add_zero] at hml
                go_wp2_with fail
                refine HLen.out.mono ?_; rintro e w1 ⟨rfl, hb⟩
                have HB1 := Lib.hid ((HB.out.call hb).alloc (.cells #[.int .i64 0, .int .i64 0] 43))
                have HW1 := Lib.hid (hb.alloc hb.size (.cells #[.int .i64 0, .int .i64 0] 43))
                have hlt0 := (HB.out.call hb).lt
                have hlt9 := hb.size
                clear hb
                go_wp2_with fail
                refine (HBy.out _ HB1.out).mono ?_; rintro e w2 ⟨vl, gl, rfl, ho, hg1, hg2, hb⟩
                obtain ⟨f0, f1, f3⟩ := res_cells (show Below (w1.heap.size + 1) _ w2 from by simpa using hb)
                have hlt2 : w1.heap.size < w2.heap.size := below_lt hb
                have hgl : w1.heap.size < gl := by simp at hg1; omega
                have HB4 := Lib.hid (((HB1.out.call hb).set (p := ⟨w1.heap.size, 0, none⟩) hlt0 (.int .i64 0)).set (p := ⟨w1.heap.size, 1, none⟩) hlt0 (.int .i64 0))
                have HW4 := Lib.hid (((bel_call HW1.out hb).setCell (p := ⟨w1.heap.size, 0, none⟩) hlt9 (.int .i64 0)).setCell (p := ⟨w1.heap.size, 1, none⟩) hlt9 (.int .i64 0))
                obtain ⟨a5, c5, w5, hr5, ho5, hb5⟩ := app_own (B := w.heap.size + 1) (HO.out.below HW4.out) ((ho.set (p := ⟨w1.heap.size, 0, none⟩) (by show gl ≠ w1.heap.size; omega) (.int .i64 0)).set (p := ⟨w1.heap.size, 1, none⟩) (by show gl ≠ w1.heap.size; omega) (.int .i64 0)) (by omega) (by omega) (by have := HB4.out.lt; omega)
                rw [hml] at hr5 ho5
                have HR5 := Lib.hid hr5
                have HO5 := Lib.hid ho5
                have HB5 := Lib.hid (HB4.out.on hb5)
                have hlt5 := (HB4.out.on hb5).lt
                obtain ⟨k0, k1, k3⟩ := (HB4.out.on hb5).cells
                clear hb ho hg1 hg2 hr5 ho5 hb5
                go_wp2_with (at_builtin; refine wpList_append_run (.tmp 71) (.tmp 72) 28 28 rfl rfl rfl rfl HR5.out ?_)
                have hcv := HCV.out a5 c5
                go_region_held3 (fun wx => OwnU wx (w.heap.size + 1) (.slice a5 (n.length + 1) c5) (n ++ m)) (first | exact HO5.out | exact HO5.out.below ((Below.refl _ _).alloc (Nat.le_refl _) _).drew | exact (((HO5.out.setCell (p := ⟨w.heap.size, 0, none⟩) (Nat.lt_succ_self _) _).setCell (p := ⟨w.heap.size, 1, none⟩) (Nat.lt_succ_self _) _).below ((Below.refl _ _).alloc (Nat.le_refl _) _).drew)) (first | (go_at_call 118; refine (HOr.out _ _ (by simp [go_sem]) (by simp [go_sem])).mono ?_; rintro e w6 ⟨rfl, rfl⟩))
                go_wp2_with fail
                obtain ⟨m0, m1⟩ := res_set (.int .i64 0) (.int .i64 0) k0 k1
                exact bodyPost_ret (v := .tuple #[.string (bs (n ++ m)), .int .i64 nx, .agg #[.int .i64 0, .int .i64 0]]) (by simp [results, Tryz.results108, go_sem, m0, m1, hlt5]) rfl ⟨by have := HE.out; simp only [Prod.mk.injEq] at this; obtain ⟨rfl, rfl, rfl, rfl⟩ := this; rfl, below_drewN (HB5.out.fin _ _ _) 1⟩
              · by_cases hlong : 254 < n.length + (1 + b[here].toNat)
                · have HE := stop 3 a (rd_long hlt hz (by omega) hsh hlong)
                  obtain ⟨cc, hcc⟩ : ∃ cc, b[here].toNat = cc := ⟨_, rfl⟩
                  rw [hcc] at HLen t1 HBy hcb hml hz hlong hm
                  obtain ⟨E, hE⟩ : ∃ E, here + (1 + cc) = E := ⟨_, rfl⟩
                  rw [hcc, hE] at hsh
                  rw [hE] at HBy
                  push_cast at HBy
                  have tz : ((cc : Int) == 0) = false := by simp; omega
                  have tl : decide ((255 : Int) ≤ n.length + (1 + cc)) = true := by simp; omega
                  clear stop HRR hmid HSr HS HR hcc hc hm hE
                  go_wp2_with fail
                  refine HLen.out.mono ?_; rintro e w1 ⟨rfl, hb⟩
                  have HB1 := Lib.hid ((HB.out.call hb).alloc (.cells #[.int .i64 0, .int .i64 0] 43))
                  have HW1 := Lib.hid (hb.alloc hb.size (.cells #[.int .i64 0, .int .i64 0] 43))
                  have hlt0 := (HB.out.call hb).lt
                  have hlt9 := hb.size
                  clear hb
                  go_wp2_with fail
                  refine (HBy.out _ HB1.out).mono ?_; rintro e w2 ⟨vl, gl, rfl, ho, hg1, hg2, hb⟩
                  obtain ⟨f0, f1, f3⟩ := res_cells (show Below (w1.heap.size + 1) _ w2 from by simpa using hb)
                  have hlt2 : w1.heap.size < w2.heap.size := below_lt hb
                  have hgl : w1.heap.size < gl := by simp at hg1; omega
                  have HB4 := Lib.hid (((HB1.out.call hb).set (p := ⟨w1.heap.size, 0, none⟩) hlt0 (.int .i64 0)).set (p := ⟨w1.heap.size, 1, none⟩) hlt0 (.int .i64 0))
                  have HW4 := Lib.hid (((bel_call HW1.out hb).setCell (p := ⟨w1.heap.size, 0, none⟩) hlt9 (.int .i64 0)).setCell (p := ⟨w1.heap.size, 1, none⟩) hlt9 (.int .i64 0))
                  obtain ⟨a5, c5, w5, hr5, ho5, hb5⟩ := app_own (B := w.heap.size + 1) (HO.out.below HW4.out) ((ho.set (p := ⟨w1.heap.size, 0, none⟩) (by show gl ≠ w1.heap.size; omega) (.int .i64 0)).set (p := ⟨w1.heap.size, 1, none⟩) (by show gl ≠ w1.heap.size; omega) (.int .i64 0)) (by omega) (by omega) (by have := HB4.out.lt; omega)
                  rw [hml] at hr5 ho5
                  have HR5 := Lib.hid hr5
                  have HO5 := Lib.hid ho5
                  have HB5 := Lib.hid (HB4.out.on hb5)
                  have hlt5 := (HB4.out.on hb5).lt
                  obtain ⟨k0, k1, k3⟩ := (HB4.out.on hb5).cells
                  clear hb ho hg1 hg2 hr5 ho5 hb5
                  go_wp2_with (at_builtin; refine wpList_append_run (.tmp 71) (.tmp 72) 28 28 rfl rfl rfl rfl HR5.out ?_)
                  obtain ⟨m0, m1⟩ := res_set (.int .i64 3) (.int .i64 a) k0 k1
                  exact bodyPost_ret (v := .tuple #[.string ⟨#[]⟩, .int .i64 0, .agg #[.int .i64 3, .int .i64 a]]) (by simp [results, Tryz.results108, go_sem, m0, m1]) rfl ⟨by obtain ⟨rfl, rfl, rfl, rfl⟩ := HE.out; rfl, HB5.out.end_ _ _⟩
                · have HRN := Lib.hid ((rd_label (a := a) (part := g) (next := next) (n := n) hlt hz (by omega) hsh hlong).symm.trans HRR.out)
                  rw [hm] at HRN
                  obtain ⟨cc, hcc⟩ : ∃ cc, b[here].toNat = cc := ⟨_, rfl⟩
                  rw [hcc] at HLen t1 HBy hcb hml hz hlong hm HRN
                  obtain ⟨E, hE⟩ : ∃ E, here + (1 + cc) = E := ⟨_, rfl⟩
                  rw [hcc, hE] at hsh
                  rw [hE] at HBy HRN
                  push_cast at HBy
                  have hEh : here < E := by omega
                  have tz : ((cc : Int) == 0) = false := by simp; omega
                  have tl : decide ((255 : Int) ≤ n.length + (1 + cc)) = false := by simp; omega
                  clear stop HRR hmid HSr HS HR hcc hc hm hE
                  go_wp2_with fail
                  refine HLen.out.mono ?_; rintro e w1 ⟨rfl, hb⟩
                  have HB1 := Lib.hid ((HB.out.call hb).alloc (.cells #[.int .i64 0, .int .i64 0] 43))
                  have HW1 := Lib.hid (hb.alloc hb.size (.cells #[.int .i64 0, .int .i64 0] 43))
                  have hlt0 := (HB.out.call hb).lt
                  have hlt9 := hb.size
                  clear hb
                  go_wp2_with fail
                  refine (HBy.out _ HB1.out).mono ?_; rintro e w2 ⟨vl, gl, rfl, ho, hg1, hg2, hb⟩
                  obtain ⟨f0, f1, f3⟩ := res_cells (show Below (w1.heap.size + 1) _ w2 from by simpa using hb)
                  have hlt2 : w1.heap.size < w2.heap.size := below_lt hb
                  have hgl : w1.heap.size < gl := by simp at hg1; omega
                  have HB4 := Lib.hid (((HB1.out.call hb).set (p := ⟨w1.heap.size, 0, none⟩) hlt0 (.int .i64 0)).set (p := ⟨w1.heap.size, 1, none⟩) hlt0 (.int .i64 0))
                  have HW4 := Lib.hid (((bel_call HW1.out hb).setCell (p := ⟨w1.heap.size, 0, none⟩) hlt9 (.int .i64 0)).setCell (p := ⟨w1.heap.size, 1, none⟩) hlt9 (.int .i64 0))
                  obtain ⟨a5, c5, w5, hr5, ho5, hb5⟩ := app_own (B := w.heap.size + 1) (HO.out.below HW4.out) ((ho.set (p := ⟨w1.heap.size, 0, none⟩) (by show gl ≠ w1.heap.size; omega) (.int .i64 0)).set (p := ⟨w1.heap.size, 1, none⟩) (by show gl ≠ w1.heap.size; omega) (.int .i64 0)) (by omega) (by omega) (by have := HB4.out.lt; omega)
                  rw [hml] at hr5 ho5
                  have HR5 := Lib.hid hr5
                  have HO5 := Lib.hid ho5
                  have HB5 := Lib.hid (HB4.out.on hb5)
                  have hlt5 := (HB4.out.on hb5).lt
                  obtain ⟨k0, k1, k3⟩ := (HB4.out.on hb5).cells
                  clear hb ho hg1 hg2 hr5 ho5 hb5
                  go_wp2_with (at_builtin; refine wpList_append_run (.tmp 71) (.tmp 72) 28 28 rfl rfl rfl rfl HR5.out ?_)
                  go_roundg (b.length - E)
                  case measure => omega
                  case rel => exact ⟨E, n ++ m, rfl, rfl, rfl, by omega, by rw [List.length_append]; omega, HO5, HRN, HB5⟩
      · have he : here = b.length := by omega
        have HE := stop 4 b.length (rd_end (by omega))
        have hv : lenV b here = .tuple #[.int .i64 0, .agg #[.int .i64 4, .int .i64 b.length]] := by unfold lenV; rw [dif_neg hlt, he]
        rw [hv] at HLen
        clear hv stop HRR HSr HS HO HR he hlt
        go_wp2_with fail
        refine HLen.out.mono ?_; rintro e w1 ⟨rfl, hb⟩
        have HB1 := Lib.hid (HB.out.call hb)
        have hlt1 := HB1.out.lt
        obtain ⟨k0, k1, k3⟩ := HB1.out.cells
        clear hb
        go_wp2_with fail
        go_region
        go_wp2_with fail
        obtain ⟨m0, m1⟩ := res_set (.int .i64 4) (.int .i64 b.length) k0 k1
        exact bodyPost_ret (v := .tuple #[.string ⟨#[]⟩, .int .i64 0, .agg #[.int .i64 4, .int .i64 b.length]]) (by simp [results, Tryz.results108, go_sem, m0, m1, hlt1]) rfl ⟨by obtain ⟨rfl, rfl, rfl, rfl⟩ := HE.out; rfl, below_drewN (HB1.out.fin _ _ _) 1⟩
end Go.Proofs.YtdikgjbpjdnodaaGreat

/-
  Read, of any bytes, at any place.
-/
namespace Go.Proofs.YtdikgjbpjdnodaaGreat
open Go.RowKit Go.Shelf
set_option linter.unusedVariables false
set_option maxRecDepth 100000

set_option maxRecDepth 100000 in
set_option maxHeartbeats 1000000 in
theorem read_any {w : World} {lo hi : Nat} {v : Value} {b : List UInt8} (h : Sl w lo hi v (iz b)) (hhi : hi ≤ w.heap.size) (hl : b.length ≤ 1000000) (a : Int) :
    Calls Tryz.prog 108 #[v, .int .i64 a] w (Tells w (gotV (rda b a))) := by
  by_cases ha : a < 0 ∨ (b.length : Int) < a
  · have e : rda b a = ([], 0, 5, 0) := by unfold rda; rw [if_pos ha]
    rw [e]
    obtain ⟨ad, c, rfl, _⟩ := h
    rw [iz_len]
    go_enter Tryz.func108, Tryz.ntmps108
    go_wp2
    go_step3
    go_wp2
    all_goals
      simp [Exit.noGoto, bodyPost, results, Tryz.results108, go_sem]
      exact ⟨rfl, (Below.refl _ _).alloc (Nat.le_refl _) _⟩
  · obtain ⟨p, rfl⟩ : ∃ p : Nat, a = p := ⟨a.toNat, by omega⟩
    have e : rda b p = rd b p p p 0 [] := by unfold rda; rw [if_neg ha, Int.toNat_natCast]
    rw [e]
    exact read_core h hhi hl p (by omega) _ _ _ _ rfl
end Go.Proofs.YtdikgjbpjdnodaaGreat
