/-
  What stays while the document's own text writes a message: its message, its bytes, its packer, its lists.
-/
import Derived.Test.YtdikgjbpjdnodaaGreatT19
import Derived.Test.YtdikgjbpjdnodaaGreatT20
import Derived.Test.YtdikgjbpjdnodaaGreatT18
import Derived.Test.YtdikgjbpjdnodaaGreatT16
namespace Go.Proofs.YtdikgjbpjdnodaaGreat
open Go.RowKit Go.Shelf
set_option linter.unusedVariables false
set_option linter.unusedSimpArgs false
set_option maxRecDepth 100000

theorem rk_apart {w : World} {B q e B' : Nat} {K : KK} {vr v : Value} {l : List UInt8} (h : Rk w B q vr K e) (ho : OwnB w B' v l) (b : Nat) (hb : v.ownBlock = some b) : b ≠ q := by
  rintro rfl
  obtain ⟨a, c, rfl⟩ := h.own.shape
  have hr := h.row
  rcases ho with ⟨rfl, _⟩ | ⟨g, cap, fz, rfl, _, _, _, _, hg⟩
  · simp [Value.ownBlock] at hb
  · simp [Value.ownBlock] at hb
    subst hb
    rw [World.cell?, hg] at hr
    simp only [List.getElem?_toArray] at hr
    obtain ⟨x, hx⟩ := rowB_all _ (List.mem_of_getElem? (by simpa using hr))
    cases hx

theorem OwnB.hold {w w' : World} {B q : Nat} {v : Value} {l : List UInt8} (ho : OwnB w B v l) (hh : Hold q w w') (hq : ∀ b, v.ownBlock = some b → b ≠ q) : OwnB w' B v l := by
  rcases ho with h | ⟨g, cap, fz, rfl, h1, h2, h3, h4, hg⟩
  · exact .inl h
  · exact .inr ⟨g, cap, fz, rfl, h1, h2, h3, h4, hh g _ _ _ (hq g (by simp [Value.ownBlock])) (by decide) hg⟩

/-- A block that was made and not touched since. -/
def Blk (w : World) (g : Nat) (c : List Value) (T : TypeId) : Prop := w.heap[g]? = some (.cells c.toArray T (0, 0))
section
variable {w w' : World} {g q B : Nat} {c : List Value} {T : TypeId}
theorem Blk.new (w : World) (c : List Value) (T : TypeId) : Blk (w.alloc (.cells c.toArray T)) w.heap.size c T := heap_alloc_new w _
theorem Blk.below (h : Blk w g c T) (hb : Below w.heap.size w w') : Blk w' g c T := (hb.block g (heap_lt h)).trans h
theorem Blk.hold (h : Blk w g c T) (hh : Hold q w w') (hq : g ≠ q) (hT : T ≠ 113) : Blk w' g c T := hh g _ _ _ hq hT h
theorem Blk.app {v : Value} {l : List UInt8} (h : Blk w g c T) (ho : OwnB w B v l) (ha : Aside (fun b => v.ownBlock = some b) w w') (hT : T ≠ 5) : Blk w' g c T := by
  refine (ha.block g (heap_lt h) fun hh => ?_).trans h
  rcases ho with ⟨rfl, _⟩ | ⟨g', cap, fz, rfl, _, _, _, _, hg⟩
  · simp [Value.ownBlock] at hh
  · simp [Value.ownBlock] at hh
    subst hh
    unfold Blk at h
    rw [hg] at h
    injection h with h
    injection h with _ h3 _
    exact hT h3.symm
theorem Blk.cell (h : Blk w g c T) (i : Nat) (u : Value) (hu : c[i]? = some u) : w.cell? ⟨g, i, none⟩ = some u := by
  unfold Blk at h
  rw [World.cell?, h]
  simpa using hu
end

/-- The message in its box, the bytes so far, the packer. -/
structure V0 (w wr : World) (N q : Nat) (xs : List Value) (bv vr : Value) (b : List UInt8) (K : KK) (e : Nat) : Prop where
  x : Cel wr N xs
  xl : 0 < xs.length
  row : OwnB wr (N + 1) bv b
  pk : Rk wr (q + 1) q vr K e
  bel : Below w.heap.size w wr
  hN : w.heap.size = N
  nq : N < q
section
variable {w wr w' : World} {N q e e' : Nat} {xs : List Value} {bv vr v2 : Value} {b : List UInt8} {K K' : KK}
theorem V0.later (h : V0 w wr N q xs bv vr b K e) (hb : Below wr.heap.size wr w') : V0 w w' N q xs bv vr b K e :=
  ⟨h.x.below h.xl hb, h.xl, h.row.below hb, h.pk.later hb, bel_call h.bel hb, h.hN, h.nq⟩
theorem V0.ask (h : V0 w wr N q xs bv vr b K e) (ha : Aside (fun b => b = q ∨ vr.ownBlock = some b) wr w') (hk : Rk w' (q + 1) q v2 K' e') : V0 w w' N q xs bv v2 b K' e' := by
  have hlt := h.pk.own.lt
  have hN := h.hN
  have hnq := h.nq
  refine ⟨h.x.aside h.xl ha ?_, h.xl, h.row.aside ha fun k hk hg => ?_, hk, below_aside h.bel ha fun k hk => ⟨Nat.lt_of_lt_of_le hk h.bel.size, ?_⟩, h.hN, h.nq⟩
  · rintro (hg | hg)
    · omega
    · have := (hlt _ hg).1; omega
  · exact hg.elim (rk_apart h.pk h.row k hk) (apart_BK h.row h.pk.own k hk)
  · rintro (hg | hg)
    · omega
    · have := (hlt _ hg).1; omega
theorem V0.wrote (h : V0 w wr N q xs bv vr b K e) (ha : Aside (fun b => b = q ∨ q + 1 ≤ b) wr w') (hh : Hold q wr w') (hk : Rk w' (q + 1) q v2 K' e') : V0 w w' N q xs bv v2 b K' e' := by
  have hN := h.hN
  have hnq := h.nq
  exact ⟨h.x.aside h.xl ha (by omega), h.xl, h.row.hold hh (rk_apart h.pk h.row), hk, below_aside h.bel ha fun k hk => ⟨Nat.lt_of_lt_of_le hk h.bel.size, by omega⟩, h.hN, h.nq⟩
theorem V0.app (h : V0 w wr N q xs bv vr b K e) {xv : Value} {l' : List UInt8} {lo hi : Nat} (hx : Sl wr lo hi xv (iz l')) (hl : b.length + l'.length ≤ 1000000) :
    ∃ a' c' w', (Builtin.append_ #[28, 28] 28 #[bv, xv]).run Tryz.prog wr = .ok (.slice a' (b.length + l'.length) c') w' ∧ V0 w w' N q xs (.slice a' (b.length + l'.length) c') vr (b ++ l') K e ∧ Aside (fun b => bv.ownBlock = some b) wr w' := by
  have hN := h.hN
  have hsz := h.x.lt h.xl
  obtain ⟨a', c', w', h1, h2, ha⟩ := run_appBs (N + 1) bv xv b l' h.row hx hl hsz
  have hlt := h.row.lt
  refine ⟨a', c', w', h1, ⟨h.x.aside h.xl ha fun hg => ?_, h.xl, h2, h.pk.aside ha (fun hg => rk_apart h.pk h.row q hg rfl) (fun k hk hg => apart_BK h.row h.pk.own k hg hk), below_aside h.bel ha fun k hk => ⟨Nat.lt_of_lt_of_le hk h.bel.size, fun hg => ?_⟩, h.hN, h.nq⟩, ha⟩
  · have := (hlt _ hg).1; omega
  · have := (hlt _ hg).1; omega
end
end Go.Proofs.YtdikgjbpjdnodaaGreat

/-
  The document's own: a message's bytes (Write).
-/
namespace Go.Proofs.YtdikgjbpjdnodaaGreat
open Go.RowKit Go.Shelf
set_option linter.unusedVariables false
set_option linter.unusedSimpArgs false
set_option maxRecDepth 100000

set_option maxHeartbeats 4000000 in
theorem rwriteM_no {w : World} {hi : Nat} {u : Value} {m : Ms} (h : Mg w hi u m) (h1 : hi ≤ w.heap.size) (hf : m.Fine) (hE : chkM m ≠ 0) (hn : m.q.length + m.an.length + m.ns.length + m.ar.length ≤ 1100) :
    Calls Tryz.prog 12 #[u] w (MWPost w (none, chkM m)) := by
  have HC := Lib.hid (fun wx (hb : Below w.heap.size w wx) => rcheckM_any (h.below hb h1) (Nat.le_trans h1 hb.size) hf (by omega))
  obtain ⟨q, a, n, r, rfl, k1, k2, k3, k4⟩ := h
  obtain ⟨i0, hi0⟩ : ∃ i, m.id = i := ⟨_, rfl⟩
  obtain ⟨i1, hi1⟩ : ∃ i, m.fl = i := ⟨_, rfl⟩
  obtain ⟨E, hEE⟩ : ∃ E, chkM m = E := ⟨_, rfl⟩
  rw [hi0, hi1, hEE] at HC
  rw [hi0, hi1, hEE]
  rw [hEE] at hE
  have tE : (E != 0) = true := by simpa using hE
  have hb0 : Below w.heap.size w (w.alloc (.cells #[.int .i64 i0, .int .i64 i1, q, a, n, r] 25)) := (Below.refl _ _).alloc (Nat.le_refl _) _
  have HX := Lib.hid (cel_new6 w (.int .i64 i0) (.int .i64 i1) q a n r 25)
  have HB := Lib.hid hb0
  obtain ⟨c0, c1, c2, c3, c4, c5⟩ := HX.out.six
  clear k1 k2 k3 k4 hb0 hi0 hi1 hEE h1 hf
  go_enter Tryz.func12, Tryz.ntmps12
  go_wp2_with fail
  refine (HC.out _ HB.out).mono ?_; rintro e w1 ⟨rfl, hb⟩
  replace HB := Lib.hid (bel_call HB.out hb)
  clear hb c0 c1 c2 c3 c4 c5
  go_wp2_with fail
  go_ret2
  exact ⟨_, rfl, OwnB.nil _ _, HB.out⟩

theorem flat_next (L : List Int) (k : Nat) (hk : k < L.length) : (L.take (k + 1)).flatMap two = (L.take k).flatMap two ++ two L[k] := by
  rw [List.take_add_one, List.getElem?_eq_getElem hk, List.flatMap_append]
  simp
theorem flat_two (L : List Int) : (L.flatMap two).length = 2 * L.length := by
  induction L with
  | nil => rfl
  | cons a L ih => rw [List.flatMap_cons, List.length_append, ih, two_l, List.length_cons]; omega

set_option maxHeartbeats 16000000 in
theorem rwriteM_yes {w : World} {hi : Nat} {u : Value} {m : Ms} (h : Mg w hi u m) (h1 : hi ≤ w.heap.size) (hf : m.Fine) (h0 : chkM m = 0) (hn : m.q.length + m.an.length + m.ns.length + m.ar.length ≤ 1100) :
    Calls Tryz.prog 12 #[u] w (MWPost w (wrM m)) := by
  rw [wrM_fin h0]
  have HC := Lib.hid (fun wx (hb : Below w.heap.size w wx) => rcheckM_any (h.below hb h1) (Nat.le_trans h1 hb.size) hf (by omega))
  rw [h0] at HC
  obtain ⟨l0, l1, l2, l3, z0, z1, z2, z3, _⟩ := chkM_ok h0
  obtain ⟨q, a, n, r, rfl, k1, k2, k3, k4⟩ := h
  rw [its_parts]
  obtain ⟨hfq, hfa, hfn, hfr⟩ := hf
  clear h0
  obtain ⟨i0, i1, ql, al, nl, rl⟩ := m
  simp only at hfq hfa hfn hfr k1 k2 k3 k4 z0 z1 z2 z3 l0 l1 l2 l3 hn HC ⊢
  obtain ⟨qa, qc, rfl⟩ := Lst.shape k1
  obtain ⟨aa, ac, rfl⟩ := Lst.shape k2
  obtain ⟨na, nc, rfl⟩ := Lst.shape k3
  obtain ⟨ra, rc, rfl⟩ := Lst.shape k4
  obtain ⟨lq, hlq⟩ : ∃ i, ql.length = i := ⟨_, rfl⟩
  obtain ⟨la, hla⟩ : ∃ i, al.length = i := ⟨_, rfl⟩
  obtain ⟨ln, hln⟩ : ∃ i, nl.length = i := ⟨_, rfl⟩
  obtain ⟨lr, hlr⟩ : ∃ i, rl.length = i := ⟨_, rfl⟩
  obtain ⟨L, hL⟩ : ∃ L : List Int, [i0, i1, (lq : Int), (la : Int), (ln : Int), (lr : Int)] = L := ⟨_, rfl⟩
  have hhd : headM ⟨i0, i1, ql, al, nl, rl⟩ = L.flatMap two := by rw [← hL]; simp [headM, hlq, hla, hln, hlr]
  have hL6 : L.length = 6 := by rw [← hL]; rfl
  have hLb : ∀ x ∈ L, 0 ≤ x ∧ x ≤ 65535 := by
    rw [← hL]
    intro x hx
    simp only [List.mem_cons, List.not_mem_nil, or_false] at hx
    rcases hx with rfl | rfl | rfl | rfl | rfl | rfl <;> omega
  rw [hhd]
  rw [hlq, hla, hln, hlr] at hn HC ⊢
  obtain ⟨RO, hRO⟩ : ∃ x, wrIs ((ql.drop 0).map It.q ++ (al.map It.r ++ (nl.map It.r ++ (rl.map It.r ++ [])))) (L.flatMap two) [] 0 = x := ⟨_, rfl⟩
  rw [hRO]
  have HRO := Lib.hid hRO
  have HNS := Lib.hid hn
  have HL6 := Lib.hid hL6
  have HLB := Lib.hid hLb
  have HLL := Lib.hid hL
  have HFQ := Lib.hid (fun j (hj : j < ql.length) => hfq ql[j] (List.getElem_mem hj))
  have HFA := Lib.hid (fun j (hj : j < al.length) => hfa al[j] (List.getElem_mem hj))
  have HFN := Lib.hid (fun j (hj : j < nl.length) => hfn nl[j] (List.getElem_mem hj))
  have HFR := Lib.hid (fun j (hj : j < rl.length) => hfr rl[j] (List.getElem_mem hj))
  have HQ := Lib.hid (fun wx (hb : Below w.heap.size w wx) => (show SQ wx hi _ ql from Lst.below k1 hb h1))
  have HA := Lib.hid (fun wx (hb : Below w.heap.size w wx) => (show SR wx hi _ al from Lst.below k2 hb h1))
  have HN := Lib.hid (fun wx (hb : Below w.heap.size w wx) => (show SR wx hi _ nl from Lst.below k3 hb h1))
  have HR := Lib.hid (fun wx (hb : Below w.heap.size w wx) => (show SR wx hi _ rl from Lst.below k4 hb h1))
  rw [hlq] at HQ
  rw [hla] at HA
  rw [hln] at HN
  rw [hlr] at HR
  have HLQ := Lib.hid hlq
  have HLA := Lib.hid hla
  have HLN := Lib.hid hln
  have HLR := Lib.hid hlr
  have hb0 : Below w.heap.size w (w.alloc (.cells #[.int .i64 i0, .int .i64 i1, .slice qa lq qc, .slice aa la ac, .slice na ln nc, .slice ra lr rc] 25)) := (Below.refl _ _).alloc (Nat.le_refl _) _
  have hx := cel_new6 w (.int .i64 i0) (.int .i64 i1) (.slice qa lq qc) (.slice aa la ac) (.slice na ln nc) (.slice ra lr rc) 25
  obtain ⟨N, hN⟩ : ∃ N, w.heap.size = N := ⟨_, rfl⟩
  rw [hN] at hx
  have HX := Lib.hid hx
  have HB := Lib.hid hb0
  have HNW := Lib.hid hN
  obtain ⟨c0, c1, c2, c3, c4, c5⟩ := hx.six
  clear hRO hL6 hLb hL hhd hfq hfa hfn hfr k1 k2 k3 k4 h1 hlq hla hln hlr hb0 hx hn l0 l1 l2 l3 z0 z1 z2 z3
  go_enter Tryz.func12, Tryz.ntmps12
  go_wp2_with fail
  clear hN
  refine (HC.out _ HB.out).mono ?_; rintro e w1 ⟨rfl, hb⟩
  replace HB := Lib.hid (bel_call HB.out hb)
  replace HX := Lib.hid (HX.out.below (by simp) hb)
  clear hb c0 c1 c2 c3 c4 c5
  obtain ⟨c0, c1, c2, c3, c4, c5⟩ := HX.out.six
  go_wp2_with fail
  clear c0 c1 c2 c3 c4 c5
  obtain ⟨g1, hg1⟩ : ∃ g, w1.heap.size = g := ⟨_, rfl⟩
  have hal : Below w1.heap.size w1 (w1.alloc (.cells #[.int .i64 i0, .int .i64 i1, .int .i64 lq, .int .i64 la, .int .i64 ln, .int .i64 lr] 3)) := (Below.refl _ _).alloc (Nat.le_refl _) _
  have hbk : Blk (w1.alloc (.cells #[.int .i64 i0, .int .i64 i1, .int .i64 lq, .int .i64 la, .int .i64 ln, .int .i64 lr] 3)) w1.heap.size (L.map (Value.int .i64)) 3 := by rw [← HLL.out]; exact Blk.new _ _ _
  obtain ⟨W1, hW1⟩ : ∃ W, w1.alloc (.cells #[.int .i64 i0, .int .i64 i1, .int .i64 lq, .int .i64 la, .int .i64 ln, .int .i64 lr] 3) = W := ⟨_, rfl⟩
  rw [hW1] at hal hbk ⊢
  rw [hg1] at hbk ⊢
  replace HB := Lib.hid (bel_call HB.out hal)
  replace HX := Lib.hid (HX.out.below (by simp) hal)
  have HK := Lib.hid hbk
  clear hal hbk hW1 hg1
  go_loopg [5, 7] 6 (fun g v5 v7 wr => ∃ (k : Nat) (ab : Option Addr) (cb : Nat), k + g = 6 ∧ v7 = .int .i64 k ∧ v5 = .slice ab (2 * k) cb ∧ Hid (OwnB wr (N + 1) (.slice ab (2 * k) cb) ((L.take k).flatMap two)) ∧ Hid (Below w.heap.size w wr) ∧ Hid (Cel wr N [.int .i64 i0, .int .i64 i1, .slice qa lq qc, .slice aa la ac, .slice na ln nc, .slice ra lr rc]) ∧ Hid (Blk wr g1 (L.map (Value.int .i64)) 3))
  case atStart => exact ⟨0, none, 0, by omega, rfl, rfl, OwnB.nil _ _, HB, HX, HK⟩
  case round =>
    obtain ⟨k, ab, cb, hk, rfl, rfl, HO, HBr, HXr, HKr⟩ := hrel
    clear HB HX HK
    by_cases hlt : k < 6
    · have hkl : k < L.length := by rw [HL6.out]; exact hlt
      have hzb := HLB.out _ (List.getElem_mem hkl)
      have hck := HKr.out.cell k (.int .i64 L[k]) (by rw [List.getElem?_map, List.getElem?_eq_getElem hkl]; rfl)
      have hfn := flat_next L k hkl
      have hln := flat_two (L.take k)
      rw [List.length_take, HL6.out, Nat.min_eq_left (by omega)] at hln
      obtain ⟨z, hz⟩ : ∃ z, L[k] = z := ⟨_, rfl⟩
      rw [hz] at hzb hck hfn
      have hpt := fun wx => rput16_any z wx
      unfold RPost at hpt
      have e1 : putE 65535 z = 0 := by unfold putE; rw [if_pos hzb]
      rw [e1, ← iz_two z hzb.1 hzb.2] at hpt
      have HPT := Lib.hid hpt
      have HFN := Lib.hid hfn
      have HLN2 := Lib.hid hln
      clear hpt e1 hfn hz hkl hzb hln
      go_wp2_with fail
      refine (HPT.out _).mono ?_; rintro e w2 ⟨v8, rfl, ho, hb⟩
      replace HO := Lib.hid (HO.out.below hb)
      replace HBr := Lib.hid (bel_call HBr.out hb)
      replace HXr := Lib.hid (HXr.out.below (by simp) hb)
      replace HKr := Lib.hid (HKr.out.below hb)
      obtain ⟨a2, c2, w3, hrun, ho2, ha⟩ := run_appBs (N + 1) (.slice ab (2 * k) cb) v8 ((L.take k).flatMap two) (two z) HO.out ho.sl (by rw [HLN2.out, two_l]; omega) (HXr.out.lt (by simp))
      rw [HLN2.out, two_l, show 2 * k + 2 = 2 * (k + 1) by omega] at hrun ho2
      rw [← HFN.out] at ho2
      have hlt2 := HO.out.lt
      have HK3 := Lib.hid (HKr.out.app HO.out ha (by decide))
      have HX3 := Lib.hid (HXr.out.aside (by simp) ha (fun hg => by have := (hlt2 _ hg).1; omega))
      have HB3 := Lib.hid (below_aside HBr.out ha fun k hk => ⟨Nat.lt_of_lt_of_le hk HBr.out.size, fun hg => by have := (hlt2 _ hg).1; have := HNW.out; omega⟩)
      have HRUN := Lib.hid hrun
      have HO3 := Lib.hid ho2
      clear hb ho hrun ho2 ha hlt2 hck HO HBr HXr HKr HPT
      go_wp2_with (at_builtin; refine wpList_append_run (.tmp 55) (.tmp 56) 28 28 rfl rfl rfl rfl HRUN.out ?_)
      go_roundg (6 - (k + 1))
      case measure => omega
      case rel => exact ⟨k + 1, a2, c2, by omega, by go_num, rfl, HO3, HB3, HX3, HK3⟩
    · have hk6 : k = 6 := by omega
      subst hk6
      have HO2 := HO
      rw [show (L.take 6).flatMap two = L.flatMap two by rw [List.take_of_length_le (by rw [HL6.out]; exact Nat.le_refl _)]] at HO2
      have t1 : ¬ ((6 : Int) < 6) := by omega
      clear HO HKr hk hlt
      obtain ⟨c0, c1, c2, c3, c4, c5⟩ := HXr.out.six
      go_wp2_with fail
      clear c0 c1 c2 c3 c4 c5 t1
      have hal := bel_alloc (Below.refl wr.heap.size wr) (.cells #[.slice none 0 0, .int .i64 0] 73)
      have hpk : Rk (wr.alloc (.cells #[.slice none 0 0, .int .i64 0] 73)) (wr.heap.size + 1) wr.heap.size (.slice none 0 0) [] 0 := ⟨by simp [go_sem], by simp [go_sem], fun j => by simp [go_sem], OwnK.nil _ _, Nat.lt_succ_self _, by simp⟩
      have hv : V0 w (wr.alloc (.cells #[.slice none 0 0, .int .i64 0] 73)) N wr.heap.size [.int .i64 i0, .int .i64 i1, .slice qa lq qc, .slice aa la ac, .slice na ln nc, .slice ra lr rc] (.slice ab 12 cb) (.slice none 0 0) (L.flatMap two) [] 0 := ⟨HXr.out.below (by simp) hal, by simp, HO2.out.below hal, hpk, bel_call HBr.out hal, HNW.out, HXr.out.lt (by simp)⟩
      obtain ⟨q, hq⟩ : ∃ q, wr.heap.size = q := ⟨_, rfl⟩
      obtain ⟨W2, hW2⟩ : ∃ W, wr.alloc (.cells #[.slice none 0 0, .int .i64 0] 73) = W := ⟨_, rfl⟩
      rw [hq, hW2] at hv
      rw [hq, hW2]
      have HV := Lib.hid hv
      have HZ := Lib.hid (show (L.flatMap two).length = 12 by rw [flat_two, HL6.out])
      clear hal hpk hv hq hW2 HO2 HBr HXr
      go_loopg [5, 11] lq (fun g v5 vi wr => ∃ (k : Nat) (K : KK) (e : Nat) (vr : Value) (b : List UInt8) (z : Nat) (ab : Option Addr) (cb : Nat), k + g = lq ∧ vi = .int .i64 k ∧ v5 = .slice ab z cb ∧ Hid (V0 w wr N q [.int .i64 i0, .int .i64 i1, .slice qa lq qc, .slice aa la ac, .slice na ln nc, .slice ra lr rc] (.slice ab z cb) vr b K e) ∧ Hid (b.length = z) ∧ z ≤ 65535 ∧ K.length ≤ 600 * (0 + k) ∧ e ≤ 66000 ∧ Hid (GoodK K) ∧ Hid (wrIs ((ql.drop k).map It.q ++ (al.map It.r ++ (nl.map It.r ++ (rl.map It.r ++ [])))) b K e = RO))
      case atStart => exact ⟨0, [], 0, _, _, 12, _, _, by omega, rfl, rfl, HV, HZ, by omega, by simp, by omega, good_nil, HRO⟩
      case round =>
        obtain ⟨k, K, e, vr, b, z, ab, cb, hk, rfl, rfl, HV, HZ, hz, hKl, he66, HG, HW⟩ := hrel
        have hns := HNS.out
        by_cases hlt : k < lq
        · have hkl : k < ql.length := by rw [HLQ.out]; exact hlt
          obtain ⟨g0, off, cc, he, hb, hc⟩ := (HQ.out _ HV.out.bel).at_ k hkl
          injection he with he hn3 hc3
          clear hn3 hc3
          subst he
          obtain ⟨d0, d1, d2⟩ := hc
          have hfl := HFQ.out k hkl
          have hst := HW.out
          rw [wrIs_step It.q ql _ k hkl] at hst
          obtain ⟨x, hx⟩ : ∃ x, ql[k] = x := ⟨_, rfl⟩
          rw [hx] at d0 d1 d2 hfl hst
          obtain ⟨n, t, c⟩ := x
          simp only at d0 d1 d2 hfl
          have hnx := wrI_next b (It.q ⟨n, t, c⟩) HG.out he66
          have hwe : wrI b K e (It.q ⟨n, t, c⟩) = askW (z : Int) n t c K e := by rw [← HZ.out]; rfl
          rw [hwe] at hnx hst
          have hcl := rask_any HV.out.pk HG.out (by have := HNS.out; omega) (z : Int) n hfl t c
          unfold RAskPost at hcl
          obtain ⟨X, hX⟩ : ∃ X, askW (z : Int) n t c K e = X := ⟨_, rfl⟩
          rw [hX] at hcl hnx hst
          obtain ⟨out, cd, K', e'⟩ := X
          simp only at hcl hnx hst
          obtain ⟨hG', hK', he', ho66⟩ := hnx
          have HCL := Lib.hid hcl
          have HST := Lib.hid hst
          have HG' := Lib.hid hG'
          obtain ⟨lo, hlo⟩ : ∃ l, out.length = l := ⟨_, rfl⟩
          have HLO := Lib.hid hlo
          rw [List.length_append, HZ.out, hlo] at HST
          rw [hlo] at ho66
          clear hx hwe hcl hX hst hG' hlo hb hfl hkl HW
          obtain ⟨c0, c1, c2, c3, c4, c5⟩ := HV.out.x.six
          go_wp2_with fail
          clear c0 c1 c2 c3 c4 c5 d0 d1 d2 
          refine HCL.out.mono ?_; rintro e0 w4 ⟨v1, v2, rfl, ho, hrk, has, hkp⟩
          have hv4 := HV.out.ask has hrk
          obtain ⟨a5, k5, w5, hrun, hv5, ha⟩ := hv4.app ho.sl (by rw [HZ.out, HLO.out]; omega)
          clear ho
          rw [HZ.out, HLO.out] at hrun hv5
          have HV5 := Lib.hid hv5
          have HRUN := Lib.hid hrun
          clear hrk has hkp hv4 hrun hv5 ha HCL HV
          by_cases hcd : cd = 0
          · subst hcd
            by_cases h65 : 65535 < z + lo
            · have HE := Lib.hid (show RO = none by rw [← HST.out, if_pos (.inr h65)])
              have t2 : decide ((65535 : Int) < ((z + lo : Nat) : Int)) = true := by simp; omega
              have t2b : decide ((65535 : Int) < (z : Int) + (lo : Int)) = true := by simp; omega
              go_wp2_with (at_builtin; refine wpList_append_run (.tmp 79) (.tmp 80) 28 28 rfl rfl rfl rfl HRUN.out ?_)
              go_ret2
              rw [HE.out]
              exact ⟨_, rfl, OwnB.nil _ _, HV5.out.bel⟩
            · have t2 : decide ((65535 : Int) < ((z + lo : Nat) : Int)) = false := by simp; omega
              have t2b : decide ((65535 : Int) < (z : Int) + (lo : Int)) = false := by simp; omega
              have HW2 := Lib.hid HST.out
              rw [if_neg (by rintro (h | h); exact h rfl; exact h65 h)] at HW2
              have HZ5 := Lib.hid (show (b ++ out).length = z + lo by rw [List.length_append, HZ.out, HLO.out])
              go_wp2_with (at_builtin; refine wpList_append_run (.tmp 79) (.tmp 80) 28 28 rfl rfl rfl rfl HRUN.out ?_)
              go_roundg (lq - (k + 1))
              case measure => omega
              case rel => exact ⟨k + 1, K', e', v2, b ++ out, z + lo, a5, k5, by omega, by go_num, rfl, HV5, HZ5, by omega, by omega, he', HG', HW2⟩
          · have tC : (cd != 0) = true := by simpa using hcd
            have HE := Lib.hid (show RO = none by rw [← HST.out, if_pos (.inl hcd)])
            go_wp2_with (at_builtin; refine wpList_append_run (.tmp 79) (.tmp 80) 28 28 rfl rfl rfl rfl HRUN.out ?_)
            go_ret2
            rw [HE.out]
            exact ⟨_, rfl, OwnB.nil _ _, HV5.out.bel⟩
        · have hke : k = lq := by omega
          have HW3 := Lib.hid HW.out
          rw [wrIs_end It.q ql _ k (by rw [HLQ.out]; omega)] at HW3
          have t1 : ¬ ((k : Int) < lq) := by omega
          clear HW
          obtain ⟨c0, c1, c2, c3, c4, c5⟩ := HV.out.x.six
          go_wp2_with fail
          clear c0 c1 c2 c3 c4 c5 t1
          have hal : Below wr.heap.size wr (wr.alloc (.cells #[.slice aa la ac, .slice na ln nc, .slice ra lr rc] 23)) := (Below.refl _ _).alloc (Nat.le_refl _) _
          have hbk : Blk (wr.alloc (.cells #[.slice aa la ac, .slice na ln nc, .slice ra lr rc] 23)) wr.heap.size [.slice aa la ac, .slice na ln nc, .slice ra lr rc] 23 := Blk.new _ _ _
          have hgq := HV.out.pk.size
          replace HV := Lib.hid (HV.out.later hal)
          obtain ⟨g2, hg2⟩ : ∃ g, wr.heap.size = g := ⟨_, rfl⟩
          obtain ⟨W3, hW3⟩ : ∃ W, wr.alloc (.cells #[.slice aa la ac, .slice na ln nc, .slice ra lr rc] 23) = W := ⟨_, rfl⟩
          rw [hW3] at hbk HV ⊢
          rw [hg2] at hbk hgq ⊢
          have HGQ := Lib.hid (show q < g2 by omega)
          have HY := Lib.hid hbk
          clear hal hbk hgq hg2 hW3
          refine wp_loop_rounds 4 ?_
          rw [rounds_succ]
          go_wp2_with fail
          have HW4 := Lib.hid (show wrIs ((al.drop 0).map It.r ++ (nl.map It.r ++ (rl.map It.r ++ []))) b K e = RO by rw [List.drop_zero]; exact HW3.out)
          go_loopg [5, 16] la (fun g v5 vi wr => ∃ (k : Nat) (K : KK) (e : Nat) (vr : Value) (b : List UInt8) (z : Nat) (ab : Option Addr) (cb : Nat), k + g = la ∧ vi = .int .i64 k ∧ v5 = .slice ab z cb ∧ Hid (V0 w wr N q [.int .i64 i0, .int .i64 i1, .slice qa lq qc, .slice aa la ac, .slice na ln nc, .slice ra lr rc] (.slice ab z cb) vr b K e) ∧ Hid (b.length = z) ∧ z ≤ 65535 ∧ K.length ≤ 600 * (lq + k) ∧ e ≤ 66000 ∧ Hid (GoodK K) ∧ Hid (wrIs ((al.drop k).map It.r ++ (nl.map It.r ++ (rl.map It.r ++ []))) b K e = RO) ∧ Hid (Blk wr g2 [.slice aa la ac, .slice na ln nc, .slice ra lr rc] 23))
          case atStart => exact ⟨0, K, e, vr, b, z, ab, cb, by omega, rfl, rfl, HV, HZ, hz, by omega, he66, HG, HW4, HY⟩
          case round =>
            obtain ⟨k, K, e, vr, b, z, ab, cb, hk, rfl, rfl, HV, HZ, hz, hKl, he66, HG, HW, HY⟩ := hrel
            have hns := HNS.out
            by_cases hlt : k < la
            · have hkl : k < al.length := by rw [HLA.out]; exact hlt
              obtain ⟨g0, off, cc, he, hb, hc⟩ := (HA.out _ HV.out.bel).at_ k hkl
              injection he with he hn3 hc3
              clear hn3 hc3
              subst he
              obtain ⟨d0, d1, d2, d3, d4⟩ := hc
              have hfl := HFA.out k hkl
              have hst := HW.out
              rw [wrIs_step It.r al _ k hkl] at hst
              obtain ⟨x, hx⟩ : ∃ x, al[k] = x := ⟨_, rfl⟩
              rw [hx] at d0 d1 d2 d3 d4 hfl hst
              obtain ⟨n, t, c, tl, d⟩ := x
              simp only at d0 d1 d2 d3 d4 hfl
              have hnx := wrI_next b (It.r ⟨n, t, c, tl, d⟩) HG.out he66
              have hwe : wrI b K e (It.r ⟨n, t, c, tl, d⟩) = wrC (z : Int) ⟨n, t, c, tl, d⟩ K e := by rw [← HZ.out]; rfl
              rw [hwe] at hnx hst
              have hcl := rwriteC_any HV.out.pk HG.out (by have := HNS.out; omega) (z : Int) n t c tl d hfl.1 hfl.2
              unfold RWrPost at hcl
              obtain ⟨X, hX⟩ : ∃ X, wrC (z : Int) ⟨n, t, c, tl, d⟩ K e = X := ⟨_, rfl⟩
              rw [hX] at hcl hnx hst
              obtain ⟨out, cd, K', e'⟩ := X
              simp only at hcl hnx hst
              obtain ⟨hG', hK', he', ho66⟩ := hnx
              have HCL := Lib.hid hcl
              have HST := Lib.hid hst
              have HG' := Lib.hid hG'
              obtain ⟨lo, hlo⟩ : ∃ l, out.length = l := ⟨_, rfl⟩
              have HLO := Lib.hid hlo
              rw [List.length_append, HZ.out, hlo] at HST
              rw [hlo] at ho66
              clear hx hwe hcl hX hst hG' hlo hb hfl hkl HW
              obtain ⟨c0, c1, c2, c3, c4, c5⟩ := HV.out.x.six
              have y0 := HY.out.cell 0 _ rfl
              go_wp2_with fail
              clear c0 c1 c2 c3 c4 c5 d0 d1 d2 d3 d4 y0
              refine HCL.out.mono ?_; rintro e0 w4 ⟨v1, v2, rfl, hsl, hrk, has, hkp, hhd⟩
              have hv4 := HV.out.wrote has hhd hrk
              obtain ⟨a5, k5, w5, hrun, hv5, ha⟩ := hv4.app hsl (by rw [HZ.out, HLO.out]; omega)
              have HY5 := Lib.hid ((HY.out.hold hhd (by have := HGQ.out; omega) (by decide)).app hv4.row ha (by decide))
              clear hsl hhd
              rw [HZ.out, HLO.out] at hrun hv5
              have HV5 := Lib.hid hv5
              have HRUN := Lib.hid hrun
              clear hrk has hkp hv4 hrun hv5 ha HCL HV HY
              by_cases hcd : cd = 0
              · subst hcd
                by_cases h65 : 65535 < z + lo
                · have HE := Lib.hid (show RO = none by rw [← HST.out, if_pos (.inr h65)])
                  have t2 : decide ((65535 : Int) < ((z + lo : Nat) : Int)) = true := by simp; omega
                  have t2b : decide ((65535 : Int) < (z : Int) + (lo : Int)) = true := by simp; omega
                  go_wp2_with (at_builtin; refine wpList_append_run (.tmp 123) (.tmp 124) 28 28 rfl rfl rfl rfl HRUN.out ?_)
                  go_ret2
                  rw [HE.out]
                  exact ⟨_, rfl, OwnB.nil _ _, HV5.out.bel⟩
                · have t2 : decide ((65535 : Int) < ((z + lo : Nat) : Int)) = false := by simp; omega
                  have t2b : decide ((65535 : Int) < (z : Int) + (lo : Int)) = false := by simp; omega
                  have HW2 := Lib.hid HST.out
                  rw [if_neg (by rintro (h | h); exact h rfl; exact h65 h)] at HW2
                  have HZ5 := Lib.hid (show (b ++ out).length = z + lo by rw [List.length_append, HZ.out, HLO.out])
                  go_wp2_with (at_builtin; refine wpList_append_run (.tmp 123) (.tmp 124) 28 28 rfl rfl rfl rfl HRUN.out ?_)
                  go_roundg (la - (k + 1))
                  case measure => omega
                  case rel => exact ⟨k + 1, K', e', v2, b ++ out, z + lo, a5, k5, by omega, by go_num, rfl, HV5, HZ5, by omega, by omega, he', HG', HW2, HY5⟩
              · have tC : (cd != 0) = true := by simpa using hcd
                have HE := Lib.hid (show RO = none by rw [← HST.out, if_pos (.inl hcd)])
                go_wp2_with (at_builtin; refine wpList_append_run (.tmp 123) (.tmp 124) 28 28 rfl rfl rfl rfl HRUN.out ?_)
                go_ret2
                rw [HE.out]
                exact ⟨_, rfl, OwnB.nil _ _, HV5.out.bel⟩
            · have hke : k = la := by omega
              have HW3 := Lib.hid HW.out
              rw [wrIs_end It.r al _ k (by rw [HLA.out]; omega)] at HW3
              have t1 : ¬ ((k : Int) < la) := by omega
              clear HW
              have y0 := HY.out.cell 0 _ rfl
              go_wp2_with fail
              clear y0 t1
              rw [rounds_succ]
              go_wp2_with fail
              have HW4 := Lib.hid (show wrIs ((nl.drop 0).map It.r ++ (rl.map It.r ++ [])) b K e = RO by rw [List.drop_zero]; exact HW3.out)
              go_loopg [5, 16] ln (fun g v5 vi wr => ∃ (k : Nat) (K : KK) (e : Nat) (vr : Value) (b : List UInt8) (z : Nat) (ab : Option Addr) (cb : Nat), k + g = ln ∧ vi = .int .i64 k ∧ v5 = .slice ab z cb ∧ Hid (V0 w wr N q [.int .i64 i0, .int .i64 i1, .slice qa lq qc, .slice aa la ac, .slice na ln nc, .slice ra lr rc] (.slice ab z cb) vr b K e) ∧ Hid (b.length = z) ∧ z ≤ 65535 ∧ K.length ≤ 600 * ((lq + la) + k) ∧ e ≤ 66000 ∧ Hid (GoodK K) ∧ Hid (wrIs ((nl.drop k).map It.r ++ (rl.map It.r ++ [])) b K e = RO) ∧ Hid (Blk wr g2 [.slice aa la ac, .slice na ln nc, .slice ra lr rc] 23))
              case atStart => exact ⟨0, K, e, vr, b, z, ab, cb, by omega, rfl, rfl, HV, HZ, hz, by omega, he66, HG, HW4, HY⟩
              case round =>
                obtain ⟨k, K, e, vr, b, z, ab, cb, hk, rfl, rfl, HV, HZ, hz, hKl, he66, HG, HW, HY⟩ := hrel
                have hns := HNS.out
                by_cases hlt : k < ln
                · have hkl : k < nl.length := by rw [HLN.out]; exact hlt
                  obtain ⟨g0, off, cc, he, hb, hc⟩ := (HN.out _ HV.out.bel).at_ k hkl
                  injection he with he hn3 hc3
                  clear hn3 hc3
                  subst he
                  obtain ⟨d0, d1, d2, d3, d4⟩ := hc
                  have hfl := HFN.out k hkl
                  have hst := HW.out
                  rw [wrIs_step It.r nl _ k hkl] at hst
                  obtain ⟨x, hx⟩ : ∃ x, nl[k] = x := ⟨_, rfl⟩
                  rw [hx] at d0 d1 d2 d3 d4 hfl hst
                  obtain ⟨n, t, c, tl, d⟩ := x
                  simp only at d0 d1 d2 d3 d4 hfl
                  have hnx := wrI_next b (It.r ⟨n, t, c, tl, d⟩) HG.out he66
                  have hwe : wrI b K e (It.r ⟨n, t, c, tl, d⟩) = wrC (z : Int) ⟨n, t, c, tl, d⟩ K e := by rw [← HZ.out]; rfl
                  rw [hwe] at hnx hst
                  have hcl := rwriteC_any HV.out.pk HG.out (by have := HNS.out; omega) (z : Int) n t c tl d hfl.1 hfl.2
                  unfold RWrPost at hcl
                  obtain ⟨X, hX⟩ : ∃ X, wrC (z : Int) ⟨n, t, c, tl, d⟩ K e = X := ⟨_, rfl⟩
                  rw [hX] at hcl hnx hst
                  obtain ⟨out, cd, K', e'⟩ := X
                  simp only at hcl hnx hst
                  obtain ⟨hG', hK', he', ho66⟩ := hnx
                  have HCL := Lib.hid hcl
                  have HST := Lib.hid hst
                  have HG' := Lib.hid hG'
                  obtain ⟨lo, hlo⟩ : ∃ l, out.length = l := ⟨_, rfl⟩
                  have HLO := Lib.hid hlo
                  rw [List.length_append, HZ.out, hlo] at HST
                  rw [hlo] at ho66
                  clear hx hwe hcl hX hst hG' hlo hb hfl hkl HW
                  obtain ⟨c0, c1, c2, c3, c4, c5⟩ := HV.out.x.six
                  have y1 := HY.out.cell 1 _ rfl
                  go_wp2_with fail
                  clear c0 c1 c2 c3 c4 c5 d0 d1 d2 d3 d4 y1
                  refine HCL.out.mono ?_; rintro e0 w4 ⟨v1, v2, rfl, hsl, hrk, has, hkp, hhd⟩
                  have hv4 := HV.out.wrote has hhd hrk
                  obtain ⟨a5, k5, w5, hrun, hv5, ha⟩ := hv4.app hsl (by rw [HZ.out, HLO.out]; omega)
                  have HY5 := Lib.hid ((HY.out.hold hhd (by have := HGQ.out; omega) (by decide)).app hv4.row ha (by decide))
                  clear hsl hhd
                  rw [HZ.out, HLO.out] at hrun hv5
                  have HV5 := Lib.hid hv5
                  have HRUN := Lib.hid hrun
                  clear hrk has hkp hv4 hrun hv5 ha HCL HV HY
                  by_cases hcd : cd = 0
                  · subst hcd
                    by_cases h65 : 65535 < z + lo
                    · have HE := Lib.hid (show RO = none by rw [← HST.out, if_pos (.inr h65)])
                      have t2 : decide ((65535 : Int) < ((z + lo : Nat) : Int)) = true := by simp; omega
                      have t2b : decide ((65535 : Int) < (z : Int) + (lo : Int)) = true := by simp; omega
                      go_wp2_with (at_builtin; refine wpList_append_run (.tmp 123) (.tmp 124) 28 28 rfl rfl rfl rfl HRUN.out ?_)
                      go_ret2
                      rw [HE.out]
                      exact ⟨_, rfl, OwnB.nil _ _, HV5.out.bel⟩
                    · have t2 : decide ((65535 : Int) < ((z + lo : Nat) : Int)) = false := by simp; omega
                      have t2b : decide ((65535 : Int) < (z : Int) + (lo : Int)) = false := by simp; omega
                      have HW2 := Lib.hid HST.out
                      rw [if_neg (by rintro (h | h); exact h rfl; exact h65 h)] at HW2
                      have HZ5 := Lib.hid (show (b ++ out).length = z + lo by rw [List.length_append, HZ.out, HLO.out])
                      go_wp2_with (at_builtin; refine wpList_append_run (.tmp 123) (.tmp 124) 28 28 rfl rfl rfl rfl HRUN.out ?_)
                      go_roundg (ln - (k + 1))
                      case measure => omega
                      case rel => exact ⟨k + 1, K', e', v2, b ++ out, z + lo, a5, k5, by omega, by go_num, rfl, HV5, HZ5, by omega, by omega, he', HG', HW2, HY5⟩
                  · have tC : (cd != 0) = true := by simpa using hcd
                    have HE := Lib.hid (show RO = none by rw [← HST.out, if_pos (.inl hcd)])
                    go_wp2_with (at_builtin; refine wpList_append_run (.tmp 123) (.tmp 124) 28 28 rfl rfl rfl rfl HRUN.out ?_)
                    go_ret2
                    rw [HE.out]
                    exact ⟨_, rfl, OwnB.nil _ _, HV5.out.bel⟩
                · have hke : k = ln := by omega
                  have HW3 := Lib.hid HW.out
                  rw [wrIs_end It.r nl _ k (by rw [HLN.out]; omega)] at HW3
                  have t1 : ¬ ((k : Int) < ln) := by omega
                  clear HW
                  have y1 := HY.out.cell 1 _ rfl
                  go_wp2_with fail
                  clear y1 t1
                  rw [rounds_succ]
                  go_wp2_with fail
                  have HW4 := Lib.hid (show wrIs ((rl.drop 0).map It.r ++ []) b K e = RO by rw [List.drop_zero]; exact HW3.out)
                  go_loopg [5, 16] lr (fun g v5 vi wr => ∃ (k : Nat) (K : KK) (e : Nat) (vr : Value) (b : List UInt8) (z : Nat) (ab : Option Addr) (cb : Nat), k + g = lr ∧ vi = .int .i64 k ∧ v5 = .slice ab z cb ∧ Hid (V0 w wr N q [.int .i64 i0, .int .i64 i1, .slice qa lq qc, .slice aa la ac, .slice na ln nc, .slice ra lr rc] (.slice ab z cb) vr b K e) ∧ Hid (b.length = z) ∧ z ≤ 65535 ∧ K.length ≤ 600 * ((lq + la + ln) + k) ∧ e ≤ 66000 ∧ Hid (GoodK K) ∧ Hid (wrIs ((rl.drop k).map It.r ++ []) b K e = RO) ∧ Hid (Blk wr g2 [.slice aa la ac, .slice na ln nc, .slice ra lr rc] 23))
                  case atStart => exact ⟨0, K, e, vr, b, z, ab, cb, by omega, rfl, rfl, HV, HZ, hz, by omega, he66, HG, HW4, HY⟩
                  case round =>
                    obtain ⟨k, K, e, vr, b, z, ab, cb, hk, rfl, rfl, HV, HZ, hz, hKl, he66, HG, HW, HY⟩ := hrel
                    have hns := HNS.out
                    by_cases hlt : k < lr
                    · have hkl : k < rl.length := by rw [HLR.out]; exact hlt
                      obtain ⟨g0, off, cc, he, hb, hc⟩ := (HR.out _ HV.out.bel).at_ k hkl
                      injection he with he hn3 hc3
                      clear hn3 hc3
                      subst he
                      obtain ⟨d0, d1, d2, d3, d4⟩ := hc
                      have hfl := HFR.out k hkl
                      have hst := HW.out
                      rw [wrIs_step It.r rl _ k hkl] at hst
                      obtain ⟨x, hx⟩ : ∃ x, rl[k] = x := ⟨_, rfl⟩
                      rw [hx] at d0 d1 d2 d3 d4 hfl hst
                      obtain ⟨n, t, c, tl, d⟩ := x
                      simp only at d0 d1 d2 d3 d4 hfl
                      have hnx := wrI_next b (It.r ⟨n, t, c, tl, d⟩) HG.out he66
                      have hwe : wrI b K e (It.r ⟨n, t, c, tl, d⟩) = wrC (z : Int) ⟨n, t, c, tl, d⟩ K e := by rw [← HZ.out]; rfl
                      rw [hwe] at hnx hst
                      have hcl := rwriteC_any HV.out.pk HG.out (by have := HNS.out; omega) (z : Int) n t c tl d hfl.1 hfl.2
                      unfold RWrPost at hcl
                      obtain ⟨X, hX⟩ : ∃ X, wrC (z : Int) ⟨n, t, c, tl, d⟩ K e = X := ⟨_, rfl⟩
                      rw [hX] at hcl hnx hst
                      obtain ⟨out, cd, K', e'⟩ := X
                      simp only at hcl hnx hst
                      obtain ⟨hG', hK', he', ho66⟩ := hnx
                      have HCL := Lib.hid hcl
                      have HST := Lib.hid hst
                      have HG' := Lib.hid hG'
                      obtain ⟨lo, hlo⟩ : ∃ l, out.length = l := ⟨_, rfl⟩
                      have HLO := Lib.hid hlo
                      rw [List.length_append, HZ.out, hlo] at HST
                      rw [hlo] at ho66
                      clear hx hwe hcl hX hst hG' hlo hb hfl hkl HW
                      obtain ⟨c0, c1, c2, c3, c4, c5⟩ := HV.out.x.six
                      have y2 := HY.out.cell 2 _ rfl
                      go_wp2_with fail
                      clear c0 c1 c2 c3 c4 c5 d0 d1 d2 d3 d4 y2
                      refine HCL.out.mono ?_; rintro e0 w4 ⟨v1, v2, rfl, hsl, hrk, has, hkp, hhd⟩
                      have hv4 := HV.out.wrote has hhd hrk
                      obtain ⟨a5, k5, w5, hrun, hv5, ha⟩ := hv4.app hsl (by rw [HZ.out, HLO.out]; omega)
                      have HY5 := Lib.hid ((HY.out.hold hhd (by have := HGQ.out; omega) (by decide)).app hv4.row ha (by decide))
                      clear hsl hhd
                      rw [HZ.out, HLO.out] at hrun hv5
                      have HV5 := Lib.hid hv5
                      have HRUN := Lib.hid hrun
                      clear hrk has hkp hv4 hrun hv5 ha HCL HV HY
                      by_cases hcd : cd = 0
                      · subst hcd
                        by_cases h65 : 65535 < z + lo
                        · have HE := Lib.hid (show RO = none by rw [← HST.out, if_pos (.inr h65)])
                          have t2 : decide ((65535 : Int) < ((z + lo : Nat) : Int)) = true := by simp; omega
                          have t2b : decide ((65535 : Int) < (z : Int) + (lo : Int)) = true := by simp; omega
                          go_wp2_with (at_builtin; refine wpList_append_run (.tmp 123) (.tmp 124) 28 28 rfl rfl rfl rfl HRUN.out ?_)
                          go_ret2
                          rw [HE.out]
                          exact ⟨_, rfl, OwnB.nil _ _, HV5.out.bel⟩
                        · have t2 : decide ((65535 : Int) < ((z + lo : Nat) : Int)) = false := by simp; omega
                          have t2b : decide ((65535 : Int) < (z : Int) + (lo : Int)) = false := by simp; omega
                          have HW2 := Lib.hid HST.out
                          rw [if_neg (by rintro (h | h); exact h rfl; exact h65 h)] at HW2
                          have HZ5 := Lib.hid (show (b ++ out).length = z + lo by rw [List.length_append, HZ.out, HLO.out])
                          go_wp2_with (at_builtin; refine wpList_append_run (.tmp 123) (.tmp 124) 28 28 rfl rfl rfl rfl HRUN.out ?_)
                          go_roundg (lr - (k + 1))
                          case measure => omega
                          case rel => exact ⟨k + 1, K', e', v2, b ++ out, z + lo, a5, k5, by omega, by go_num, rfl, HV5, HZ5, by omega, by omega, he', HG', HW2, HY5⟩
                      · have tC : (cd != 0) = true := by simpa using hcd
                        have HE := Lib.hid (show RO = none by rw [← HST.out, if_pos (.inl hcd)])
                        go_wp2_with (at_builtin; refine wpList_append_run (.tmp 123) (.tmp 124) 28 28 rfl rfl rfl rfl HRUN.out ?_)
                        go_ret2
                        rw [HE.out]
                        exact ⟨_, rfl, OwnB.nil _ _, HV5.out.bel⟩
                    · have hke : k = lr := by omega
                      have HW3 := Lib.hid HW.out
                      rw [wrIs_end It.r rl _ k (by rw [HLR.out]; omega)] at HW3
                      have t1 : ¬ ((k : Int) < lr) := by omega
                      clear HW
                      have y2 := HY.out.cell 2 _ rfl
                      go_wp2_with fail
                      clear y2 t1
                      rw [rounds_succ]
                      go_wp2_with fail
                      go_ret2
                      have HW4 := HW3.out
                      rw [show wrIs [] b K e = some b from rfl] at HW4
                      rw [← HW4]
                      exact ⟨_, rfl, HV.out.row.mono (by have := HNW.out; omega), HV.out.bel⟩

theorem rwriteM_any {w : World} {hi : Nat} {u : Value} {m : Ms} (h : Mg w hi u m) (h1 : hi ≤ w.heap.size) (hf : m.Fine) (hn : m.q.length + m.an.length + m.ns.length + m.ar.length ≤ 1100) :
    Calls Tryz.prog 12 #[u] w (MWPost w (wrM m)) := by
  by_cases h0 : chkM m = 0
  · exact rwriteM_yes h h1 hf h0 hn
  · rw [show wrM m = (none, chkM m) by unfold wrM; rw [if_pos h0]]
    exact rwriteM_no h h1 hf h0 hn
end Go.Proofs.YtdikgjbpjdnodaaGreat

/-
  Messages, plainly: what is read of any bytes, and of bytes with others behind.
-/
namespace Go.Proofs.YtdikgjbpjdnodaaGreat
open Go.RowKit Go.Shelf
set_option linter.unusedVariables false
set_option linter.unusedSimpArgs false
set_option maxRecDepth 100000

/-- Whatever bytes: a fault within them, or a question. -/
theorem ques_cases (b : List UInt8) (p : Nat) (hp : p ≤ b.length) :
    ((s3 b p).e ≠ 0 ∧ 0 ≤ (s3 b p).p ∧ (s3 b p).p ≤ b.length) ∨
    (∃ n i, rda b p = (n, i, 0, 0) ∧ chk n = 0 ∧ p < i ∧ i + 4 ≤ b.length ∧ s3 b p = ⟨((i + 4 : Nat) : Int), 0, 0⟩ ∧ rN b p = n ∧ rT b p = nAt2 (iz b) i ∧ rC b p = nAt2 (iz b) (i + 2)) := by
  have hrp := rda_place b p
  have b0 : (⟨0, 4, (b.length : Int)⟩ : RS).e ≠ 0 := by simp
  by_cases h0 : (rda b p).2.2.1 = 0
  · obtain ⟨hch, hlt, hle⟩ := rda_fine b p h0
    have hz := rda_zero h0
    obtain ⟨⟨n, i, f, g⟩, hR⟩ : ∃ R, rda b p = R := ⟨_, rfl⟩
    rw [hR] at h0 hch hlt hle hz
    simp only at h0 hch hlt hle hz
    subst h0; subst hz
    obtain ⟨h1, hN⟩ := s1_ok hR
    by_cases hi2 : b.length < i + 2
    · have e2 : s2 b p = ⟨0, 4, b.length⟩ := by unfold s2; rw [h1]; exact st2_short hle hi2 0
      have e : s3 b p = ⟨0, 4, b.length⟩ := by unfold s3; rw [e2, st2_bad b0]
      rw [e]
      exact .inl ⟨by simp, by simp, by simp⟩
    · have g1 := st2_ok (b := b) (i := i) (by omega) 0 0
      have e2 : s2 b p = ⟨((i + 2 : Nat) : Int), 0, 0⟩ := by unfold s2; rw [h1]; exact g1.1
      by_cases hi4 : b.length < i + 4
      · have e3 : s3 b p = ⟨0, 4, b.length⟩ := by unfold s3; rw [e2]; exact st2_short (by omega) (by omega) 0
        rw [e3]
        exact .inl ⟨by simp, by simp, by simp⟩
      · obtain ⟨e3, e4, hT, hC⟩ := ques_ok hR (by omega)
        exact .inr ⟨n, i, hR, hch, hlt, by omega, e3, e4, hT, hC⟩
  · have e1 : s1 b p = ⟨(rda b p).2.1, (rda b p).2.2.1, (rda b p).2.2.2⟩ := by unfold s1 stN; rw [if_neg (by simp)]
    have hne : (s1 b p).e ≠ 0 := by rw [e1]; exact h0
    have e : s3 b p = s1 b p := by
      unfold s3 s2
      rw [st2_bad hne, st2_bad hne]
    rw [e]
    refine .inl ⟨hne, ?_, ?_⟩
    · rw [e1]; show (0 : Int) ≤ ((rda b p).2.2.2 : Nat); omega
    · rw [e1]; show (((rda b p).2.2.2 : Nat) : Int) ≤ _; omega

/-- What reading a record came by, if it is read. -/
theorem rec_parts {b : List UInt8} {p : Nat} (hp : p ≤ b.length) (h : (s6 b p).e = 0) : ∃ n i L, rda b p = (n, i, 0, 0) ∧ i + 10 ≤ b.length ∧ rdR b ((i + 10 : Nat) : Int) (rZ b p) (rT b p) = .ok L := by
  have h5 : (s5 b p).e = 0 := by
    by_cases h5 : (s5 b p).e = 0
    · exact h5
    · unfold s6 at h; rw [stD_bad h5] at h; exact absurd h h5
  have h4 : (s4 b p).e = 0 := by
    by_cases h4 : (s4 b p).e = 0
    · exact h4
    · unfold s5 at h5; rw [st2_bad h4] at h5; exact absurd h5 h4
  have h3 : (s3 b p).e = 0 := by
    by_cases h3 : (s3 b p).e = 0
    · exact h3
    · unfold s4 at h4; rw [st4_bad h3] at h4; exact absurd h4 h3
  rcases ques_cases b p hp with ⟨h1, _⟩ | ⟨n, i, hR, _, _, hi, e1, e2, e3, e4⟩
  · exact absurd h3 h1
  · have hi8 : i + 8 ≤ b.length := by
      by_cases hi8 : i + 8 ≤ b.length
      · exact hi8
      · have e4' : s4 b p = ⟨0, 4, b.length⟩ := by unfold s4; rw [e1]; exact st4_short (by omega) (by omega) 0
        rw [e4'] at h4; exact absurd h4 (by simp)
    have g4 := st4_ok (b := b) (i := i + 4) (by omega) 0 0
    have e4' : s4 b p = ⟨((i + 8 : Nat) : Int), 0, 0⟩ := by unfold s4; rw [e1]; exact g4.1
    have hi10 : i + 10 ≤ b.length := by
      by_cases hi10 : i + 10 ≤ b.length
      · exact hi10
      · have e5 : s5 b p = ⟨0, 4, b.length⟩ := by unfold s5; rw [e4']; exact st2_short (by omega) (by omega) 0
        rw [e5] at h5; exact absurd h5 (by simp)
    rcases hr : rdR b ((i + 10 : Nat) : Int) (rZ b p) (rT b p) with L | ⟨c, a⟩
    · exact ⟨n, i, L, hR, hi10, hr⟩
    · obtain ⟨e6, _⟩ := data_no hR hi10 hr
      obtain ⟨_, hc2⟩ := rdR_bad hr
      rw [e6] at h
      exact absurd h hc2

end Go.Proofs.YtdikgjbpjdnodaaGreat

/-
  Messages, plainly: the message that bytes are.
-/
namespace Go.Proofs.YtdikgjbpjdnodaaGreat
open Go.RowKit Go.Shelf
set_option linter.unusedVariables false
set_option linter.unusedSimpArgs false
set_option maxRecDepth 100000

/-- What reading some comes to: these, and where they end; or the fault. -/
inductive RD (α : Type) where
  | ok (l : List α) (p : Nat)
  | bad (e a : Int)

def RD.cons {α : Type} (x : α) : RD α → RD α
  | .ok l q => .ok (x :: l) q
  | .bad e a => .bad e a

/-- The question, the record that is read. -/
def quesR (b : List UInt8) (p : Nat) : Qn := ⟨rN b p, rT b p, rC b p⟩
def recR (b : List UInt8) (p : Nat) : Rc := ⟨rN b p, rT b p, rC b p, ttlR (rL b p), rD b p⟩

/-- So many questions, records, one behind the other. -/
def rdQs (b : List UInt8) : Nat → Nat → RD Qn
  | 0, p => .ok [] p
  | n + 1, p => if (s3 b p).e ≠ 0 then .bad (s3 b p).e (s3 b p).p else (rdQs b n (s3 b p).a.toNat).cons (quesR b p)
def rdRs (b : List UInt8) : Nat → Nat → RD Rc
  | 0, p => .ok [] p
  | n + 1, p => if (s6 b p).e ≠ 0 then .bad (s6 b p).e (s6 b p).p else (rdRs b n (s6 b p).a.toNat).cons (recR b p)

/-- What reading a message comes to. -/
inductive RM where
  | ok (m : Ms)
  | bad (e a : Int)

/-- A number of the head. -/
def hd (b : List UInt8) (k : Nat) : Int := nAt2 (iz b) (2 * k)

def rdM4 (b : List UInt8) (q : List Qn) (an ns : List Rc) : RD Rc → RM
  | .bad e a => .bad e a
  | .ok ar p => if p < b.length then .bad 4 p else .ok ⟨hd b 0, hd b 1, q, an, ns, ar⟩
def rdM3 (b : List UInt8) (q : List Qn) (an : List Rc) : RD Rc → RM
  | .bad e a => .bad e a
  | .ok ns p => rdM4 b q an ns (rdRs b (hd b 5).toNat p)
def rdM2 (b : List UInt8) (q : List Qn) : RD Rc → RM
  | .bad e a => .bad e a
  | .ok an p => rdM3 b q an (rdRs b (hd b 4).toNat p)
def rdM1 (b : List UInt8) : RD Qn → RM
  | .bad e a => .bad e a
  | .ok q p => rdM2 b q (rdRs b (hd b 3).toNat p)

def rdM (b : List UInt8) : RM := if 65535 < b.length then .bad 3 0 else if b.length < 12 then .bad 4 b.length else rdM1 b (rdQs b (hd b 2).toNat 12)

theorem rdM_of {b : List UInt8} {q : List Qn} {an ns ar : List Rc} {p1 p2 p3 p4 : Nat} (h0 : b.length ≤ 65535) (h00 : 12 ≤ b.length) (h1 : rdQs b (hd b 2).toNat 12 = .ok q p1) (h2 : rdRs b (hd b 3).toNat p1 = .ok an p2) (h3 : rdRs b (hd b 4).toNat p2 = .ok ns p3) (h4 : rdRs b (hd b 5).toNat p3 = .ok ar p4) :
    rdM b = if p4 < b.length then .bad 4 p4 else .ok ⟨hd b 0, hd b 1, q, an, ns, ar⟩ := by
  unfold rdM
  rw [if_neg (by omega), if_neg (by omega), h1]
  simp only [rdM1]
  rw [h2]
  simp only [rdM2]
  rw [h3]
  simp only [rdM3]
  rw [h4]
  rfl

/-- A question that is read ends within the bytes, and may be. -/
theorem ques_fine {b : List UInt8} {p : Nat} (hp : p ≤ b.length) (h : (s3 b p).e = 0) : ∃ q : Nat, (s3 b p).a = q ∧ p < q ∧ q ≤ b.length ∧ (It.q (quesR b p)).err = 0 := by
  rcases ques_cases b p hp with ⟨h1, _⟩ | ⟨n, i, hR, hc, hlt, hi, e1, e2, e3, e4⟩
  · exact absurd h h1
  · refine ⟨i + 4, by rw [e1], by omega, hi, ?_⟩
    have hT : 0 ≤ rT b p ∧ rT b p ≤ 65535 := vl2_lt b _
    have hC : 0 ≤ rC b p ∧ rC b p ≤ 65535 := vl2_lt b _
    show askE (rN b p) (rT b p) (rC b p) = 0
    unfold askE
    rw [e2, if_neg (by simpa using hc), if_neg (by omega)]

/-- Where a record ends, whatever the bytes' length. -/
theorem rec_end {b : List UInt8} {p : Nat} (hp : p ≤ b.length) (hb : b.length ≤ 1000000) (h : (s6 b p).e = 0) : ∃ q : Nat, (s6 b p).a = q ∧ p < q ∧ q ≤ b.length := by
  obtain ⟨n, i, L, hR, hi, hr⟩ := rec_parts hp h
  obtain ⟨_, hlt, hle⟩ := rda_fine b p (by rw [hR])
  rw [hR] at hlt hle
  simp only at hlt hle
  obtain ⟨t0, t1, _, _, _, hz0, hzl, _⟩ := rdR_ok hr
  obtain ⟨e6, _⟩ := data_ok hR hi hr
  have hwr : wrap64 (((i + 10 : Nat) : Int) + rZ b p) = ((i + 10 : Nat) : Int) + rZ b p := IntWalk.wrap64_in _ ⟨by omega, by omega⟩
  refine ⟨i + 10 + (rZ b p).toNat, ?_, by omega, by omega⟩
  rw [e6, hwr]
  show ((i + 10 : Nat) : Int) + rZ b p = _
  omega

theorem hd_lt (b : List UInt8) (k : Nat) : 0 ≤ hd b k ∧ hd b k ≤ 65535 := by
  have hg : ∀ k, 0 ≤ (iz b).getD k 0 ∧ (iz b).getD k 0 < 256 := fun k => by
    rcases Nat.lt_or_ge k b.length with hk | hk
    · rw [iz_get b k hk]
      have : b[k].toNat < 256 := b[k].toNat_lt
      omega
    · rw [List.getD, List.getElem?_eq_none (by rw [iz_len]; exact hk)]; decide
  unfold hd nAt2
  exact num2_lt _ _ (hg _) (hg _)

/-! ### faults -/

/-! ### with others behind -/

/-! ### what stands is read -/

theorem ques_lies {b : List UInt8} {p : Nat} {x : Qn} {en : Nat} (h : LiesI b p (.q x) en) : (s3 b p) = ⟨(en : Nat), 0, 0⟩ ∧ quesR b p = x := by
  obtain ⟨i, ⟨ls, h1, h2, h3, h4, h5, h6⟩, rfl⟩ := h
  obtain ⟨e1, e2, e3, e4⟩ := ques_ok (rdaE h3 h1) h4
  refine ⟨e1, ?_⟩
  unfold quesR
  rw [e2, e3, e4, h5, h6, ← h2]
  rfl

theorem rec_lies {b : List UInt8} {p : Nat} {x : Rc} {en : Nat} (h : LiesI b p (.r x) en) (hb : b.length ≤ 1000000) (hx : (It.r x).err = 0) : (s6 b p) = ⟨(en : Nat), 0, 0⟩ ∧ recR b p = x := by
  obtain ⟨i, ⟨ls, h1, h2, h3, h4, h5, h6⟩, ⟨g1, g2, m, L, g3, g4, g5, g6, g7⟩⟩ := h
  have hl := (chkC_ok hx).2.2.1
  have hr := rdaE h3 h1
  obtain ⟨_, e2, e3, e4⟩ := ques_ok hr h4
  obtain ⟨_, e5, e6⟩ := head_ok hr g1
  obtain ⟨k1, k2⟩ := lies_rdR g5 g6 g4
  have hT : rT b p = x.t := e3.trans h5
  have hZ : rZ b p = m := e6.trans g3
  obtain ⟨f1, f2⟩ := data_ok (L := L) hr g1 (by rw [hZ, hT]; exact k1)
  have hle := g6.le
  have hw : wrap64 (((i + 10 : Nat) : Int) + rZ b p) = (en : Int) := by rw [hZ, IntWalk.wrap64_in _ ⟨by omega, by omega⟩, g7]; push_cast; rfl
  rw [hw] at f1
  have ht : ttlR (rL b p) = x.l := by rw [e5, g2]; unfold ttlR; rw [if_neg (by omega)]
  refine ⟨f1, ?_⟩
  unfold recR
  rw [e2, hT, e4, h6, ht, f2, k2, ← h2]

theorem rdQs_lies {b : List UInt8} : ∀ {l : List Qn} {p en : Nat}, LiesIs b p (l.map .q) en → rdQs b l.length p = .ok l en
  | [], p, en, h => by cases h; rfl
  | x :: l, p, en, h => by
    rw [List.map_cons] at h
    cases h with
    | cons h r =>
      obtain ⟨h1, h2⟩ := ques_lies h
      rw [List.length_cons, rdQs, h1, if_neg (by simp), h2]
      show (rdQs b l.length (Int.toNat (Nat.cast _))).cons x = _
      rw [Int.toNat_natCast, rdQs_lies r]
      rfl
theorem rdRs_lies {b : List UInt8} (hb : b.length ≤ 1000000) : ∀ {l : List Rc} {p en : Nat}, LiesIs b p (l.map .r) en → (∀ x ∈ l, (It.r x).err = 0) → rdRs b l.length p = .ok l en
  | [], p, en, h, _ => by cases h; rfl
  | x :: l, p, en, h, hx => by
    rw [List.map_cons] at h
    cases h with
    | cons h r =>
      obtain ⟨h1, h2⟩ := rec_lies h hb (hx x (by simp))
      rw [List.length_cons, rdRs, h1, if_neg (by simp), h2]
      show (rdRs b l.length (Int.toNat (Nat.cast _))).cons x = _
      rw [Int.toNat_natCast, rdRs_lies hb r fun y hy => hx y (by simp [hy])]
      rfl

theorem head_hd (m : Ms) (c : List UInt8) (h : chkM m = 0) : hd (headM m ++ c) 0 = m.id ∧ hd (headM m ++ c) 1 = m.fl ∧ hd (headM m ++ c) 2 = m.q.length ∧ hd (headM m ++ c) 3 = m.an.length ∧ hd (headM m ++ c) 4 = m.ns.length ∧ hd (headM m ++ c) 5 = m.ar.length := by
  obtain ⟨a1, a2, a3, a4, a5, a6, a7, a8, _⟩ := chkM_ok h
  have e0 := at2 [] (two m.fl ++ (two m.q.length ++ (two m.an.length ++ (two m.ns.length ++ (two m.ar.length ++ c))))) m.id a1 a2
  have e1 := at2 (two m.id) (two m.q.length ++ (two m.an.length ++ (two m.ns.length ++ (two m.ar.length ++ c)))) m.fl a3 a4
  have e2 := at2 (two m.id ++ two m.fl) (two m.an.length ++ (two m.ns.length ++ (two m.ar.length ++ c))) m.q.length (by omega) (by omega)
  have e3 := at2 (two m.id ++ two m.fl ++ two m.q.length) (two m.ns.length ++ (two m.ar.length ++ c)) m.an.length (by omega) (by omega)
  have e4 := at2 (two m.id ++ two m.fl ++ two m.q.length ++ two m.an.length) (two m.ar.length ++ c) m.ns.length (by omega) (by omega)
  have e5 := at2 (two m.id ++ two m.fl ++ two m.q.length ++ two m.an.length ++ two m.ns.length) c m.ar.length (by omega) (by omega)
  refine ⟨?_, ?_, ?_, ?_, ?_, ?_⟩
  · refine Eq.trans ?_ e0; unfold hd headM; simp [two_len]
  · refine Eq.trans ?_ e1; unfold hd headM; simp [two_len]
  · refine Eq.trans ?_ e2; unfold hd headM; simp [two_len]
  · refine Eq.trans ?_ e3; unfold hd headM; simp [two_len]
  · refine Eq.trans ?_ e4; unfold hd headM; simp [two_len]
  · refine Eq.trans ?_ e5; unfold hd headM; simp [two_len]

/-- What is written, with others behind: where its parts are read. -/
theorem wrM_steps {m : Ms} {z : List UInt8} {e : Int} (h : wrM m = (some z, e)) (c : List UInt8) (hc : (z ++ c).length ≤ 65535) :
    12 ≤ z.length ∧ rdM (z ++ c) = if z.length < (z ++ c).length then .bad 4 z.length else .ok m := by
  obtain ⟨_, hm, hz, r, hr, hL⟩ := wrM_lies h
  have h12 : 12 ≤ z.length := by rw [hr, List.length_append, headM_len]; omega
  have hL := hL.more c
  unfold Ms.its at hL
  obtain ⟨p1, L1, hL⟩ := hL.app
  obtain ⟨p2, L2, hL⟩ := hL.app
  obtain ⟨p3, L3, L4⟩ := hL.app
  have hall := (chkM_ok hm).2.2.2.2.2.2.2.2
  have hzc : z ++ c = headM m ++ (r ++ c) := by rw [hr, List.append_assoc]
  obtain ⟨d0, d1, d2, d3, d4, d5⟩ := head_hd m (r ++ c) hm
  rw [← hzc] at d0 d1 d2 d3 d4 d5
  have r1 := rdQs_lies L1
  have r2 := rdRs_lies (by omega) L2 fun x hx => hall _ (by unfold Ms.its; simp [hx])
  have r3 := rdRs_lies (by omega) L3 fun x hx => hall _ (by unfold Ms.its; simp [hx])
  have r4 := rdRs_lies (by omega) L4 fun x hx => hall _ (by unfold Ms.its; simp [hx])
  have := rdM_of hc (by rw [List.length_append]; omega) (by rw [d2, Int.toNat_natCast]; exact r1) (by rw [d3, Int.toNat_natCast]; exact r2) (by rw [d4, Int.toNat_natCast]; exact r3) (by rw [d5, Int.toNat_natCast]; exact r4)
  rw [d0, d1] at this
  exact ⟨h12, this⟩

/-- What is written is read as it was. -/
theorem wrM_back {m : Ms} {z : List UInt8} {e : Int} (h : wrM m = (some z, e)) : rdM z = .ok m := by
  have h2 := (wrM_lies h).2.2.1
  have := (wrM_steps h [] (by rw [List.append_nil]; exact h2)).2
  rw [List.append_nil, if_neg (by omega)] at this
  exact this

end Go.Proofs.YtdikgjbpjdnodaaGreat
