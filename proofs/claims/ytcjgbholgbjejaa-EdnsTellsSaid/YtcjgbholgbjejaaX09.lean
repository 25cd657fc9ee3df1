/-
  What a message says besides is told as the document tells it: EdnsTells.
-/
import Derived.Test.YtcjgbholgbjejaaX07
import Derived.Test.YtcjgbholgbjejaaX08
namespace Go.Proofs.Ytcjgbholgbjejaa
open Go.RowKit Go.Shelf
set_option linter.unusedVariables false
set_option linter.unusedSimpArgs false
set_option maxRecDepth 100000

theorem ofL_len (s : Nat) (L : List Rc) (h : ∀ x ∈ L, x.d.length ≤ 900000) : (ofL s L).1.o.length ≤ 900000 := by
  match s, L with
  | 0, [] => exact Nat.zero_le _
  | 0, [x] => rw [ofL_one]; exact Nat.le_trans (recR_len x) (h x (by simp))
  | 0, _ :: _ :: _ => rw [ofL_bad (by simp) (by simp)]; exact Nat.zero_le _
  | n + 1, _ => rw [ofL_bad (by simp) (by simp)]; exact Nat.zero_le _
theorem ofM_len {m : Ms} (h : Mild m) : (ofM m).1.o.length ≤ 900000 := ofL_len _ _ fun x hx => (h.2.2.2.2 x (opL_mem hx)).2
theorem celz {wX w : World} {q Z : Nat} {l : List Value} (h : Cel wX q l) (hZ : wX.heap.size = Z) (hb : Below Z wX w) (h0 : 0 < l.length := by simp) : Cel w q l := h.below h0 (by rw [hZ]; exact hb)
theorem mgz {wX w : World} {Z : Nat} {v : Value} {m : Ms} (h : Mg wX wX.heap.size v m) (hZ : wX.heap.size = Z) (hb : Below Z wX w) : Mg w Z v m := by rw [hZ] at h; exact h.below hb (Nat.le_refl _)
theorem egz {wX w : World} {Z : Nat} {v : Value} {m : Ed} (h : Eg wX wX.heap.size v m) (hZ : wX.heap.size = Z) (hb : Below Z wX w) : Eg w Z v m := by rw [hZ] at h; exact h.below hb (Nat.le_refl _)
/-- No row of a message stands in that block. -/
def Off (v : Value) (b : Nat) : Prop := ∃ i f q a n r, v = .agg #[i, f, q, a, n, r] ∧ (∀ k, q.ownBlock = some k → k ≠ b) ∧ (∀ k, a.ownBlock = some k → k ≠ b) ∧ (∀ k, n.ownBlock = some k → k ≠ b) ∧ (∀ k, r.ownBlock = some k → k ≠ b)
theorem OwnM.off {w : World} {B b : Nat} {v : Value} {m : Ms} (h : OwnM w B v m) (hb : b < B ∨ w.heap.size ≤ b) : Off v b := by
  obtain ⟨q, a, n, r, rfl, h1, h2, h3, h4⟩ := h
  exact ⟨_, _, q, a, n, r, rfl, fun k hk => by have := World.ownsRow.lt h1 k hk; omega, fun k hk => by have := World.ownsRow.lt h2 k hk; omega, fun k hk => by have := World.ownsRow.lt h3 k hk; omega, fun k hk => by have := World.ownsRow.lt h4 k hk; omega⟩
theorem OwnM.asideB {w w' : World} {B b : Nat} {v : Value} {m : Ms} (h : OwnM w B v m) (ho : Off v b) (ha : Aside (fun k => k = b) w w') : OwnM w' B v m := by
  obtain ⟨q, a, n, r, rfl, h1, h2, h3, h4⟩ := h
  obtain ⟨i, f, q', a', n', r', he, g1, g2, g3, g4⟩ := ho
  injection he with he
  simp only [Array.mk.injEq, List.cons.injEq, and_true] at he
  obtain ⟨_, _, rfl, rfl, rfl, rfl⟩ := he
  exact ⟨q, a, n, r, rfl, row_aside h1 ha fun k hk hg => g1 k hk hg, row_aside h2 ha fun k hk hg => g2 k hk hg, row_aside h3 ha fun k hk hg => g3 k hk hg, row_aside h4 ha fun k hk hg => g4 k hk hg⟩

set_option maxHeartbeats 16000000 in
theorem tells9_any {w : World} {hi : Nat} {u : Value} {m : Ms} (h : Mg w hi u m) (h1 : hi ≤ w.heap.size) : Calls Try.prog 3 #[u] w (Tells w (.bool true)) := by
  have HAw := Lib.hid (fun wx => awake9_any wx)
  obtain ⟨q, a, n, r, rfl, hq, ha, hn, hr⟩ := h
  obtain ⟨qa, qc, rfl⟩ := Lst.shape hq
  obtain ⟨aa, ac, rfl⟩ := Lst.shape ha
  obtain ⟨na, nc, rfl⟩ := Lst.shape hn
  obtain ⟨ra, rc, rfl⟩ := Lst.shape hr
  have hm : Mg w w.heap.size (.agg #[.int .i64 m.id, .int .i64 m.fl, .slice qa m.q.length qc, .slice aa m.an.length ac, .slice na m.ns.length nc, .slice ra m.ar.length rc]) m := Mg.wide ⟨_, _, _, _, rfl, hq, ha, hn, hr⟩ h1
  obtain ⟨i0, hi0⟩ : ∃ i, m.id = i := ⟨_, rfl⟩
  obtain ⟨f0, hf0⟩ : ∃ i, m.fl = i := ⟨_, rfl⟩
  obtain ⟨lq, hlq⟩ : ∃ i, m.q.length = i := ⟨_, rfl⟩
  obtain ⟨la, hla⟩ : ∃ i, m.an.length = i := ⟨_, rfl⟩
  obtain ⟨ln, hln⟩ : ∃ i, m.ns.length = i := ⟨_, rfl⟩
  obtain ⟨lr, hlr⟩ : ∃ i, m.ar.length = i := ⟨_, rfl⟩
  obtain ⟨R, hR⟩ : ∃ r, bigMs 200 66000 m = r := ⟨_, rfl⟩
  obtain ⟨E, hE⟩ : ∃ x, ofM m = x := ⟨_, rfl⟩
  obtain ⟨cd, hcd⟩ : ∃ x, codM m = x := ⟨_, rfl⟩
  obtain ⟨rm, hrm⟩ : ∃ x, roM m = x := ⟨_, rfl⟩
  rw [hi0, hf0, hlq, hla, hln, hlr] at hm ⊢
  have hb : Below w.heap.size w (w.alloc (.cells #[.int .i64 i0, .int .i64 f0, .slice qa lq qc, .slice aa la ac, .slice na ln nc, .slice ra lr rc] 25)) := (Below.refl _ _).alloc (Nat.le_refl _) _
  have hx := cel_new6 w (.int .i64 i0) (.int .i64 f0) (.slice qa lq qc) (.slice aa la ac) (.slice na ln nc) (.slice ra lr rc) 25
  obtain ⟨N, hN⟩ : ∃ N, w.heap.size = N := ⟨_, rfl⟩
  rw [hN] at hx
  have HB := Lib.hid hb
  have HX := Lib.hid hx
  have HM := Lib.hid (hm.later hb)
  have HOE := Lib.hid hE
  have HCD := Lib.hid hcd
  have HRM := Lib.hid hrm
  clear hq ha hn hr h1 hm hb hx hE hcd hrm
  go_enter Try.func3, Try.ntmps3
  go_wp2_with fail
  refine (bigM_any 200 66000 (by decide) (by decide) HM.out (Nat.le_refl _)).mono ?_; rw [hR]; rintro e w2 ⟨rfl, hb⟩
  replace HB := Lib.hid (bel_call HB.out hb)
  replace HX := Lib.hid (HX.out.below (by simp) hb)
  replace HM := Lib.hid (HM.out.later hb)
  clear hb
  cases R with
  | true =>
    go_wp2_with fail
    go_ret
    exact ⟨rfl, HB.out⟩
  | false =>
    have HTOT := Lib.hid (mild_of hR (by decide) (by decide)).2
    have HMI := Lib.hid (mild_of hR (by decide) (by decide)).1
    obtain ⟨c0, c1, c2, c3, c4, c5⟩ := HX.out.six
    go_wp2_with fail
    clear c0 c1 c2 c3 c4 c5
    refine (copyM_any HM.out (Nat.le_refl _) HMI.out.1).mono ?_; rintro e w3 ⟨vin, rfl, hcp, hb⟩
    replace HB := Lib.hid (bel_call HB.out hb)
    replace HX := Lib.hid (HX.out.below (by simp) hb)
    replace HM := Lib.hid (HM.out.later hb)
    obtain ⟨B3, hB3⟩ : ∃ B, w2.heap.size = B := ⟨_, rfl⟩
    rw [hB3] at hcp
    clear hb hB3
    have HC := Lib.hid hcp
    obtain ⟨q1, a1, n1, r1, rfl, ⟨qa1, qc1, rfl, _⟩, ⟨aa1, ac1, rfl, _⟩, ⟨na1, nc1, rfl, _⟩, ⟨ra1, rc1, rfl, _⟩⟩ := hcp
    rw [hi0, hf0, hlq, hla, hln, hlr] at HC ⊢
    have hb : Below w3.heap.size w3 (w3.alloc (.cells #[.int .i64 i0, .int .i64 f0, .slice qa1 lq qc1, .slice aa1 la ac1, .slice na1 ln nc1, .slice ra1 lr rc1] 25)) := (Below.refl _ _).alloc (Nat.le_refl _) _
    have hy := cel_new6 w3 (.int .i64 i0) (.int .i64 f0) (.slice qa1 lq qc1) (.slice aa1 la ac1) (.slice na1 ln nc1) (.slice ra1 lr rc1) 25
    obtain ⟨gi, hgi⟩ : ∃ N, w3.heap.size = N := ⟨_, rfl⟩
    rw [hgi] at hy
    replace HB := Lib.hid (bel_call HB.out hb)
    replace HX := Lib.hid (HX.out.below (by simp) hb)
    replace HM := Lib.hid (HM.out.later hb)
    replace HC := Lib.hid (HC.out.below hb)
    have HI := Lib.hid hy
    clear hb hy
    obtain ⟨c0, c1, c2, c3, c4, c5⟩ := HI.out.six
    go_wp2_with fail
    clear c0 c1 c2 c3 c4 c5 hgi
    obtain ⟨ed, is, er⟩ := E
    have HEL := Lib.hid (show ed.o.length ≤ 1000000 by have h := ofM_len HMI.out; rw [HOE.out] at h; exact Nat.le_trans h (by decide))
    have h := of_any (HC.out.mg HMI.out.1) (Nat.le_refl _) HMI.out
    unfold OfPost at h
    rw [HOE.out] at h
    refine h.mono ?_; rintro e w4 ⟨v, rfl, hv, hb⟩
    clear h
    replace HB := Lib.hid (bel_call HB.out hb)
    replace HX := Lib.hid (HX.out.below (by simp) hb)
    replace HM := Lib.hid (HM.out.later hb)
    replace HC := Lib.hid (HC.out.below hb)
    replace HI := Lib.hid (HI.out.below (by simp) hb)
    clear hb
    have HEA := Lib.hid (hv.eg HEL.out)
    obtain ⟨o, rfl, hso⟩ := hv
    obtain ⟨oa, oc, rfl⟩ := row_shape hso
    clear hso
    have hb : Below w4.heap.size w4 (w4.alloc (.cells #[.int .i64 ed.s, .int .i64 ed.x, .int .i64 ed.v, .bool ed.b, .slice oa ed.o.length oc] 30)) := (Below.refl _ _).alloc (Nat.le_refl _) _
    have hy := cel_new w4 (.int .i64 ed.s) (.int .i64 ed.x) (.int .i64 ed.v) (.bool ed.b) (.slice oa ed.o.length oc) 30
    obtain ⟨g4, hg4⟩ : ∃ N, w4.heap.size = N := ⟨_, rfl⟩
    rw [hg4] at hy
    replace HB := Lib.hid (bel_call HB.out hb)
    replace HX := Lib.hid (HX.out.below (by simp) hb)
    replace HM := Lib.hid (HM.out.later hb)
    replace HC := Lib.hid (HC.out.below hb)
    replace HI := Lib.hid (HI.out.below (by simp) hb)
    replace HEA := Lib.hid (HEA.out.later hb)
    have HYA := Lib.hid hy
    clear hb hy
    obtain ⟨c0, c1, c2, c3, c4, c5⟩ := HX.out.six
    go_wp2_with fail
    clear c0 c1 c2 c3 c4 c5 hg4
    have h := rof_any HM.out (Nat.le_refl _) HMI.out
    unfold OfPost at h
    rw [HOE.out] at h
    refine h.mono ?_; rintro e w5 ⟨v, rfl, hv, hb⟩
    clear h
    replace HB := Lib.hid (bel_call HB.out hb)
    replace HX := Lib.hid (HX.out.below (by simp) hb)
    replace HM := Lib.hid (HM.out.later hb)
    replace HC := Lib.hid (HC.out.below hb)
    replace HI := Lib.hid (HI.out.below (by simp) hb)
    replace HEA := Lib.hid (HEA.out.later hb)
    replace HYA := Lib.hid (HYA.out.below (by simp) hb)
    clear hb
    have HEB := Lib.hid (hv.eg HEL.out)
    obtain ⟨o, rfl, hso⟩ := hv
    obtain ⟨ob, od, rfl⟩ := row_shape hso
    clear hso
    have hb : Below w5.heap.size w5 (w5.alloc (.cells #[.int .i64 ed.s, .int .i64 ed.x, .int .i64 ed.v, .bool ed.b, .slice ob ed.o.length od] 30)) := (Below.refl _ _).alloc (Nat.le_refl _) _
    have hy := cel_new w5 (.int .i64 ed.s) (.int .i64 ed.x) (.int .i64 ed.v) (.bool ed.b) (.slice ob ed.o.length od) 30
    obtain ⟨g7, hg7⟩ : ∃ N, w5.heap.size = N := ⟨_, rfl⟩
    rw [hg7] at hy
    replace HB := Lib.hid (bel_call HB.out hb)
    replace HX := Lib.hid (HX.out.below (by simp) hb)
    replace HM := Lib.hid (HM.out.later hb)
    replace HC := Lib.hid (HC.out.below hb)
    replace HI := Lib.hid (HI.out.below (by simp) hb)
    replace HEA := Lib.hid (HEA.out.later hb)
    replace HEB := Lib.hid (HEB.out.later hb)
    replace HYA := Lib.hid (HYA.out.below (by simp) hb)
    have HYB := Lib.hid hy
    clear hb hy
    go_wp2_with fail
    clear hg7
    obtain ⟨wX, hwX⟩ : ∃ X, (w5.alloc (.cells #[.int .i64 ed.s, .int .i64 ed.x, .int .i64 ed.v, .bool ed.b, .slice ob ed.o.length od] 30)).drew = X := ⟨_, rfl⟩
    have hb : Below (w5.alloc (.cells #[.int .i64 ed.s, .int .i64 ed.x, .int .i64 ed.v, .bool ed.b, .slice ob ed.o.length od] 30)).heap.size (w5.alloc (.cells #[.int .i64 ed.s, .int .i64 ed.x, .int .i64 ed.v, .bool ed.b, .slice ob ed.o.length od] 30)) wX := by rw [← hwX]; exact (Below.refl _ _).drew
    replace HB := Lib.hid (bel_call HB.out hb)
    replace HX := Lib.hid (HX.out.below (by simp) hb)
    replace HM := Lib.hid (HM.out.later hb)
    replace HC := Lib.hid (HC.out.below hb)
    replace HI := Lib.hid (HI.out.below (by simp) hb)
    replace HEA := Lib.hid (HEA.out.later hb)
    replace HEB := Lib.hid (HEB.out.later hb)
    replace HYA := Lib.hid (HYA.out.below (by simp) hb)
    replace HYB := Lib.hid (HYB.out.below (by simp) hb)
    clear hb
    have HLQ := Lib.hid hlq
    have HLA := Lib.hid hla
    have HLN := Lib.hid hln
    have HLR := Lib.hid hlr
    have HI0 := Lib.hid hi0
    have HF0 := Lib.hid hf0
    clear hlq hla hln hlr hi0 hf0 hN
    obtain ⟨XS, hXS⟩ : ∃ x, stM m = x := ⟨_, rfl⟩
    have HXS := Lib.hid hXS
    have HMX := Lib.hid (by have h := HMI.out.st; rw [hXS] at h; exact h : Mild XS)
    obtain ⟨xi, hxi⟩ : ∃ y, XS.id = y := ⟨_, rfl⟩
    obtain ⟨xf, hxf⟩ : ∃ y, XS.fl = y := ⟨_, rfl⟩
    obtain ⟨k1, hk1⟩ : ∃ y, XS.q.length = y := ⟨_, rfl⟩
    obtain ⟨k2, hk2⟩ : ∃ y, XS.an.length = y := ⟨_, rfl⟩
    obtain ⟨k3, hk3⟩ : ∃ y, XS.ns.length = y := ⟨_, rfl⟩
    obtain ⟨k4, hk4⟩ : ∃ y, XS.ar.length = y := ⟨_, rfl⟩
    have HXV := Lib.hid (And.intro hxi (And.intro hxf (And.intro hk1 (And.intro hk2 (And.intro hk3 hk4)))))
    clear hXS hxi hxf hk1 hk2 hk3 hk4
    obtain ⟨Z, hZ⟩ : ∃ Z, wX.heap.size = Z := ⟨_, rfl⟩
    have HZE := Lib.hid hZ
    clear hZ
    obtain ⟨wc, hwc⟩ : ∃ X, wX = X := ⟨_, rfl⟩
    have HZZ := Lib.hid (show Below Z wX wc by rw [← hwc]; exact Below.refl _ _)
    have HWS := Lib.hid (show Z ≤ wc.heap.size by rw [← hwc, HZE.out]; exact Nat.le_refl _)
    refine wp_region_held_drew (S := (fun wx => (wx.cell? ⟨N, 0, none⟩ = some (.int .i64 i0) ∧ wx.cell? ⟨N, 1, none⟩ = some (.int .i64 f0) ∧ wx.cell? ⟨N, 2, none⟩ = some (.slice qa lq qc) ∧ wx.cell? ⟨N, 3, none⟩ = some (.slice aa la ac) ∧ wx.cell? ⟨N, 4, none⟩ = some (.slice na ln nc) ∧ wx.cell? ⟨N, 5, none⟩ = some (.slice ra lr rc)) ∧ (wx.cell? ⟨gi, 0, none⟩ = some (.int .i64 i0) ∧ wx.cell? ⟨gi, 1, none⟩ = some (.int .i64 f0) ∧ wx.cell? ⟨gi, 2, none⟩ = some (.slice qa1 lq qc1) ∧ wx.cell? ⟨gi, 3, none⟩ = some (.slice aa1 la ac1) ∧ wx.cell? ⟨gi, 4, none⟩ = some (.slice na1 ln nc1) ∧ wx.cell? ⟨gi, 5, none⟩ = some (.slice ra1 lr rc1)))) (by kernel_rfl) (by rw [hwX, hwc]; exact ⟨(celz HX.out HZE.out HZZ.out).six, (celz HI.out HZE.out HZZ.out).six⟩) (fun hHeld => ?_)
    refine wpAnyH_take (i := 0) (oi := { dst := some 29, op := Op.load 25 (Operand.tmp 3), type := 25, pos := "law.go:19", after := #[], guard := none }) (v := ?_) rfl (by kernel_rfl) (by kernel_rfl) (by kernel_rfl) (fun _ _ _ h => h) (Or.inl ⟨by rfl, ?_⟩) (by assumption) ?_
    rotate_left 1
    · intro w hSw; (try dsimp only at hSw); go_simp; try (with_reducible rfl)
    try simp only [Act.put, List.setIfInBounds_toArray, List.set_cons_zero, List.set_cons_succ]
    refine wpAnyH_take (i := 2) (oi := { dst := some 31, op := Op.load 25 (Operand.tmp 1), type := 25, pos := "law.go:19", after := #[], guard := none }) (v := ?_) rfl (by kernel_rfl) (by kernel_rfl) (by kernel_rfl) (fun _ _ _ h => h) (Or.inl ⟨by rfl, ?_⟩) (by assumption) ?_
    rotate_left 1
    · intro w hSw; (try dsimp only at hSw); go_simp; try (with_reducible rfl)
    try simp only [Act.put, List.setIfInBounds_toArray, List.set_cons_zero, List.set_cons_succ]
    refine wpAnyH_ready (rs := [1, 4, 5]) (by kernel_rfl) (by simp) ?_
    refine AllReadyH.cons (o := { dst := some 30, op := Op.call { callee := Callee.value (Operand.func 11), args := #[Operand.tmp 29], argTypes := #[25] }, type := 25, pos := "law.go:19", after := #[{ on := 0, ground := Ground.data }], guard := none }) rfl (fun K hK => ?_) (AllReadyH.cons (o := { dst := some 10, op := Op.alloc 25, type := 0, pos := "law.go:19", after := #[], guard := none }) rfl (fun K hK => ?_) (AllReadyH.cons (o := { dst := some 11, op := Op.alloc 25, type := 0, pos := "law.go:19", after := #[], guard := none }) rfl (fun K hK => ?_) (AllReadyH.nil)))
    go_simp
    obtain ⟨z1, hz1⟩ : ∃ g, wc.heap.size = g := ⟨_, rfl⟩
    have hsz := HWS.out
    rw [hz1] at hsz
    refine (strip_any (mgz (HC.out.mg HMI.out.1) HZE.out HZZ.out) HWS.out HMI.out).mono ?_; rintro e0 wc ⟨qv, rfl, ho, hb⟩
    rw [HXS.out, hz1] at ho
    obtain ⟨s1, sc1, s2, sc2, s3, sc3, s4, sc4, hqv⟩ := own_shape4 ho
    rw [HXV.out.1, HXV.out.2.1, HXV.out.2.2.1, HXV.out.2.2.2.1, HXV.out.2.2.2.2.1, HXV.out.2.2.2.2.2] at hqv
    subst hqv
    replace HZZ := Lib.hid (below_aside HZZ.out (Aside.of_all hb : Aside (fun _ => False) _ _) (fun k hk => ⟨Nat.lt_of_lt_of_le hk HWS.out, id⟩))
    replace HWS := Lib.hid (Nat.le_trans HWS.out hb.size)
    clear hb
    have HR1 := Lib.hid (ho.base hsz)
    clear ho hz1 hsz
    focus (try go_wp2_with fail)
    refine hK.out _ _ ⟨(celz HX.out HZE.out HZZ.out).six, (celz HI.out HZE.out HZZ.out).six⟩ (fun hHeld => ?_)
    clear hK K
    try simp only [Act.put, List.setIfInBounds_toArray, List.set_cons_zero, List.set_cons_succ]
    refine wpAnyH_ready (rs := [3, 4, 5]) (by kernel_rfl) (by simp) ?_
    refine AllReadyH.cons (o := { dst := some 32, op := Op.call { callee := Callee.value (Operand.func 12), args := #[Operand.tmp 31], argTypes := #[25] }, type := 25, pos := "law.go:19", after := #[{ on := 2, ground := Ground.data }, { on := 1, ground := Ground.chain }], guard := none }) rfl (fun K hK => ?_) (AllReadyH.cons (o := { dst := some 10, op := Op.alloc 25, type := 0, pos := "law.go:19", after := #[], guard := none }) rfl (fun K hK => ?_) (AllReadyH.cons (o := { dst := some 11, op := Op.alloc 25, type := 0, pos := "law.go:19", after := #[], guard := none }) rfl (fun K hK => ?_) (AllReadyH.nil)))
    go_simp
    obtain ⟨z1, hz1⟩ : ∃ g, wc.heap.size = g := ⟨_, rfl⟩
    have hsz := HWS.out
    rw [hz1] at hsz
    refine (rstrip_any (mgz HM.out HZE.out HZZ.out) HWS.out HMI.out).mono ?_; rintro e0 wc ⟨qv, rfl, ho, hb⟩
    rw [HXS.out, hz1] at ho
    obtain ⟨t1, tc1, t2, tc2, t3, tc3, t4, tc4, hqv⟩ := own_shape4 ho
    rw [HXV.out.1, HXV.out.2.1, HXV.out.2.2.1, HXV.out.2.2.2.1, HXV.out.2.2.2.2.1, HXV.out.2.2.2.2.2] at hqv
    subst hqv
    replace HZZ := Lib.hid (below_aside HZZ.out (Aside.of_all hb : Aside (fun _ => False) _ _) (fun k hk => ⟨Nat.lt_of_lt_of_le hk HWS.out, id⟩))
    replace HWS := Lib.hid (Nat.le_trans HWS.out hb.size)
    replace HR1 := Lib.hid (HR1.out.below hb)
    clear hb
    have HR2 := Lib.hid (ho.base hsz)
    clear ho hz1 hsz
    focus (try go_wp2_with fail)
    refine hK.out _ _ ⟨(celz HX.out HZE.out HZZ.out).six, (celz HI.out HZE.out HZZ.out).six⟩ (fun hHeld => ?_)
    clear hK K
    try simp only [Act.put, List.setIfInBounds_toArray, List.set_cons_zero, List.set_cons_succ]
    refine wpAnyH_ready (rs := [4, 5]) (by kernel_rfl) (by simp) ?_
    refine AllReadyH.cons (o := { dst := some 10, op := Op.alloc 25, type := 0, pos := "law.go:19", after := #[], guard := none }) rfl (fun K hK => ?_) (AllReadyH.cons (o := { dst := some 11, op := Op.alloc 25, type := 0, pos := "law.go:19", after := #[], guard := none }) rfl (fun K hK => ?_) (AllReadyH.nil))
    go_simp
    have hone := cel_new6 wc (.int .i64 0) (.int .i64 0) (.slice none 0 0) (.slice none 0 0) (.slice none 0 0) (.slice none 0 0) 25
    have hb : Below wc.heap.size wc (wc.alloc (.cells #[.int .i64 0, .int .i64 0, .slice none 0 0, .slice none 0 0, .slice none 0 0, .slice none 0 0] 25)) := (Below.refl _ _).alloc (Nat.le_refl _) _
    obtain ⟨b8, hb8⟩ : ∃ g, wc.heap.size = g := ⟨_, rfl⟩
    have hzz := HWS.out
    rw [hb8] at hzz
    have HD18 := Lib.hid (HR1.out.off (.inr (Nat.le_of_eq hb8)))
    have HD28 := Lib.hid (HR2.out.off (.inr (Nat.le_of_eq hb8)))
    obtain ⟨wn, hwn⟩ : ∃ X, wc.alloc (.cells #[.int .i64 0, .int .i64 0, .slice none 0 0, .slice none 0 0, .slice none 0 0, .slice none 0 0] 25) = X := ⟨_, rfl⟩
    rw [hwn, hb8] at hone
    rw [hwn] at hb
    rw [hwn, hb8]
    clear hwn hb8
    replace HZZ := Lib.hid (below_aside HZZ.out (Aside.of_all hb : Aside (fun _ => False) _ _) (fun k hk => ⟨Nat.lt_of_lt_of_le hk HWS.out, id⟩))
    replace HWS := Lib.hid (Nat.le_trans HWS.out hb.size)
    replace HR1 := Lib.hid (HR1.out.below hb)
    replace HR2 := Lib.hid (HR2.out.below hb)
    clear hb
    have HZ8 := Lib.hid hone
    have HB8 := Lib.hid hzz
    clear hone hzz
    obtain ⟨wc, hwc⟩ : ∃ X, wn = X := ⟨_, rfl⟩
    rw [hwc] at HZZ HWS HZ8 HR1 HR2 ⊢
    clear hwc
    refine hK.out _ _ ⟨(celz HX.out HZE.out HZZ.out).six, (celz HI.out HZE.out HZZ.out).six⟩ (fun hHeld => ?_)
    clear hK K
    try simp only [Act.put, List.setIfInBounds_toArray, List.set_cons_zero, List.set_cons_succ]
    refine wpAnyH_ready (rs := [5]) (by kernel_rfl) (by simp) ?_
    refine AllReadyH.cons (o := { dst := some 11, op := Op.alloc 25, type := 0, pos := "law.go:19", after := #[], guard := none }) rfl (fun K hK => ?_) (AllReadyH.nil)
    go_simp
    have hone := cel_new6 wc (.int .i64 0) (.int .i64 0) (.slice none 0 0) (.slice none 0 0) (.slice none 0 0) (.slice none 0 0) 25
    have hb : Below wc.heap.size wc (wc.alloc (.cells #[.int .i64 0, .int .i64 0, .slice none 0 0, .slice none 0 0, .slice none 0 0, .slice none 0 0] 25)) := (Below.refl _ _).alloc (Nat.le_refl _) _
    obtain ⟨b9, hb9⟩ : ∃ g, wc.heap.size = g := ⟨_, rfl⟩
    have hzz := HWS.out
    rw [hb9] at hzz
    have HD19 := Lib.hid (HR1.out.off (.inr (Nat.le_of_eq hb9)))
    have HD29 := Lib.hid (HR2.out.off (.inr (Nat.le_of_eq hb9)))
    have HDD := Lib.hid (show b8 < b9 by have := HZ8.out.lt (by simp); omega)
    obtain ⟨wn, hwn⟩ : ∃ X, wc.alloc (.cells #[.int .i64 0, .int .i64 0, .slice none 0 0, .slice none 0 0, .slice none 0 0, .slice none 0 0] 25) = X := ⟨_, rfl⟩
    rw [hwn, hb9] at hone
    rw [hwn] at hb
    rw [hwn, hb9]
    clear hwn hb9
    replace HZZ := Lib.hid (below_aside HZZ.out (Aside.of_all hb : Aside (fun _ => False) _ _) (fun k hk => ⟨Nat.lt_of_lt_of_le hk HWS.out, id⟩))
    replace HWS := Lib.hid (Nat.le_trans HWS.out hb.size)
    replace HR1 := Lib.hid (HR1.out.below hb)
    replace HR2 := Lib.hid (HR2.out.below hb)
    replace HZ8 := Lib.hid (HZ8.out.below (by simp) hb)
    clear hb
    have HZ9 := Lib.hid hone
    have HB9 := Lib.hid hzz
    clear hone hzz
    obtain ⟨wc, hwc⟩ : ∃ X, wn = X := ⟨_, rfl⟩
    rw [hwc] at HZZ HWS HZ9 HR1 HR2 HZ8 ⊢
    clear hwc
    refine hK.out _ _ ⟨(celz HX.out HZE.out HZZ.out).six, (celz HI.out HZE.out HZZ.out).six⟩ (fun hHeld => ?_)
    clear hK K
    try simp only [Act.put, List.setIfInBounds_toArray, List.set_cons_zero, List.set_cons_succ]
    rotate_left 1
    go_simp
    have hone := cel_new6 wc (.int .i64 0) (.int .i64 0) (.slice none 0 0) (.slice none 0 0) (.slice none 0 0) (.slice none 0 0) 25
    have hb : Below wc.heap.size wc (wc.alloc (.cells #[.int .i64 0, .int .i64 0, .slice none 0 0, .slice none 0 0, .slice none 0 0, .slice none 0 0] 25)) := (Below.refl _ _).alloc (Nat.le_refl _) _
    obtain ⟨b9, hb9⟩ : ∃ g, wc.heap.size = g := ⟨_, rfl⟩
    have hzz := HWS.out
    rw [hb9] at hzz
    have HD19 := Lib.hid (HR1.out.off (.inr (Nat.le_of_eq hb9)))
    have HD29 := Lib.hid (HR2.out.off (.inr (Nat.le_of_eq hb9)))
    obtain ⟨wn, hwn⟩ : ∃ X, wc.alloc (.cells #[.int .i64 0, .int .i64 0, .slice none 0 0, .slice none 0 0, .slice none 0 0, .slice none 0 0] 25) = X := ⟨_, rfl⟩
    rw [hwn, hb9] at hone
    rw [hwn] at hb
    rw [hwn, hb9]
    clear hwn hb9
    replace HZZ := Lib.hid (below_aside HZZ.out (Aside.of_all hb : Aside (fun _ => False) _ _) (fun k hk => ⟨Nat.lt_of_lt_of_le hk HWS.out, id⟩))
    replace HWS := Lib.hid (Nat.le_trans HWS.out hb.size)
    replace HR1 := Lib.hid (HR1.out.below hb)
    replace HR2 := Lib.hid (HR2.out.below hb)
    clear hb
    have HZ9 := Lib.hid hone
    have HB9 := Lib.hid hzz
    clear hone hzz
    obtain ⟨wc, hwc⟩ : ∃ X, wn = X := ⟨_, rfl⟩
    rw [hwc] at HZZ HWS HZ9 HR1 HR2 ⊢
    clear hwc
    refine hK.out _ _ ⟨(celz HX.out HZE.out HZZ.out).six, (celz HI.out HZE.out HZZ.out).six⟩ (fun hHeld => ?_)
    clear hK K
    try simp only [Act.put, List.setIfInBounds_toArray, List.set_cons_zero, List.set_cons_succ]
    refine wpAnyH_ready (rs := [4]) (by kernel_rfl) (by simp) ?_
    refine AllReadyH.cons (o := { dst := some 10, op := Op.alloc 25, type := 0, pos := "law.go:19", after := #[], guard := none }) rfl (fun K hK => ?_) (AllReadyH.nil)
    go_simp
    have hone := cel_new6 wc (.int .i64 0) (.int .i64 0) (.slice none 0 0) (.slice none 0 0) (.slice none 0 0) (.slice none 0 0) 25
    have hb : Below wc.heap.size wc (wc.alloc (.cells #[.int .i64 0, .int .i64 0, .slice none 0 0, .slice none 0 0, .slice none 0 0, .slice none 0 0] 25)) := (Below.refl _ _).alloc (Nat.le_refl _) _
    obtain ⟨b8, hb8⟩ : ∃ g, wc.heap.size = g := ⟨_, rfl⟩
    have hzz := HWS.out
    rw [hb8] at hzz
    have HD18 := Lib.hid (HR1.out.off (.inr (Nat.le_of_eq hb8)))
    have HD28 := Lib.hid (HR2.out.off (.inr (Nat.le_of_eq hb8)))
    have HDD := Lib.hid (show b9 < b8 by have := HZ9.out.lt (by simp); omega)
    obtain ⟨wn, hwn⟩ : ∃ X, wc.alloc (.cells #[.int .i64 0, .int .i64 0, .slice none 0 0, .slice none 0 0, .slice none 0 0, .slice none 0 0] 25) = X := ⟨_, rfl⟩
    rw [hwn, hb8] at hone
    rw [hwn] at hb
    rw [hwn, hb8]
    clear hwn hb8
    replace HZZ := Lib.hid (below_aside HZZ.out (Aside.of_all hb : Aside (fun _ => False) _ _) (fun k hk => ⟨Nat.lt_of_lt_of_le hk HWS.out, id⟩))
    replace HWS := Lib.hid (Nat.le_trans HWS.out hb.size)
    replace HR1 := Lib.hid (HR1.out.below hb)
    replace HR2 := Lib.hid (HR2.out.below hb)
    replace HZ9 := Lib.hid (HZ9.out.below (by simp) hb)
    clear hb
    have HZ8 := Lib.hid hone
    have HB8 := Lib.hid hzz
    clear hone hzz
    obtain ⟨wc, hwc⟩ : ∃ X, wn = X := ⟨_, rfl⟩
    rw [hwc] at HZZ HWS HZ8 HR1 HR2 HZ9 ⊢
    clear hwc
    refine hK.out _ _ ⟨(celz HX.out HZE.out HZZ.out).six, (celz HI.out HZE.out HZZ.out).six⟩ (fun hHeld => ?_)
    clear hK K
    try simp only [Act.put, List.setIfInBounds_toArray, List.set_cons_zero, List.set_cons_succ]
    rotate_left 1
    go_simp
    have hone := cel_new6 wc (.int .i64 0) (.int .i64 0) (.slice none 0 0) (.slice none 0 0) (.slice none 0 0) (.slice none 0 0) 25
    have hb : Below wc.heap.size wc (wc.alloc (.cells #[.int .i64 0, .int .i64 0, .slice none 0 0, .slice none 0 0, .slice none 0 0, .slice none 0 0] 25)) := (Below.refl _ _).alloc (Nat.le_refl _) _
    obtain ⟨b8, hb8⟩ : ∃ g, wc.heap.size = g := ⟨_, rfl⟩
    have hzz := HWS.out
    rw [hb8] at hzz
    have HD18 := Lib.hid (HR1.out.off (.inr (Nat.le_of_eq hb8)))
    obtain ⟨wn, hwn⟩ : ∃ X, wc.alloc (.cells #[.int .i64 0, .int .i64 0, .slice none 0 0, .slice none 0 0, .slice none 0 0, .slice none 0 0] 25) = X := ⟨_, rfl⟩
    rw [hwn, hb8] at hone
    rw [hwn] at hb
    rw [hwn, hb8]
    clear hwn hb8
    replace HZZ := Lib.hid (below_aside HZZ.out (Aside.of_all hb : Aside (fun _ => False) _ _) (fun k hk => ⟨Nat.lt_of_lt_of_le hk HWS.out, id⟩))
    replace HWS := Lib.hid (Nat.le_trans HWS.out hb.size)
    replace HR1 := Lib.hid (HR1.out.below hb)
    clear hb
    have HZ8 := Lib.hid hone
    have HB8 := Lib.hid hzz
    clear hone hzz
    obtain ⟨wc, hwc⟩ : ∃ X, wn = X := ⟨_, rfl⟩
    rw [hwc] at HZZ HWS HZ8 HR1 ⊢
    clear hwc
    refine hK.out _ _ ⟨(celz HX.out HZE.out HZZ.out).six, (celz HI.out HZE.out HZZ.out).six⟩ (fun hHeld => ?_)
    clear hK K
    try simp only [Act.put, List.setIfInBounds_toArray, List.set_cons_zero, List.set_cons_succ]
    refine wpAnyH_ready (rs := [3, 5]) (by kernel_rfl) (by simp) ?_
    refine AllReadyH.cons (o := { dst := some 32, op := Op.call { callee := Callee.value (Operand.func 12), args := #[Operand.tmp 31], argTypes := #[25] }, type := 25, pos := "law.go:19", after := #[{ on := 2, ground := Ground.data }, { on := 1, ground := Ground.chain }], guard := none }) rfl (fun K hK => ?_) (AllReadyH.cons (o := { dst := some 11, op := Op.alloc 25, type := 0, pos := "law.go:19", after := #[], guard := none }) rfl (fun K hK => ?_) (AllReadyH.nil))
    go_simp
    obtain ⟨z1, hz1⟩ : ∃ g, wc.heap.size = g := ⟨_, rfl⟩
    have hsz := HWS.out
    rw [hz1] at hsz
    have hq8 := HZ8.out.lt (by simp)
    rw [hz1] at hq8
    refine (rstrip_any (mgz HM.out HZE.out HZZ.out) HWS.out HMI.out).mono ?_; rintro e0 wc ⟨qv, rfl, ho, hb⟩
    rw [HXS.out, hz1] at ho
    obtain ⟨t1, tc1, t2, tc2, t3, tc3, t4, tc4, hqv⟩ := own_shape4 ho
    rw [HXV.out.1, HXV.out.2.1, HXV.out.2.2.1, HXV.out.2.2.2.1, HXV.out.2.2.2.2.1, HXV.out.2.2.2.2.2] at hqv
    subst hqv
    have HD28 := Lib.hid (ho.off (.inl hq8))
    clear hq8
    replace HZZ := Lib.hid (below_aside HZZ.out (Aside.of_all hb : Aside (fun _ => False) _ _) (fun k hk => ⟨Nat.lt_of_lt_of_le hk HWS.out, id⟩))
    replace HWS := Lib.hid (Nat.le_trans HWS.out hb.size)
    replace HR1 := Lib.hid (HR1.out.below hb)
    replace HZ8 := Lib.hid (HZ8.out.below (by simp) hb)
    clear hb
    have HR2 := Lib.hid (ho.base hsz)
    clear ho hz1 hsz
    focus (try go_wp2_with fail)
    refine hK.out _ _ ⟨(celz HX.out HZE.out HZZ.out).six, (celz HI.out HZE.out HZZ.out).six⟩ (fun hHeld => ?_)
    clear hK K
    try simp only [Act.put, List.setIfInBounds_toArray, List.set_cons_zero, List.set_cons_succ]
    refine wpAnyH_ready (rs := [5]) (by kernel_rfl) (by simp) ?_
    refine AllReadyH.cons (o := { dst := some 11, op := Op.alloc 25, type := 0, pos := "law.go:19", after := #[], guard := none }) rfl (fun K hK => ?_) (AllReadyH.nil)
    go_simp
    have hone := cel_new6 wc (.int .i64 0) (.int .i64 0) (.slice none 0 0) (.slice none 0 0) (.slice none 0 0) (.slice none 0 0) 25
    have hb : Below wc.heap.size wc (wc.alloc (.cells #[.int .i64 0, .int .i64 0, .slice none 0 0, .slice none 0 0, .slice none 0 0, .slice none 0 0] 25)) := (Below.refl _ _).alloc (Nat.le_refl _) _
    obtain ⟨b9, hb9⟩ : ∃ g, wc.heap.size = g := ⟨_, rfl⟩
    have hzz := HWS.out
    rw [hb9] at hzz
    have HD19 := Lib.hid (HR1.out.off (.inr (Nat.le_of_eq hb9)))
    have HD29 := Lib.hid (HR2.out.off (.inr (Nat.le_of_eq hb9)))
    have HDD := Lib.hid (show b8 < b9 by have := HZ8.out.lt (by simp); omega)
    obtain ⟨wn, hwn⟩ : ∃ X, wc.alloc (.cells #[.int .i64 0, .int .i64 0, .slice none 0 0, .slice none 0 0, .slice none 0 0, .slice none 0 0] 25) = X := ⟨_, rfl⟩
    rw [hwn, hb9] at hone
    rw [hwn] at hb
    rw [hwn, hb9]
    clear hwn hb9
    replace HZZ := Lib.hid (below_aside HZZ.out (Aside.of_all hb : Aside (fun _ => False) _ _) (fun k hk => ⟨Nat.lt_of_lt_of_le hk HWS.out, id⟩))
    replace HWS := Lib.hid (Nat.le_trans HWS.out hb.size)
    replace HR1 := Lib.hid (HR1.out.below hb)
    replace HR2 := Lib.hid (HR2.out.below hb)
    replace HZ8 := Lib.hid (HZ8.out.below (by simp) hb)
    clear hb
    have HZ9 := Lib.hid hone
    have HB9 := Lib.hid hzz
    clear hone hzz
    obtain ⟨wc, hwc⟩ : ∃ X, wn = X := ⟨_, rfl⟩
    rw [hwc] at HZZ HWS HZ9 HR1 HR2 HZ8 ⊢
    clear hwc
    refine hK.out _ _ ⟨(celz HX.out HZE.out HZZ.out).six, (celz HI.out HZE.out HZZ.out).six⟩ (fun hHeld => ?_)
    clear hK K
    try simp only [Act.put, List.setIfInBounds_toArray, List.set_cons_zero, List.set_cons_succ]
    rotate_left 1
    go_simp
    have hone := cel_new6 wc (.int .i64 0) (.int .i64 0) (.slice none 0 0) (.slice none 0 0) (.slice none 0 0) (.slice none 0 0) 25
    have hb : Below wc.heap.size wc (wc.alloc (.cells #[.int .i64 0, .int .i64 0, .slice none 0 0, .slice none 0 0, .slice none 0 0, .slice none 0 0] 25)) := (Below.refl _ _).alloc (Nat.le_refl _) _
    obtain ⟨b9, hb9⟩ : ∃ g, wc.heap.size = g := ⟨_, rfl⟩
    have hzz := HWS.out
    rw [hb9] at hzz
    have HD19 := Lib.hid (HR1.out.off (.inr (Nat.le_of_eq hb9)))
    have HDD := Lib.hid (show b8 < b9 by have := HZ8.out.lt (by simp); omega)
    obtain ⟨wn, hwn⟩ : ∃ X, wc.alloc (.cells #[.int .i64 0, .int .i64 0, .slice none 0 0, .slice none 0 0, .slice none 0 0, .slice none 0 0] 25) = X := ⟨_, rfl⟩
    rw [hwn, hb9] at hone
    rw [hwn] at hb
    rw [hwn, hb9]
    clear hwn hb9
    replace HZZ := Lib.hid (below_aside HZZ.out (Aside.of_all hb : Aside (fun _ => False) _ _) (fun k hk => ⟨Nat.lt_of_lt_of_le hk HWS.out, id⟩))
    replace HWS := Lib.hid (Nat.le_trans HWS.out hb.size)
    replace HR1 := Lib.hid (HR1.out.below hb)
    replace HZ8 := Lib.hid (HZ8.out.below (by simp) hb)
    clear hb
    have HZ9 := Lib.hid hone
    have HB9 := Lib.hid hzz
    clear hone hzz
    obtain ⟨wc, hwc⟩ : ∃ X, wn = X := ⟨_, rfl⟩
    rw [hwc] at HZZ HWS HZ9 HR1 HZ8 ⊢
    clear hwc
    refine hK.out _ _ ⟨(celz HX.out HZE.out HZZ.out).six, (celz HI.out HZE.out HZZ.out).six⟩ (fun hHeld => ?_)
    clear hK K
    try simp only [Act.put, List.setIfInBounds_toArray, List.set_cons_zero, List.set_cons_succ]
    refine wpAnyH_ready (rs := [3]) (by kernel_rfl) (by simp) ?_
    refine AllReadyH.cons (o := { dst := some 32, op := Op.call { callee := Callee.value (Operand.func 12), args := #[Operand.tmp 31], argTypes := #[25] }, type := 25, pos := "law.go:19", after := #[{ on := 2, ground := Ground.data }, { on := 1, ground := Ground.chain }], guard := none }) rfl (fun K hK => ?_) (AllReadyH.nil)
    go_simp
    obtain ⟨z1, hz1⟩ : ∃ g, wc.heap.size = g := ⟨_, rfl⟩
    have hsz := HWS.out
    rw [hz1] at hsz
    have hq8 := HZ8.out.lt (by simp)
    rw [hz1] at hq8
    have hq9 := HZ9.out.lt (by simp)
    rw [hz1] at hq9
    refine (rstrip_any (mgz HM.out HZE.out HZZ.out) HWS.out HMI.out).mono ?_; rintro e0 wc ⟨qv, rfl, ho, hb⟩
    rw [HXS.out, hz1] at ho
    obtain ⟨t1, tc1, t2, tc2, t3, tc3, t4, tc4, hqv⟩ := own_shape4 ho
    rw [HXV.out.1, HXV.out.2.1, HXV.out.2.2.1, HXV.out.2.2.2.1, HXV.out.2.2.2.2.1, HXV.out.2.2.2.2.2] at hqv
    subst hqv
    have HD28 := Lib.hid (ho.off (.inl hq8))
    clear hq8
    have HD29 := Lib.hid (ho.off (.inl hq9))
    clear hq9
    replace HZZ := Lib.hid (below_aside HZZ.out (Aside.of_all hb : Aside (fun _ => False) _ _) (fun k hk => ⟨Nat.lt_of_lt_of_le hk HWS.out, id⟩))
    replace HWS := Lib.hid (Nat.le_trans HWS.out hb.size)
    replace HR1 := Lib.hid (HR1.out.below hb)
    replace HZ8 := Lib.hid (HZ8.out.below (by simp) hb)
    replace HZ9 := Lib.hid (HZ9.out.below (by simp) hb)
    clear hb
    have HR2 := Lib.hid (ho.base hsz)
    clear ho hz1 hsz
    focus (try go_wp2_with fail)
    refine hK.out _ _ ⟨(celz HX.out HZE.out HZZ.out).six, (celz HI.out HZE.out HZZ.out).six⟩ (fun hHeld => ?_)
    clear hK K
    try simp only [Act.put, List.setIfInBounds_toArray, List.set_cons_zero, List.set_cons_succ]
    rotate_left 1
    go_simp
    have hone := cel_new6 wc (.int .i64 0) (.int .i64 0) (.slice none 0 0) (.slice none 0 0) (.slice none 0 0) (.slice none 0 0) 25
    have hb : Below wc.heap.size wc (wc.alloc (.cells #[.int .i64 0, .int .i64 0, .slice none 0 0, .slice none 0 0, .slice none 0 0, .slice none 0 0] 25)) := (Below.refl _ _).alloc (Nat.le_refl _) _
    obtain ⟨b9, hb9⟩ : ∃ g, wc.heap.size = g := ⟨_, rfl⟩
    have hzz := HWS.out
    rw [hb9] at hzz
    have HD19 := Lib.hid (HR1.out.off (.inr (Nat.le_of_eq hb9)))
    obtain ⟨wn, hwn⟩ : ∃ X, wc.alloc (.cells #[.int .i64 0, .int .i64 0, .slice none 0 0, .slice none 0 0, .slice none 0 0, .slice none 0 0] 25) = X := ⟨_, rfl⟩
    rw [hwn, hb9] at hone
    rw [hwn] at hb
    rw [hwn, hb9]
    clear hwn hb9
    replace HZZ := Lib.hid (below_aside HZZ.out (Aside.of_all hb : Aside (fun _ => False) _ _) (fun k hk => ⟨Nat.lt_of_lt_of_le hk HWS.out, id⟩))
    replace HWS := Lib.hid (Nat.le_trans HWS.out hb.size)
    replace HR1 := Lib.hid (HR1.out.below hb)
    clear hb
    have HZ9 := Lib.hid hone
    have HB9 := Lib.hid hzz
    clear hone hzz
    obtain ⟨wc, hwc⟩ : ∃ X, wn = X := ⟨_, rfl⟩
    rw [hwc] at HZZ HWS HZ9 HR1 ⊢
    clear hwc
    refine hK.out _ _ ⟨(celz HX.out HZE.out HZZ.out).six, (celz HI.out HZE.out HZZ.out).six⟩ (fun hHeld => ?_)
    clear hK K
    try simp only [Act.put, List.setIfInBounds_toArray, List.set_cons_zero, List.set_cons_succ]
    refine wpAnyH_ready (rs := [3, 4]) (by kernel_rfl) (by simp) ?_
    refine AllReadyH.cons (o := { dst := some 32, op := Op.call { callee := Callee.value (Operand.func 12), args := #[Operand.tmp 31], argTypes := #[25] }, type := 25, pos := "law.go:19", after := #[{ on := 2, ground := Ground.data }, { on := 1, ground := Ground.chain }], guard := none }) rfl (fun K hK => ?_) (AllReadyH.cons (o := { dst := some 10, op := Op.alloc 25, type := 0, pos := "law.go:19", after := #[], guard := none }) rfl (fun K hK => ?_) (AllReadyH.nil))
    go_simp
    obtain ⟨z1, hz1⟩ : ∃ g, wc.heap.size = g := ⟨_, rfl⟩
    have hsz := HWS.out
    rw [hz1] at hsz
    have hq9 := HZ9.out.lt (by simp)
    rw [hz1] at hq9
    refine (rstrip_any (mgz HM.out HZE.out HZZ.out) HWS.out HMI.out).mono ?_; rintro e0 wc ⟨qv, rfl, ho, hb⟩
    rw [HXS.out, hz1] at ho
    obtain ⟨t1, tc1, t2, tc2, t3, tc3, t4, tc4, hqv⟩ := own_shape4 ho
    rw [HXV.out.1, HXV.out.2.1, HXV.out.2.2.1, HXV.out.2.2.2.1, HXV.out.2.2.2.2.1, HXV.out.2.2.2.2.2] at hqv
    subst hqv
    have HD29 := Lib.hid (ho.off (.inl hq9))
    clear hq9
    replace HZZ := Lib.hid (below_aside HZZ.out (Aside.of_all hb : Aside (fun _ => False) _ _) (fun k hk => ⟨Nat.lt_of_lt_of_le hk HWS.out, id⟩))
    replace HWS := Lib.hid (Nat.le_trans HWS.out hb.size)
    replace HR1 := Lib.hid (HR1.out.below hb)
    replace HZ9 := Lib.hid (HZ9.out.below (by simp) hb)
    clear hb
    have HR2 := Lib.hid (ho.base hsz)
    clear ho hz1 hsz
    focus (try go_wp2_with fail)
    refine hK.out _ _ ⟨(celz HX.out HZE.out HZZ.out).six, (celz HI.out HZE.out HZZ.out).six⟩ (fun hHeld => ?_)
    clear hK K
    try simp only [Act.put, List.setIfInBounds_toArray, List.set_cons_zero, List.set_cons_succ]
    refine wpAnyH_ready (rs := [4]) (by kernel_rfl) (by simp) ?_
    refine AllReadyH.cons (o := { dst := some 10, op := Op.alloc 25, type := 0, pos := "law.go:19", after := #[], guard := none }) rfl (fun K hK => ?_) (AllReadyH.nil)
    go_simp
    have hone := cel_new6 wc (.int .i64 0) (.int .i64 0) (.slice none 0 0) (.slice none 0 0) (.slice none 0 0) (.slice none 0 0) 25
    have hb : Below wc.heap.size wc (wc.alloc (.cells #[.int .i64 0, .int .i64 0, .slice none 0 0, .slice none 0 0, .slice none 0 0, .slice none 0 0] 25)) := (Below.refl _ _).alloc (Nat.le_refl _) _
    obtain ⟨b8, hb8⟩ : ∃ g, wc.heap.size = g := ⟨_, rfl⟩
    have hzz := HWS.out
    rw [hb8] at hzz
    have HD18 := Lib.hid (HR1.out.off (.inr (Nat.le_of_eq hb8)))
    have HD28 := Lib.hid (HR2.out.off (.inr (Nat.le_of_eq hb8)))
    have HDD := Lib.hid (show b9 < b8 by have := HZ9.out.lt (by simp); omega)
    obtain ⟨wn, hwn⟩ : ∃ X, wc.alloc (.cells #[.int .i64 0, .int .i64 0, .slice none 0 0, .slice none 0 0, .slice none 0 0, .slice none 0 0] 25) = X := ⟨_, rfl⟩
    rw [hwn, hb8] at hone
    rw [hwn] at hb
    rw [hwn, hb8]
    clear hwn hb8
    replace HZZ := Lib.hid (below_aside HZZ.out (Aside.of_all hb : Aside (fun _ => False) _ _) (fun k hk => ⟨Nat.lt_of_lt_of_le hk HWS.out, id⟩))
    replace HWS := Lib.hid (Nat.le_trans HWS.out hb.size)
    replace HR1 := Lib.hid (HR1.out.below hb)
    replace HR2 := Lib.hid (HR2.out.below hb)
    replace HZ9 := Lib.hid (HZ9.out.below (by simp) hb)
    clear hb
    have HZ8 := Lib.hid hone
    have HB8 := Lib.hid hzz
    clear hone hzz
    obtain ⟨wc, hwc⟩ : ∃ X, wn = X := ⟨_, rfl⟩
    rw [hwc] at HZZ HWS HZ8 HR1 HR2 HZ9 ⊢
    clear hwc
    refine hK.out _ _ ⟨(celz HX.out HZE.out HZZ.out).six, (celz HI.out HZE.out HZZ.out).six⟩ (fun hHeld => ?_)
    clear hK K
    try simp only [Act.put, List.setIfInBounds_toArray, List.set_cons_zero, List.set_cons_succ]
    rotate_left 1
    go_simp
    have hone := cel_new6 wc (.int .i64 0) (.int .i64 0) (.slice none 0 0) (.slice none 0 0) (.slice none 0 0) (.slice none 0 0) 25
    have hb : Below wc.heap.size wc (wc.alloc (.cells #[.int .i64 0, .int .i64 0, .slice none 0 0, .slice none 0 0, .slice none 0 0, .slice none 0 0] 25)) := (Below.refl _ _).alloc (Nat.le_refl _) _
    obtain ⟨b8, hb8⟩ : ∃ g, wc.heap.size = g := ⟨_, rfl⟩
    have hzz := HWS.out
    rw [hb8] at hzz
    have HD18 := Lib.hid (HR1.out.off (.inr (Nat.le_of_eq hb8)))
    have HDD := Lib.hid (show b9 < b8 by have := HZ9.out.lt (by simp); omega)
    obtain ⟨wn, hwn⟩ : ∃ X, wc.alloc (.cells #[.int .i64 0, .int .i64 0, .slice none 0 0, .slice none 0 0, .slice none 0 0, .slice none 0 0] 25) = X := ⟨_, rfl⟩
    rw [hwn, hb8] at hone
    rw [hwn] at hb
    rw [hwn, hb8]
    clear hwn hb8
    replace HZZ := Lib.hid (below_aside HZZ.out (Aside.of_all hb : Aside (fun _ => False) _ _) (fun k hk => ⟨Nat.lt_of_lt_of_le hk HWS.out, id⟩))
    replace HWS := Lib.hid (Nat.le_trans HWS.out hb.size)
    replace HR1 := Lib.hid (HR1.out.below hb)
    replace HZ9 := Lib.hid (HZ9.out.below (by simp) hb)
    clear hb
    have HZ8 := Lib.hid hone
    have HB8 := Lib.hid hzz
    clear hone hzz
    obtain ⟨wc, hwc⟩ : ∃ X, wn = X := ⟨_, rfl⟩
    rw [hwc] at HZZ HWS HZ8 HR1 HZ9 ⊢
    clear hwc
    refine hK.out _ _ ⟨(celz HX.out HZE.out HZZ.out).six, (celz HI.out HZE.out HZZ.out).six⟩ (fun hHeld => ?_)
    clear hK K
    try simp only [Act.put, List.setIfInBounds_toArray, List.set_cons_zero, List.set_cons_succ]
    refine wpAnyH_ready (rs := [3]) (by kernel_rfl) (by simp) ?_
    refine AllReadyH.cons (o := { dst := some 32, op := Op.call { callee := Callee.value (Operand.func 12), args := #[Operand.tmp 31], argTypes := #[25] }, type := 25, pos := "law.go:19", after := #[{ on := 2, ground := Ground.data }, { on := 1, ground := Ground.chain }], guard := none }) rfl (fun K hK => ?_) (AllReadyH.nil)
    go_simp
    obtain ⟨z1, hz1⟩ : ∃ g, wc.heap.size = g := ⟨_, rfl⟩
    have hsz := HWS.out
    rw [hz1] at hsz
    have hq8 := HZ8.out.lt (by simp)
    rw [hz1] at hq8
    have hq9 := HZ9.out.lt (by simp)
    rw [hz1] at hq9
    refine (rstrip_any (mgz HM.out HZE.out HZZ.out) HWS.out HMI.out).mono ?_; rintro e0 wc ⟨qv, rfl, ho, hb⟩
    rw [HXS.out, hz1] at ho
    obtain ⟨t1, tc1, t2, tc2, t3, tc3, t4, tc4, hqv⟩ := own_shape4 ho
    rw [HXV.out.1, HXV.out.2.1, HXV.out.2.2.1, HXV.out.2.2.2.1, HXV.out.2.2.2.2.1, HXV.out.2.2.2.2.2] at hqv
    subst hqv
    have HD28 := Lib.hid (ho.off (.inl hq8))
    clear hq8
    have HD29 := Lib.hid (ho.off (.inl hq9))
    clear hq9
    replace HZZ := Lib.hid (below_aside HZZ.out (Aside.of_all hb : Aside (fun _ => False) _ _) (fun k hk => ⟨Nat.lt_of_lt_of_le hk HWS.out, id⟩))
    replace HWS := Lib.hid (Nat.le_trans HWS.out hb.size)
    replace HR1 := Lib.hid (HR1.out.below hb)
    replace HZ8 := Lib.hid (HZ8.out.below (by simp) hb)
    replace HZ9 := Lib.hid (HZ9.out.below (by simp) hb)
    clear hb
    have HR2 := Lib.hid (ho.base hsz)
    clear ho hz1 hsz
    focus (try go_wp2_with fail)
    refine hK.out _ _ ⟨(celz HX.out HZE.out HZZ.out).six, (celz HI.out HZE.out HZZ.out).six⟩ (fun hHeld => ?_)
    clear hK K
    try simp only [Act.put, List.setIfInBounds_toArray, List.set_cons_zero, List.set_cons_succ]
    rotate_left 1
    go_simp
    have hone := cel_new6 wc (.int .i64 0) (.int .i64 0) (.slice none 0 0) (.slice none 0 0) (.slice none 0 0) (.slice none 0 0) 25
    have hb : Below wc.heap.size wc (wc.alloc (.cells #[.int .i64 0, .int .i64 0, .slice none 0 0, .slice none 0 0, .slice none 0 0, .slice none 0 0] 25)) := (Below.refl _ _).alloc (Nat.le_refl _) _
    obtain ⟨b8, hb8⟩ : ∃ g, wc.heap.size = g := ⟨_, rfl⟩
    have hzz := HWS.out
    rw [hb8] at hzz
    obtain ⟨wn, hwn⟩ : ∃ X, wc.alloc (.cells #[.int .i64 0, .int .i64 0, .slice none 0 0, .slice none 0 0, .slice none 0 0, .slice none 0 0] 25) = X := ⟨_, rfl⟩
    rw [hwn, hb8] at hone
    rw [hwn] at hb
    rw [hwn, hb8]
    clear hwn hb8
    replace HZZ := Lib.hid (below_aside HZZ.out (Aside.of_all hb : Aside (fun _ => False) _ _) (fun k hk => ⟨Nat.lt_of_lt_of_le hk HWS.out, id⟩))
    replace HWS := Lib.hid (Nat.le_trans HWS.out hb.size)
    clear hb
    have HZ8 := Lib.hid hone
    have HB8 := Lib.hid hzz
    clear hone hzz
    obtain ⟨wc, hwc⟩ : ∃ X, wn = X := ⟨_, rfl⟩
    rw [hwc] at HZZ HWS HZ8 ⊢
    clear hwc
    refine hK.out _ _ ⟨(celz HX.out HZE.out HZZ.out).six, (celz HI.out HZE.out HZZ.out).six⟩ (fun hHeld => ?_)
    clear hK K
    try simp only [Act.put, List.setIfInBounds_toArray, List.set_cons_zero, List.set_cons_succ]
    refine wpAnyH_ready (rs := [1, 5]) (by kernel_rfl) (by simp) ?_
    refine AllReadyH.cons (o := { dst := some 30, op := Op.call { callee := Callee.value (Operand.func 11), args := #[Operand.tmp 29], argTypes := #[25] }, type := 25, pos := "law.go:19", after := #[{ on := 0, ground := Ground.data }], guard := none }) rfl (fun K hK => ?_) (AllReadyH.cons (o := { dst := some 11, op := Op.alloc 25, type := 0, pos := "law.go:19", after := #[], guard := none }) rfl (fun K hK => ?_) (AllReadyH.nil))
    go_simp
    obtain ⟨z1, hz1⟩ : ∃ g, wc.heap.size = g := ⟨_, rfl⟩
    have hsz := HWS.out
    rw [hz1] at hsz
    have hq8 := HZ8.out.lt (by simp)
    rw [hz1] at hq8
    refine (strip_any (mgz (HC.out.mg HMI.out.1) HZE.out HZZ.out) HWS.out HMI.out).mono ?_; rintro e0 wc ⟨qv, rfl, ho, hb⟩
    rw [HXS.out, hz1] at ho
    obtain ⟨s1, sc1, s2, sc2, s3, sc3, s4, sc4, hqv⟩ := own_shape4 ho
    rw [HXV.out.1, HXV.out.2.1, HXV.out.2.2.1, HXV.out.2.2.2.1, HXV.out.2.2.2.2.1, HXV.out.2.2.2.2.2] at hqv
    subst hqv
    have HD18 := Lib.hid (ho.off (.inl hq8))
    clear hq8
    replace HZZ := Lib.hid (below_aside HZZ.out (Aside.of_all hb : Aside (fun _ => False) _ _) (fun k hk => ⟨Nat.lt_of_lt_of_le hk HWS.out, id⟩))
    replace HWS := Lib.hid (Nat.le_trans HWS.out hb.size)
    replace HZ8 := Lib.hid (HZ8.out.below (by simp) hb)
    clear hb
    have HR1 := Lib.hid (ho.base hsz)
    clear ho hz1 hsz
    focus (try go_wp2_with fail)
    refine hK.out _ _ ⟨(celz HX.out HZE.out HZZ.out).six, (celz HI.out HZE.out HZZ.out).six⟩ (fun hHeld => ?_)
    clear hK K
    try simp only [Act.put, List.setIfInBounds_toArray, List.set_cons_zero, List.set_cons_succ]
    refine wpAnyH_ready (rs := [3, 5]) (by kernel_rfl) (by simp) ?_
    refine AllReadyH.cons (o := { dst := some 32, op := Op.call { callee := Callee.value (Operand.func 12), args := #[Operand.tmp 31], argTypes := #[25] }, type := 25, pos := "law.go:19", after := #[{ on := 2, ground := Ground.data }, { on := 1, ground := Ground.chain }], guard := none }) rfl (fun K hK => ?_) (AllReadyH.cons (o := { dst := some 11, op := Op.alloc 25, type := 0, pos := "law.go:19", after := #[], guard := none }) rfl (fun K hK => ?_) (AllReadyH.nil))
    go_simp
    obtain ⟨z1, hz1⟩ : ∃ g, wc.heap.size = g := ⟨_, rfl⟩
    have hsz := HWS.out
    rw [hz1] at hsz
    have hq8 := HZ8.out.lt (by simp)
    rw [hz1] at hq8
    refine (rstrip_any (mgz HM.out HZE.out HZZ.out) HWS.out HMI.out).mono ?_; rintro e0 wc ⟨qv, rfl, ho, hb⟩
    rw [HXS.out, hz1] at ho
    obtain ⟨t1, tc1, t2, tc2, t3, tc3, t4, tc4, hqv⟩ := own_shape4 ho
    rw [HXV.out.1, HXV.out.2.1, HXV.out.2.2.1, HXV.out.2.2.2.1, HXV.out.2.2.2.2.1, HXV.out.2.2.2.2.2] at hqv
    subst hqv
    have HD28 := Lib.hid (ho.off (.inl hq8))
    clear hq8
    replace HZZ := Lib.hid (below_aside HZZ.out (Aside.of_all hb : Aside (fun _ => False) _ _) (fun k hk => ⟨Nat.lt_of_lt_of_le hk HWS.out, id⟩))
    replace HWS := Lib.hid (Nat.le_trans HWS.out hb.size)
    replace HR1 := Lib.hid (HR1.out.below hb)
    replace HZ8 := Lib.hid (HZ8.out.below (by simp) hb)
    clear hb
    have HR2 := Lib.hid (ho.base hsz)
    clear ho hz1 hsz
    focus (try go_wp2_with fail)
    refine hK.out _ _ ⟨(celz HX.out HZE.out HZZ.out).six, (celz HI.out HZE.out HZZ.out).six⟩ (fun hHeld => ?_)
    clear hK K
    try simp only [Act.put, List.setIfInBounds_toArray, List.set_cons_zero, List.set_cons_succ]
    refine wpAnyH_ready (rs := [5]) (by kernel_rfl) (by simp) ?_
    refine AllReadyH.cons (o := { dst := some 11, op := Op.alloc 25, type := 0, pos := "law.go:19", after := #[], guard := none }) rfl (fun K hK => ?_) (AllReadyH.nil)
    go_simp
    have hone := cel_new6 wc (.int .i64 0) (.int .i64 0) (.slice none 0 0) (.slice none 0 0) (.slice none 0 0) (.slice none 0 0) 25
    have hb : Below wc.heap.size wc (wc.alloc (.cells #[.int .i64 0, .int .i64 0, .slice none 0 0, .slice none 0 0, .slice none 0 0, .slice none 0 0] 25)) := (Below.refl _ _).alloc (Nat.le_refl _) _
    obtain ⟨b9, hb9⟩ : ∃ g, wc.heap.size = g := ⟨_, rfl⟩
    have hzz := HWS.out
    rw [hb9] at hzz
    have HD19 := Lib.hid (HR1.out.off (.inr (Nat.le_of_eq hb9)))
    have HD29 := Lib.hid (HR2.out.off (.inr (Nat.le_of_eq hb9)))
    have HDD := Lib.hid (show b8 < b9 by have := HZ8.out.lt (by simp); omega)
    obtain ⟨wn, hwn⟩ : ∃ X, wc.alloc (.cells #[.int .i64 0, .int .i64 0, .slice none 0 0, .slice none 0 0, .slice none 0 0, .slice none 0 0] 25) = X := ⟨_, rfl⟩
    rw [hwn, hb9] at hone
    rw [hwn] at hb
    rw [hwn, hb9]
    clear hwn hb9
    replace HZZ := Lib.hid (below_aside HZZ.out (Aside.of_all hb : Aside (fun _ => False) _ _) (fun k hk => ⟨Nat.lt_of_lt_of_le hk HWS.out, id⟩))
    replace HWS := Lib.hid (Nat.le_trans HWS.out hb.size)
    replace HR1 := Lib.hid (HR1.out.below hb)
    replace HR2 := Lib.hid (HR2.out.below hb)
    replace HZ8 := Lib.hid (HZ8.out.below (by simp) hb)
    clear hb
    have HZ9 := Lib.hid hone
    have HB9 := Lib.hid hzz
    clear hone hzz
    obtain ⟨wc, hwc⟩ : ∃ X, wn = X := ⟨_, rfl⟩
    rw [hwc] at HZZ HWS HZ9 HR1 HR2 HZ8 ⊢
    clear hwc
    refine hK.out _ _ ⟨(celz HX.out HZE.out HZZ.out).six, (celz HI.out HZE.out HZZ.out).six⟩ (fun hHeld => ?_)
    clear hK K
    try simp only [Act.put, List.setIfInBounds_toArray, List.set_cons_zero, List.set_cons_succ]
    rotate_left 1
    go_simp
    have hone := cel_new6 wc (.int .i64 0) (.int .i64 0) (.slice none 0 0) (.slice none 0 0) (.slice none 0 0) (.slice none 0 0) 25
    have hb : Below wc.heap.size wc (wc.alloc (.cells #[.int .i64 0, .int .i64 0, .slice none 0 0, .slice none 0 0, .slice none 0 0, .slice none 0 0] 25)) := (Below.refl _ _).alloc (Nat.le_refl _) _
    obtain ⟨b9, hb9⟩ : ∃ g, wc.heap.size = g := ⟨_, rfl⟩
    have hzz := HWS.out
    rw [hb9] at hzz
    have HD19 := Lib.hid (HR1.out.off (.inr (Nat.le_of_eq hb9)))
    have HDD := Lib.hid (show b8 < b9 by have := HZ8.out.lt (by simp); omega)
    obtain ⟨wn, hwn⟩ : ∃ X, wc.alloc (.cells #[.int .i64 0, .int .i64 0, .slice none 0 0, .slice none 0 0, .slice none 0 0, .slice none 0 0] 25) = X := ⟨_, rfl⟩
    rw [hwn, hb9] at hone
    rw [hwn] at hb
    rw [hwn, hb9]
    clear hwn hb9
    replace HZZ := Lib.hid (below_aside HZZ.out (Aside.of_all hb : Aside (fun _ => False) _ _) (fun k hk => ⟨Nat.lt_of_lt_of_le hk HWS.out, id⟩))
    replace HWS := Lib.hid (Nat.le_trans HWS.out hb.size)
    replace HR1 := Lib.hid (HR1.out.below hb)
    replace HZ8 := Lib.hid (HZ8.out.below (by simp) hb)
    clear hb
    have HZ9 := Lib.hid hone
    have HB9 := Lib.hid hzz
    clear hone hzz
    obtain ⟨wc, hwc⟩ : ∃ X, wn = X := ⟨_, rfl⟩
    rw [hwc] at HZZ HWS HZ9 HR1 HZ8 ⊢
    clear hwc
    refine hK.out _ _ ⟨(celz HX.out HZE.out HZZ.out).six, (celz HI.out HZE.out HZZ.out).six⟩ (fun hHeld => ?_)
    clear hK K
    try simp only [Act.put, List.setIfInBounds_toArray, List.set_cons_zero, List.set_cons_succ]
    refine wpAnyH_ready (rs := [3]) (by kernel_rfl) (by simp) ?_
    refine AllReadyH.cons (o := { dst := some 32, op := Op.call { callee := Callee.value (Operand.func 12), args := #[Operand.tmp 31], argTypes := #[25] }, type := 25, pos := "law.go:19", after := #[{ on := 2, ground := Ground.data }, { on := 1, ground := Ground.chain }], guard := none }) rfl (fun K hK => ?_) (AllReadyH.nil)
    go_simp
    obtain ⟨z1, hz1⟩ : ∃ g, wc.heap.size = g := ⟨_, rfl⟩
    have hsz := HWS.out
    rw [hz1] at hsz
    have hq8 := HZ8.out.lt (by simp)
    rw [hz1] at hq8
    have hq9 := HZ9.out.lt (by simp)
    rw [hz1] at hq9
    refine (rstrip_any (mgz HM.out HZE.out HZZ.out) HWS.out HMI.out).mono ?_; rintro e0 wc ⟨qv, rfl, ho, hb⟩
    rw [HXS.out, hz1] at ho
    obtain ⟨t1, tc1, t2, tc2, t3, tc3, t4, tc4, hqv⟩ := own_shape4 ho
    rw [HXV.out.1, HXV.out.2.1, HXV.out.2.2.1, HXV.out.2.2.2.1, HXV.out.2.2.2.2.1, HXV.out.2.2.2.2.2] at hqv
    subst hqv
    have HD28 := Lib.hid (ho.off (.inl hq8))
    clear hq8
    have HD29 := Lib.hid (ho.off (.inl hq9))
    clear hq9
    replace HZZ := Lib.hid (below_aside HZZ.out (Aside.of_all hb : Aside (fun _ => False) _ _) (fun k hk => ⟨Nat.lt_of_lt_of_le hk HWS.out, id⟩))
    replace HWS := Lib.hid (Nat.le_trans HWS.out hb.size)
    replace HR1 := Lib.hid (HR1.out.below hb)
    replace HZ8 := Lib.hid (HZ8.out.below (by simp) hb)
    replace HZ9 := Lib.hid (HZ9.out.below (by simp) hb)
    clear hb
    have HR2 := Lib.hid (ho.base hsz)
    clear ho hz1 hsz
    focus (try go_wp2_with fail)
    refine hK.out _ _ ⟨(celz HX.out HZE.out HZZ.out).six, (celz HI.out HZE.out HZZ.out).six⟩ (fun hHeld => ?_)
    clear hK K
    try simp only [Act.put, List.setIfInBounds_toArray, List.set_cons_zero, List.set_cons_succ]
    rotate_left 1
    go_simp
    have hone := cel_new6 wc (.int .i64 0) (.int .i64 0) (.slice none 0 0) (.slice none 0 0) (.slice none 0 0) (.slice none 0 0) 25
    have hb : Below wc.heap.size wc (wc.alloc (.cells #[.int .i64 0, .int .i64 0, .slice none 0 0, .slice none 0 0, .slice none 0 0, .slice none 0 0] 25)) := (Below.refl _ _).alloc (Nat.le_refl _) _
    obtain ⟨b9, hb9⟩ : ∃ g, wc.heap.size = g := ⟨_, rfl⟩
    have hzz := HWS.out
    rw [hb9] at hzz
    have HDD := Lib.hid (show b8 < b9 by have := HZ8.out.lt (by simp); omega)
    obtain ⟨wn, hwn⟩ : ∃ X, wc.alloc (.cells #[.int .i64 0, .int .i64 0, .slice none 0 0, .slice none 0 0, .slice none 0 0, .slice none 0 0] 25) = X := ⟨_, rfl⟩
    rw [hwn, hb9] at hone
    rw [hwn] at hb
    rw [hwn, hb9]
    clear hwn hb9
    replace HZZ := Lib.hid (below_aside HZZ.out (Aside.of_all hb : Aside (fun _ => False) _ _) (fun k hk => ⟨Nat.lt_of_lt_of_le hk HWS.out, id⟩))
    replace HWS := Lib.hid (Nat.le_trans HWS.out hb.size)
    replace HZ8 := Lib.hid (HZ8.out.below (by simp) hb)
    clear hb
    have HZ9 := Lib.hid hone
    have HB9 := Lib.hid hzz
    clear hone hzz
    obtain ⟨wc, hwc⟩ : ∃ X, wn = X := ⟨_, rfl⟩
    rw [hwc] at HZZ HWS HZ9 HZ8 ⊢
    clear hwc
    refine hK.out _ _ ⟨(celz HX.out HZE.out HZZ.out).six, (celz HI.out HZE.out HZZ.out).six⟩ (fun hHeld => ?_)
    clear hK K
    try simp only [Act.put, List.setIfInBounds_toArray, List.set_cons_zero, List.set_cons_succ]
    refine wpAnyH_ready (rs := [1]) (by kernel_rfl) (by simp) ?_
    refine AllReadyH.cons (o := { dst := some 30, op := Op.call { callee := Callee.value (Operand.func 11), args := #[Operand.tmp 29], argTypes := #[25] }, type := 25, pos := "law.go:19", after := #[{ on := 0, ground := Ground.data }], guard := none }) rfl (fun K hK => ?_) (AllReadyH.nil)
    go_simp
    obtain ⟨z1, hz1⟩ : ∃ g, wc.heap.size = g := ⟨_, rfl⟩
    have hsz := HWS.out
    rw [hz1] at hsz
    have hq8 := HZ8.out.lt (by simp)
    rw [hz1] at hq8
    have hq9 := HZ9.out.lt (by simp)
    rw [hz1] at hq9
    refine (strip_any (mgz (HC.out.mg HMI.out.1) HZE.out HZZ.out) HWS.out HMI.out).mono ?_; rintro e0 wc ⟨qv, rfl, ho, hb⟩
    rw [HXS.out, hz1] at ho
    obtain ⟨s1, sc1, s2, sc2, s3, sc3, s4, sc4, hqv⟩ := own_shape4 ho
    rw [HXV.out.1, HXV.out.2.1, HXV.out.2.2.1, HXV.out.2.2.2.1, HXV.out.2.2.2.2.1, HXV.out.2.2.2.2.2] at hqv
    subst hqv
    have HD18 := Lib.hid (ho.off (.inl hq8))
    clear hq8
    have HD19 := Lib.hid (ho.off (.inl hq9))
    clear hq9
    replace HZZ := Lib.hid (below_aside HZZ.out (Aside.of_all hb : Aside (fun _ => False) _ _) (fun k hk => ⟨Nat.lt_of_lt_of_le hk HWS.out, id⟩))
    replace HWS := Lib.hid (Nat.le_trans HWS.out hb.size)
    replace HZ8 := Lib.hid (HZ8.out.below (by simp) hb)
    replace HZ9 := Lib.hid (HZ9.out.below (by simp) hb)
    clear hb
    have HR1 := Lib.hid (ho.base hsz)
    clear ho hz1 hsz
    focus (try go_wp2_with fail)
    refine hK.out _ _ ⟨(celz HX.out HZE.out HZZ.out).six, (celz HI.out HZE.out HZZ.out).six⟩ (fun hHeld => ?_)
    clear hK K
    try simp only [Act.put, List.setIfInBounds_toArray, List.set_cons_zero, List.set_cons_succ]
    refine wpAnyH_ready (rs := [3]) (by kernel_rfl) (by simp) ?_
    refine AllReadyH.cons (o := { dst := some 32, op := Op.call { callee := Callee.value (Operand.func 12), args := #[Operand.tmp 31], argTypes := #[25] }, type := 25, pos := "law.go:19", after := #[{ on := 2, ground := Ground.data }, { on := 1, ground := Ground.chain }], guard := none }) rfl (fun K hK => ?_) (AllReadyH.nil)
    go_simp
    obtain ⟨z1, hz1⟩ : ∃ g, wc.heap.size = g := ⟨_, rfl⟩
    have hsz := HWS.out
    rw [hz1] at hsz
    have hq8 := HZ8.out.lt (by simp)
    rw [hz1] at hq8
    have hq9 := HZ9.out.lt (by simp)
    rw [hz1] at hq9
    refine (rstrip_any (mgz HM.out HZE.out HZZ.out) HWS.out HMI.out).mono ?_; rintro e0 wc ⟨qv, rfl, ho, hb⟩
    rw [HXS.out, hz1] at ho
    obtain ⟨t1, tc1, t2, tc2, t3, tc3, t4, tc4, hqv⟩ := own_shape4 ho
    rw [HXV.out.1, HXV.out.2.1, HXV.out.2.2.1, HXV.out.2.2.2.1, HXV.out.2.2.2.2.1, HXV.out.2.2.2.2.2] at hqv
    subst hqv
    have HD28 := Lib.hid (ho.off (.inl hq8))
    clear hq8
    have HD29 := Lib.hid (ho.off (.inl hq9))
    clear hq9
    replace HZZ := Lib.hid (below_aside HZZ.out (Aside.of_all hb : Aside (fun _ => False) _ _) (fun k hk => ⟨Nat.lt_of_lt_of_le hk HWS.out, id⟩))
    replace HWS := Lib.hid (Nat.le_trans HWS.out hb.size)
    replace HR1 := Lib.hid (HR1.out.below hb)
    replace HZ8 := Lib.hid (HZ8.out.below (by simp) hb)
    replace HZ9 := Lib.hid (HZ9.out.below (by simp) hb)
    clear hb
    have HR2 := Lib.hid (ho.base hsz)
    clear ho hz1 hsz
    focus (try go_wp2_with fail)
    refine hK.out _ _ ⟨(celz HX.out HZE.out HZZ.out).six, (celz HI.out HZE.out HZZ.out).six⟩ (fun hHeld => ?_)
    clear hK K
    try simp only [Act.put, List.setIfInBounds_toArray, List.set_cons_zero, List.set_cons_succ]
    rotate_left 1
    go_simp
    have hone := cel_new6 wc (.int .i64 0) (.int .i64 0) (.slice none 0 0) (.slice none 0 0) (.slice none 0 0) (.slice none 0 0) 25
    have hb : Below wc.heap.size wc (wc.alloc (.cells #[.int .i64 0, .int .i64 0, .slice none 0 0, .slice none 0 0, .slice none 0 0, .slice none 0 0] 25)) := (Below.refl _ _).alloc (Nat.le_refl _) _
    obtain ⟨b9, hb9⟩ : ∃ g, wc.heap.size = g := ⟨_, rfl⟩
    have hzz := HWS.out
    rw [hb9] at hzz
    obtain ⟨wn, hwn⟩ : ∃ X, wc.alloc (.cells #[.int .i64 0, .int .i64 0, .slice none 0 0, .slice none 0 0, .slice none 0 0, .slice none 0 0] 25) = X := ⟨_, rfl⟩
    rw [hwn, hb9] at hone
    rw [hwn] at hb
    rw [hwn, hb9]
    clear hwn hb9
    replace HZZ := Lib.hid (below_aside HZZ.out (Aside.of_all hb : Aside (fun _ => False) _ _) (fun k hk => ⟨Nat.lt_of_lt_of_le hk HWS.out, id⟩))
    replace HWS := Lib.hid (Nat.le_trans HWS.out hb.size)
    clear hb
    have HZ9 := Lib.hid hone
    have HB9 := Lib.hid hzz
    clear hone hzz
    obtain ⟨wc, hwc⟩ : ∃ X, wn = X := ⟨_, rfl⟩
    rw [hwc] at HZZ HWS HZ9 ⊢
    clear hwc
    refine hK.out _ _ ⟨(celz HX.out HZE.out HZZ.out).six, (celz HI.out HZE.out HZZ.out).six⟩ (fun hHeld => ?_)
    clear hK K
    try simp only [Act.put, List.setIfInBounds_toArray, List.set_cons_zero, List.set_cons_succ]
    refine wpAnyH_ready (rs := [1, 4]) (by kernel_rfl) (by simp) ?_
    refine AllReadyH.cons (o := { dst := some 30, op := Op.call { callee := Callee.value (Operand.func 11), args := #[Operand.tmp 29], argTypes := #[25] }, type := 25, pos := "law.go:19", after := #[{ on := 0, ground := Ground.data }], guard := none }) rfl (fun K hK => ?_) (AllReadyH.cons (o := { dst := some 10, op := Op.alloc 25, type := 0, pos := "law.go:19", after := #[], guard := none }) rfl (fun K hK => ?_) (AllReadyH.nil))
    go_simp
    obtain ⟨z1, hz1⟩ : ∃ g, wc.heap.size = g := ⟨_, rfl⟩
    have hsz := HWS.out
    rw [hz1] at hsz
    have hq9 := HZ9.out.lt (by simp)
    rw [hz1] at hq9
    refine (strip_any (mgz (HC.out.mg HMI.out.1) HZE.out HZZ.out) HWS.out HMI.out).mono ?_; rintro e0 wc ⟨qv, rfl, ho, hb⟩
    rw [HXS.out, hz1] at ho
    obtain ⟨s1, sc1, s2, sc2, s3, sc3, s4, sc4, hqv⟩ := own_shape4 ho
    rw [HXV.out.1, HXV.out.2.1, HXV.out.2.2.1, HXV.out.2.2.2.1, HXV.out.2.2.2.2.1, HXV.out.2.2.2.2.2] at hqv
    subst hqv
    have HD19 := Lib.hid (ho.off (.inl hq9))
    clear hq9
    replace HZZ := Lib.hid (below_aside HZZ.out (Aside.of_all hb : Aside (fun _ => False) _ _) (fun k hk => ⟨Nat.lt_of_lt_of_le hk HWS.out, id⟩))
    replace HWS := Lib.hid (Nat.le_trans HWS.out hb.size)
    replace HZ9 := Lib.hid (HZ9.out.below (by simp) hb)
    clear hb
    have HR1 := Lib.hid (ho.base hsz)
    clear ho hz1 hsz
    focus (try go_wp2_with fail)
    refine hK.out _ _ ⟨(celz HX.out HZE.out HZZ.out).six, (celz HI.out HZE.out HZZ.out).six⟩ (fun hHeld => ?_)
    clear hK K
    try simp only [Act.put, List.setIfInBounds_toArray, List.set_cons_zero, List.set_cons_succ]
    refine wpAnyH_ready (rs := [3, 4]) (by kernel_rfl) (by simp) ?_
    refine AllReadyH.cons (o := { dst := some 32, op := Op.call { callee := Callee.value (Operand.func 12), args := #[Operand.tmp 31], argTypes := #[25] }, type := 25, pos := "law.go:19", after := #[{ on := 2, ground := Ground.data }, { on := 1, ground := Ground.chain }], guard := none }) rfl (fun K hK => ?_) (AllReadyH.cons (o := { dst := some 10, op := Op.alloc 25, type := 0, pos := "law.go:19", after := #[], guard := none }) rfl (fun K hK => ?_) (AllReadyH.nil))
    go_simp
    obtain ⟨z1, hz1⟩ : ∃ g, wc.heap.size = g := ⟨_, rfl⟩
    have hsz := HWS.out
    rw [hz1] at hsz
    have hq9 := HZ9.out.lt (by simp)
    rw [hz1] at hq9
    refine (rstrip_any (mgz HM.out HZE.out HZZ.out) HWS.out HMI.out).mono ?_; rintro e0 wc ⟨qv, rfl, ho, hb⟩
    rw [HXS.out, hz1] at ho
    obtain ⟨t1, tc1, t2, tc2, t3, tc3, t4, tc4, hqv⟩ := own_shape4 ho
    rw [HXV.out.1, HXV.out.2.1, HXV.out.2.2.1, HXV.out.2.2.2.1, HXV.out.2.2.2.2.1, HXV.out.2.2.2.2.2] at hqv
    subst hqv
    have HD29 := Lib.hid (ho.off (.inl hq9))
    clear hq9
    replace HZZ := Lib.hid (below_aside HZZ.out (Aside.of_all hb : Aside (fun _ => False) _ _) (fun k hk => ⟨Nat.lt_of_lt_of_le hk HWS.out, id⟩))
    replace HWS := Lib.hid (Nat.le_trans HWS.out hb.size)
    replace HR1 := Lib.hid (HR1.out.below hb)
    replace HZ9 := Lib.hid (HZ9.out.below (by simp) hb)
    clear hb
    have HR2 := Lib.hid (ho.base hsz)
    clear ho hz1 hsz
    focus (try go_wp2_with fail)
    refine hK.out _ _ ⟨(celz HX.out HZE.out HZZ.out).six, (celz HI.out HZE.out HZZ.out).six⟩ (fun hHeld => ?_)
    clear hK K
    try simp only [Act.put, List.setIfInBounds_toArray, List.set_cons_zero, List.set_cons_succ]
    refine wpAnyH_ready (rs := [4]) (by kernel_rfl) (by simp) ?_
    refine AllReadyH.cons (o := { dst := some 10, op := Op.alloc 25, type := 0, pos := "law.go:19", after := #[], guard := none }) rfl (fun K hK => ?_) (AllReadyH.nil)
    go_simp
    have hone := cel_new6 wc (.int .i64 0) (.int .i64 0) (.slice none 0 0) (.slice none 0 0) (.slice none 0 0) (.slice none 0 0) 25
    have hb : Below wc.heap.size wc (wc.alloc (.cells #[.int .i64 0, .int .i64 0, .slice none 0 0, .slice none 0 0, .slice none 0 0, .slice none 0 0] 25)) := (Below.refl _ _).alloc (Nat.le_refl _) _
    obtain ⟨b8, hb8⟩ : ∃ g, wc.heap.size = g := ⟨_, rfl⟩
    have hzz := HWS.out
    rw [hb8] at hzz
    have HD18 := Lib.hid (HR1.out.off (.inr (Nat.le_of_eq hb8)))
    have HD28 := Lib.hid (HR2.out.off (.inr (Nat.le_of_eq hb8)))
    have HDD := Lib.hid (show b9 < b8 by have := HZ9.out.lt (by simp); omega)
    obtain ⟨wn, hwn⟩ : ∃ X, wc.alloc (.cells #[.int .i64 0, .int .i64 0, .slice none 0 0, .slice none 0 0, .slice none 0 0, .slice none 0 0] 25) = X := ⟨_, rfl⟩
    rw [hwn, hb8] at hone
    rw [hwn] at hb
    rw [hwn, hb8]
    clear hwn hb8
    replace HZZ := Lib.hid (below_aside HZZ.out (Aside.of_all hb : Aside (fun _ => False) _ _) (fun k hk => ⟨Nat.lt_of_lt_of_le hk HWS.out, id⟩))
    replace HWS := Lib.hid (Nat.le_trans HWS.out hb.size)
    replace HR1 := Lib.hid (HR1.out.below hb)
    replace HR2 := Lib.hid (HR2.out.below hb)
    replace HZ9 := Lib.hid (HZ9.out.below (by simp) hb)
    clear hb
    have HZ8 := Lib.hid hone
    have HB8 := Lib.hid hzz
    clear hone hzz
    obtain ⟨wc, hwc⟩ : ∃ X, wn = X := ⟨_, rfl⟩
    rw [hwc] at HZZ HWS HZ8 HR1 HR2 HZ9 ⊢
    clear hwc
    refine hK.out _ _ ⟨(celz HX.out HZE.out HZZ.out).six, (celz HI.out HZE.out HZZ.out).six⟩ (fun hHeld => ?_)
    clear hK K
    try simp only [Act.put, List.setIfInBounds_toArray, List.set_cons_zero, List.set_cons_succ]
    rotate_left 1
    go_simp
    have hone := cel_new6 wc (.int .i64 0) (.int .i64 0) (.slice none 0 0) (.slice none 0 0) (.slice none 0 0) (.slice none 0 0) 25
    have hb : Below wc.heap.size wc (wc.alloc (.cells #[.int .i64 0, .int .i64 0, .slice none 0 0, .slice none 0 0, .slice none 0 0, .slice none 0 0] 25)) := (Below.refl _ _).alloc (Nat.le_refl _) _
    obtain ⟨b8, hb8⟩ : ∃ g, wc.heap.size = g := ⟨_, rfl⟩
    have hzz := HWS.out
    rw [hb8] at hzz
    have HD18 := Lib.hid (HR1.out.off (.inr (Nat.le_of_eq hb8)))
    have HDD := Lib.hid (show b9 < b8 by have := HZ9.out.lt (by simp); omega)
    obtain ⟨wn, hwn⟩ : ∃ X, wc.alloc (.cells #[.int .i64 0, .int .i64 0, .slice none 0 0, .slice none 0 0, .slice none 0 0, .slice none 0 0] 25) = X := ⟨_, rfl⟩
    rw [hwn, hb8] at hone
    rw [hwn] at hb
    rw [hwn, hb8]
    clear hwn hb8
    replace HZZ := Lib.hid (below_aside HZZ.out (Aside.of_all hb : Aside (fun _ => False) _ _) (fun k hk => ⟨Nat.lt_of_lt_of_le hk HWS.out, id⟩))
    replace HWS := Lib.hid (Nat.le_trans HWS.out hb.size)
    replace HR1 := Lib.hid (HR1.out.below hb)
    replace HZ9 := Lib.hid (HZ9.out.below (by simp) hb)
    clear hb
    have HZ8 := Lib.hid hone
    have HB8 := Lib.hid hzz
    clear hone hzz
    obtain ⟨wc, hwc⟩ : ∃ X, wn = X := ⟨_, rfl⟩
    rw [hwc] at HZZ HWS HZ8 HR1 HZ9 ⊢
    clear hwc
    refine hK.out _ _ ⟨(celz HX.out HZE.out HZZ.out).six, (celz HI.out HZE.out HZZ.out).six⟩ (fun hHeld => ?_)
    clear hK K
    try simp only [Act.put, List.setIfInBounds_toArray, List.set_cons_zero, List.set_cons_succ]
    refine wpAnyH_ready (rs := [3]) (by kernel_rfl) (by simp) ?_
    refine AllReadyH.cons (o := { dst := some 32, op := Op.call { callee := Callee.value (Operand.func 12), args := #[Operand.tmp 31], argTypes := #[25] }, type := 25, pos := "law.go:19", after := #[{ on := 2, ground := Ground.data }, { on := 1, ground := Ground.chain }], guard := none }) rfl (fun K hK => ?_) (AllReadyH.nil)
    go_simp
    obtain ⟨z1, hz1⟩ : ∃ g, wc.heap.size = g := ⟨_, rfl⟩
    have hsz := HWS.out
    rw [hz1] at hsz
    have hq8 := HZ8.out.lt (by simp)
    rw [hz1] at hq8
    have hq9 := HZ9.out.lt (by simp)
    rw [hz1] at hq9
    refine (rstrip_any (mgz HM.out HZE.out HZZ.out) HWS.out HMI.out).mono ?_; rintro e0 wc ⟨qv, rfl, ho, hb⟩
    rw [HXS.out, hz1] at ho
    obtain ⟨t1, tc1, t2, tc2, t3, tc3, t4, tc4, hqv⟩ := own_shape4 ho
    rw [HXV.out.1, HXV.out.2.1, HXV.out.2.2.1, HXV.out.2.2.2.1, HXV.out.2.2.2.2.1, HXV.out.2.2.2.2.2] at hqv
    subst hqv
    have HD28 := Lib.hid (ho.off (.inl hq8))
    clear hq8
    have HD29 := Lib.hid (ho.off (.inl hq9))
    clear hq9
    replace HZZ := Lib.hid (below_aside HZZ.out (Aside.of_all hb : Aside (fun _ => False) _ _) (fun k hk => ⟨Nat.lt_of_lt_of_le hk HWS.out, id⟩))
    replace HWS := Lib.hid (Nat.le_trans HWS.out hb.size)
    replace HR1 := Lib.hid (HR1.out.below hb)
    replace HZ8 := Lib.hid (HZ8.out.below (by simp) hb)
    replace HZ9 := Lib.hid (HZ9.out.below (by simp) hb)
    clear hb
    have HR2 := Lib.hid (ho.base hsz)
    clear ho hz1 hsz
    focus (try go_wp2_with fail)
    refine hK.out _ _ ⟨(celz HX.out HZE.out HZZ.out).six, (celz HI.out HZE.out HZZ.out).six⟩ (fun hHeld => ?_)
    clear hK K
    try simp only [Act.put, List.setIfInBounds_toArray, List.set_cons_zero, List.set_cons_succ]
    rotate_left 1
    go_simp
    have hone := cel_new6 wc (.int .i64 0) (.int .i64 0) (.slice none 0 0) (.slice none 0 0) (.slice none 0 0) (.slice none 0 0) 25
    have hb : Below wc.heap.size wc (wc.alloc (.cells #[.int .i64 0, .int .i64 0, .slice none 0 0, .slice none 0 0, .slice none 0 0, .slice none 0 0] 25)) := (Below.refl _ _).alloc (Nat.le_refl _) _
    obtain ⟨b8, hb8⟩ : ∃ g, wc.heap.size = g := ⟨_, rfl⟩
    have hzz := HWS.out
    rw [hb8] at hzz
    have HDD := Lib.hid (show b9 < b8 by have := HZ9.out.lt (by simp); omega)
    obtain ⟨wn, hwn⟩ : ∃ X, wc.alloc (.cells #[.int .i64 0, .int .i64 0, .slice none 0 0, .slice none 0 0, .slice none 0 0, .slice none 0 0] 25) = X := ⟨_, rfl⟩
    rw [hwn, hb8] at hone
    rw [hwn] at hb
    rw [hwn, hb8]
    clear hwn hb8
    replace HZZ := Lib.hid (below_aside HZZ.out (Aside.of_all hb : Aside (fun _ => False) _ _) (fun k hk => ⟨Nat.lt_of_lt_of_le hk HWS.out, id⟩))
    replace HWS := Lib.hid (Nat.le_trans HWS.out hb.size)
    replace HZ9 := Lib.hid (HZ9.out.below (by simp) hb)
    clear hb
    have HZ8 := Lib.hid hone
    have HB8 := Lib.hid hzz
    clear hone hzz
    obtain ⟨wc, hwc⟩ : ∃ X, wn = X := ⟨_, rfl⟩
    rw [hwc] at HZZ HWS HZ8 HZ9 ⊢
    clear hwc
    refine hK.out _ _ ⟨(celz HX.out HZE.out HZZ.out).six, (celz HI.out HZE.out HZZ.out).six⟩ (fun hHeld => ?_)
    clear hK K
    try simp only [Act.put, List.setIfInBounds_toArray, List.set_cons_zero, List.set_cons_succ]
    refine wpAnyH_ready (rs := [1]) (by kernel_rfl) (by simp) ?_
    refine AllReadyH.cons (o := { dst := some 30, op := Op.call { callee := Callee.value (Operand.func 11), args := #[Operand.tmp 29], argTypes := #[25] }, type := 25, pos := "law.go:19", after := #[{ on := 0, ground := Ground.data }], guard := none }) rfl (fun K hK => ?_) (AllReadyH.nil)
    go_simp
    obtain ⟨z1, hz1⟩ : ∃ g, wc.heap.size = g := ⟨_, rfl⟩
    have hsz := HWS.out
    rw [hz1] at hsz
    have hq8 := HZ8.out.lt (by simp)
    rw [hz1] at hq8
    have hq9 := HZ9.out.lt (by simp)
    rw [hz1] at hq9
    refine (strip_any (mgz (HC.out.mg HMI.out.1) HZE.out HZZ.out) HWS.out HMI.out).mono ?_; rintro e0 wc ⟨qv, rfl, ho, hb⟩
    rw [HXS.out, hz1] at ho
    obtain ⟨s1, sc1, s2, sc2, s3, sc3, s4, sc4, hqv⟩ := own_shape4 ho
    rw [HXV.out.1, HXV.out.2.1, HXV.out.2.2.1, HXV.out.2.2.2.1, HXV.out.2.2.2.2.1, HXV.out.2.2.2.2.2] at hqv
    subst hqv
    have HD18 := Lib.hid (ho.off (.inl hq8))
    clear hq8
    have HD19 := Lib.hid (ho.off (.inl hq9))
    clear hq9
    replace HZZ := Lib.hid (below_aside HZZ.out (Aside.of_all hb : Aside (fun _ => False) _ _) (fun k hk => ⟨Nat.lt_of_lt_of_le hk HWS.out, id⟩))
    replace HWS := Lib.hid (Nat.le_trans HWS.out hb.size)
    replace HZ8 := Lib.hid (HZ8.out.below (by simp) hb)
    replace HZ9 := Lib.hid (HZ9.out.below (by simp) hb)
    clear hb
    have HR1 := Lib.hid (ho.base hsz)
    clear ho hz1 hsz
    focus (try go_wp2_with fail)
    refine hK.out _ _ ⟨(celz HX.out HZE.out HZZ.out).six, (celz HI.out HZE.out HZZ.out).six⟩ (fun hHeld => ?_)
    clear hK K
    try simp only [Act.put, List.setIfInBounds_toArray, List.set_cons_zero, List.set_cons_succ]
    refine wpAnyH_ready (rs := [3]) (by kernel_rfl) (by simp) ?_
    refine AllReadyH.cons (o := { dst := some 32, op := Op.call { callee := Callee.value (Operand.func 12), args := #[Operand.tmp 31], argTypes := #[25] }, type := 25, pos := "law.go:19", after := #[{ on := 2, ground := Ground.data }, { on := 1, ground := Ground.chain }], guard := none }) rfl (fun K hK => ?_) (AllReadyH.nil)
    go_simp
    obtain ⟨z1, hz1⟩ : ∃ g, wc.heap.size = g := ⟨_, rfl⟩
    have hsz := HWS.out
    rw [hz1] at hsz
    have hq8 := HZ8.out.lt (by simp)
    rw [hz1] at hq8
    have hq9 := HZ9.out.lt (by simp)
    rw [hz1] at hq9
    refine (rstrip_any (mgz HM.out HZE.out HZZ.out) HWS.out HMI.out).mono ?_; rintro e0 wc ⟨qv, rfl, ho, hb⟩
    rw [HXS.out, hz1] at ho
    obtain ⟨t1, tc1, t2, tc2, t3, tc3, t4, tc4, hqv⟩ := own_shape4 ho
    rw [HXV.out.1, HXV.out.2.1, HXV.out.2.2.1, HXV.out.2.2.2.1, HXV.out.2.2.2.2.1, HXV.out.2.2.2.2.2] at hqv
    subst hqv
    have HD28 := Lib.hid (ho.off (.inl hq8))
    clear hq8
    have HD29 := Lib.hid (ho.off (.inl hq9))
    clear hq9
    replace HZZ := Lib.hid (below_aside HZZ.out (Aside.of_all hb : Aside (fun _ => False) _ _) (fun k hk => ⟨Nat.lt_of_lt_of_le hk HWS.out, id⟩))
    replace HWS := Lib.hid (Nat.le_trans HWS.out hb.size)
    replace HR1 := Lib.hid (HR1.out.below hb)
    replace HZ8 := Lib.hid (HZ8.out.below (by simp) hb)
    replace HZ9 := Lib.hid (HZ9.out.below (by simp) hb)
    clear hb
    have HR2 := Lib.hid (ho.base hsz)
    clear ho hz1 hsz
    focus (try go_wp2_with fail)
    refine hK.out _ _ ⟨(celz HX.out HZE.out HZZ.out).six, (celz HI.out HZE.out HZZ.out).six⟩ (fun hHeld => ?_)
    clear hK K
    try simp only [Act.put, List.setIfInBounds_toArray, List.set_cons_zero, List.set_cons_succ]
    rotate_left 1
    iterate 12
      · refine wpAnyH_ready (rs := [6]) (by kernel_rfl) (by simp) ?_
        refine AllReadyH.cons (o := { dst := none, op := Op.store 25 (Operand.tmp 10) (Operand.tmp 30), type := 0, pos := "law.go:19", after := #[{ on := 4, ground := Ground.data }, { on := 1, ground := Ground.data }, { on := 3, ground := Ground.chain }, { on := 0, ground := Ground.phase }, { on := 1, ground := Ground.phase }, { on := 2, ground := Ground.textOnly Departure.lateStores }, { on := 3, ground := Ground.textOnly Departure.lateStoresUnsure }, { on := 4, ground := Ground.phase }, { on := 5, ground := Ground.phase }], guard := none }) rfl (fun K hK => ?_) (AllReadyH.nil)
        obtain ⟨z0, z1, z2, z3, z4, z5⟩ := HZ8.out.six
        have fz := HZ8.out.fz
        go_simp
        clear z0 z1 z2 z3 z4 z5 fz
        have k6 := cel_put6 HZ8.out (.int .i64 xi) (.int .i64 xf) (.slice s1 k1 sc1) (.slice s2 k2 sc2) (.slice s3 k3 sc3) (.slice s4 k4 sc4)
        have hst := aside_put6 wc b8 (.int .i64 xi) (.int .i64 xf) (.slice s1 k1 sc1) (.slice s2 k2 sc2) (.slice s3 k3 sc3) (.slice s4 k4 sc4)
        unfold put6 at k6 hst
        obtain ⟨wn, hwn⟩ : ∃ X, (((((wc.setCell ⟨b8, 0, none⟩ (.int .i64 xi)).setCell ⟨b8, 1, none⟩ (.int .i64 xf)).setCell ⟨b8, 2, none⟩ (.slice s1 k1 sc1)).setCell ⟨b8, 3, none⟩ (.slice s2 k2 sc2)).setCell ⟨b8, 4, none⟩ (.slice s3 k3 sc3)).setCell ⟨b8, 5, none⟩ (.slice s4 k4 sc4) = X := ⟨_, rfl⟩
        rw [hwn] at k6 hst ⊢
        clear hwn
        replace HZZ := Lib.hid (below_aside HZZ.out hst (fun k hk => ⟨Nat.lt_of_lt_of_le hk HWS.out, by have := HB8.out; omega⟩))
        replace HWS := Lib.hid (Nat.le_trans HWS.out hst.size)
        replace HR1 := Lib.hid (HR1.out.asideB HD18.out hst)
        replace HR2 := Lib.hid (HR2.out.asideB HD28.out hst)
        replace HZ8 := Lib.hid k6
        replace HZ9 := Lib.hid (HZ9.out.aside (by simp) hst (by have := HDD.out; omega))
        clear k6 hst
        obtain ⟨wc, hwc⟩ : ∃ X, wn = X := ⟨_, rfl⟩
        rw [hwc] at HZZ HWS HR1 HR2 HZ8 HZ9 ⊢
        clear hwc
        refine hK.out _ _ ⟨(celz HX.out HZE.out HZZ.out).six, (celz HI.out HZE.out HZZ.out).six⟩ (fun hHeld => ?_)
        clear hK K
        try simp only [Act.put, List.setIfInBounds_toArray, List.set_cons_zero, List.set_cons_succ]
        refine wpAnyH_ready (rs := [7]) (by kernel_rfl) (by simp) ?_
        refine AllReadyH.cons (o := { dst := none, op := Op.store 25 (Operand.tmp 11) (Operand.tmp 32), type := 0, pos := "law.go:19", after := #[{ on := 5, ground := Ground.data }, { on := 3, ground := Ground.data }, { on := 6, ground := Ground.chain }, { on := 0, ground := Ground.phase }, { on := 1, ground := Ground.phase }, { on := 2, ground := Ground.phase }, { on := 3, ground := Ground.phase }, { on := 4, ground := Ground.phase }, { on := 5, ground := Ground.phase }, { on := 6, ground := Ground.phase }], guard := none }) rfl (fun K hK => ?_) (AllReadyH.nil)
        obtain ⟨z0, z1, z2, z3, z4, z5⟩ := HZ9.out.six
        have fz := HZ9.out.fz
        go_simp
        clear z0 z1 z2 z3 z4 z5 fz
        have k6 := cel_put6 HZ9.out (.int .i64 xi) (.int .i64 xf) (.slice t1 k1 tc1) (.slice t2 k2 tc2) (.slice t3 k3 tc3) (.slice t4 k4 tc4)
        have hst := aside_put6 wc b9 (.int .i64 xi) (.int .i64 xf) (.slice t1 k1 tc1) (.slice t2 k2 tc2) (.slice t3 k3 tc3) (.slice t4 k4 tc4)
        unfold put6 at k6 hst
        obtain ⟨wn, hwn⟩ : ∃ X, (((((wc.setCell ⟨b9, 0, none⟩ (.int .i64 xi)).setCell ⟨b9, 1, none⟩ (.int .i64 xf)).setCell ⟨b9, 2, none⟩ (.slice t1 k1 tc1)).setCell ⟨b9, 3, none⟩ (.slice t2 k2 tc2)).setCell ⟨b9, 4, none⟩ (.slice t3 k3 tc3)).setCell ⟨b9, 5, none⟩ (.slice t4 k4 tc4) = X := ⟨_, rfl⟩
        rw [hwn] at k6 hst ⊢
        clear hwn
        replace HZZ := Lib.hid (below_aside HZZ.out hst (fun k hk => ⟨Nat.lt_of_lt_of_le hk HWS.out, by have := HB9.out; omega⟩))
        replace HWS := Lib.hid (Nat.le_trans HWS.out hst.size)
        replace HR1 := Lib.hid (HR1.out.asideB HD19.out hst)
        replace HR2 := Lib.hid (HR2.out.asideB HD29.out hst)
        replace HZ9 := Lib.hid k6
        replace HZ8 := Lib.hid (HZ8.out.aside (by simp) hst (by have := HDD.out; omega))
        clear k6 hst
        obtain ⟨wc, hwc⟩ : ∃ X, wn = X := ⟨_, rfl⟩
        rw [hwc] at HZZ HWS HR1 HR2 HZ8 HZ9 ⊢
        clear hwc
        refine hK.out _ _ ⟨(celz HX.out HZE.out HZZ.out).six, (celz HI.out HZE.out HZZ.out).six⟩ (fun hHeld => ?_)
        clear hK K
        try simp only [Act.put, List.setIfInBounds_toArray, List.set_cons_zero, List.set_cons_succ]
        refine wpAnyH_done (by kernel_rfl) ?_ _
        clear hHeld
        clear hwX hwc
        go_wp2_with fail
        have hb : Below wc.heap.size wc wc.drew := (Below.refl _ _).drew
        replace HZZ := Lib.hid (below_aside HZZ.out (Aside.of_all hb : Aside (fun _ => False) _ _) (fun k hk => ⟨Nat.lt_of_lt_of_le hk HWS.out, id⟩))
        replace HWS := Lib.hid (Nat.le_trans HWS.out hb.size)
        replace HR1 := Lib.hid (HR1.out.below hb)
        replace HZ8 := Lib.hid (HZ8.out.below (by simp) hb)
        replace HZ9 := Lib.hid (HZ9.out.below (by simp) hb)
        replace HR2 := Lib.hid (HR2.out.below hb)
        clear hb
        obtain ⟨wd, hwd⟩ : ∃ X, wc.drew = X := ⟨_, rfl⟩
        rw [hwd] at HZZ HWS HR1 HR2 HZ8 HZ9
        refine wp_region_held_drew (S := (fun wx => (wx.cell? ⟨g4, 0, none⟩ = some (.int .i64 ed.s) ∧ wx.cell? ⟨g4, 1, none⟩ = some (.int .i64 ed.x) ∧ wx.cell? ⟨g4, 2, none⟩ = some (.int .i64 ed.v) ∧ wx.cell? ⟨g4, 3, none⟩ = some (.bool ed.b) ∧ wx.cell? ⟨g4, 4, none⟩ = some (.slice oa ed.o.length oc)) ∧ (wx.cell? ⟨g7, 0, none⟩ = some (.int .i64 ed.s) ∧ wx.cell? ⟨g7, 1, none⟩ = some (.int .i64 ed.x) ∧ wx.cell? ⟨g7, 2, none⟩ = some (.int .i64 ed.v) ∧ wx.cell? ⟨g7, 3, none⟩ = some (.bool ed.b) ∧ wx.cell? ⟨g7, 4, none⟩ = some (.slice ob ed.o.length od)) ∧ (wx.cell? ⟨b8, 0, none⟩ = some (.int .i64 xi) ∧ wx.cell? ⟨b8, 1, none⟩ = some (.int .i64 xf) ∧ wx.cell? ⟨b8, 2, none⟩ = some (.slice s1 k1 sc1) ∧ wx.cell? ⟨b8, 3, none⟩ = some (.slice s2 k2 sc2) ∧ wx.cell? ⟨b8, 4, none⟩ = some (.slice s3 k3 sc3) ∧ wx.cell? ⟨b8, 5, none⟩ = some (.slice s4 k4 sc4)) ∧ (wx.cell? ⟨b9, 0, none⟩ = some (.int .i64 xi) ∧ wx.cell? ⟨b9, 1, none⟩ = some (.int .i64 xf) ∧ wx.cell? ⟨b9, 2, none⟩ = some (.slice t1 k1 tc1) ∧ wx.cell? ⟨b9, 3, none⟩ = some (.slice t2 k2 tc2) ∧ wx.cell? ⟨b9, 4, none⟩ = some (.slice t3 k3 tc3) ∧ wx.cell? ⟨b9, 5, none⟩ = some (.slice t4 k4 tc4)) ∧ (wx.cell? ⟨gi, 0, none⟩ = some (.int .i64 i0) ∧ wx.cell? ⟨gi, 1, none⟩ = some (.int .i64 f0) ∧ wx.cell? ⟨gi, 2, none⟩ = some (.slice qa1 lq qc1) ∧ wx.cell? ⟨gi, 3, none⟩ = some (.slice aa1 la ac1) ∧ wx.cell? ⟨gi, 4, none⟩ = some (.slice na1 ln nc1) ∧ wx.cell? ⟨gi, 5, none⟩ = some (.slice ra1 lr rc1)) ∧ (wx.cell? ⟨N, 0, none⟩ = some (.int .i64 i0) ∧ wx.cell? ⟨N, 1, none⟩ = some (.int .i64 f0) ∧ wx.cell? ⟨N, 2, none⟩ = some (.slice qa lq qc) ∧ wx.cell? ⟨N, 3, none⟩ = some (.slice aa la ac) ∧ wx.cell? ⟨N, 4, none⟩ = some (.slice na ln nc) ∧ wx.cell? ⟨N, 5, none⟩ = some (.slice ra lr rc)))) (by kernel_rfl) (by rw [hwd]; exact ⟨(celz HYA.out HZE.out HZZ.out).five, (celz HYB.out HZE.out HZZ.out).five, HZ8.out.six, HZ9.out.six, (celz HI.out HZE.out HZZ.out).six, (celz HX.out HZE.out HZZ.out).six⟩) (fun hHeld => ?_)
        refine wpAnyH_take (i := 0) (oi := { dst := some 33, op := Op.load 30 (Operand.tmp 4), type := 30, pos := "law.go:20", after := #[], guard := none }) (v := ?_) rfl (by kernel_rfl) (by kernel_rfl) (by kernel_rfl) (fun _ _ _ h => h) (Or.inl ⟨by rfl, ?_⟩) (by assumption) ?_
        rotate_left 1
        · intro w hSw; have hSw1 := hSw.1; clear hSw; have hSw := hSw1; clear hSw1; (try dsimp only at hSw); go_simp; try (with_reducible rfl)
        try simp only [Act.put, List.setIfInBounds_toArray, List.set_cons_zero, List.set_cons_succ]
        refine wpAnyH_take (i := 1) (oi := { dst := some 34, op := Op.load 30 (Operand.tmp 7), type := 30, pos := "law.go:20", after := #[], guard := none }) (v := ?_) rfl (by kernel_rfl) (by kernel_rfl) (by kernel_rfl) (fun _ _ _ h => h) (Or.inl ⟨by rfl, ?_⟩) (by assumption) ?_
        rotate_left 1
        · intro w hSw; have hSw1 := hSw.2.1; clear hSw; have hSw := hSw1; clear hSw1; (try dsimp only at hSw); go_simp; try (with_reducible rfl)
        try simp only [Act.put, List.setIfInBounds_toArray, List.set_cons_zero, List.set_cons_succ]
        refine wpAnyH_ready (rs := [2]) (by kernel_rfl) (by simp) ?_
        refine AllReadyH.cons (o := { dst := some 35, op := Op.call { callee := Callee.value (Operand.func 13), args := #[Operand.tmp 33, Operand.tmp 34], argTypes := #[30, 30] }, type := 4, pos := "law.go:20", after := #[{ on := 0, ground := Ground.data }, { on := 1, ground := Ground.data }], guard := none }) rfl (fun K hK => ?_) (AllReadyH.nil)
        go_simp
        refine (sameE_yes (egz HEA.out HZE.out HZZ.out) (egz HEB.out HZE.out HZZ.out) HWS.out HWS.out).mono ?_; rintro e x1 ⟨rfl, hb⟩
        replace HZZ := Lib.hid (below_aside HZZ.out (Aside.of_all hb : Aside (fun _ => False) _ _) (fun k hk => ⟨Nat.lt_of_lt_of_le hk HWS.out, id⟩))
        replace HWS := Lib.hid (Nat.le_trans HWS.out hb.size)
        replace HR1 := Lib.hid (HR1.out.below hb)
        replace HZ8 := Lib.hid (HZ8.out.below (by simp) hb)
        replace HZ9 := Lib.hid (HZ9.out.below (by simp) hb)
        replace HR2 := Lib.hid (HR2.out.below hb)
        clear hb
        try go_wp2_with fail
        refine hK.out _ _ ⟨(celz HYA.out HZE.out HZZ.out).five, (celz HYB.out HZE.out HZZ.out).five, HZ8.out.six, HZ9.out.six, (celz HI.out HZE.out HZZ.out).six, (celz HX.out HZE.out HZZ.out).six⟩ (fun hHeld => ?_)
        clear hK K
        try simp only [Act.put, List.setIfInBounds_toArray, List.set_cons_zero, List.set_cons_succ]
        refine wpAnyH_take (i := 3) (oi := { dst := some 36, op := Op.move (Operand.tmp 35), type := 4, pos := "law.go:20", after := #[{ on := 2, ground := Ground.data }, { on := 2, ground := Ground.chain }], guard := none }) (v := ?_) rfl (by kernel_rfl) (by kernel_rfl) (by kernel_rfl) (fun _ _ _ h => h) (Or.inl ⟨by rfl, ?_⟩) (by assumption) ?_
        rotate_left 1
        · intro w hSw; clear hSw; go_simp; try (with_reducible rfl)
        try simp only [Act.put, List.setIfInBounds_toArray, List.set_cons_zero, List.set_cons_succ]
        refine wpAnyH_take (i := 4) (oi := { dst := some 37, op := Op.move (Operand.tmp 5), type := 4, pos := "law.go:20", after := #[{ on := 3, ground := Ground.guard }], guard := some (3, true) }) (v := ?_) rfl (by kernel_rfl) (by kernel_rfl) (by kernel_rfl) (fun _ _ _ h => h) (Or.inl ⟨by rfl, ?_⟩) (by assumption) ?_
        rotate_left 1
        · intro w hSw; clear hSw; go_simp; try (with_reducible rfl)
        try simp only [Act.put, List.setIfInBounds_toArray, List.set_cons_zero, List.set_cons_succ]
        refine wpAnyH_take (i := 5) (oi := { dst := some 38, op := Op.move (Operand.tmp 8), type := 4, pos := "law.go:20", after := #[{ on := 3, ground := Ground.guard }], guard := some (3, true) }) (v := ?_) rfl (by kernel_rfl) (by kernel_rfl) (by kernel_rfl) (fun _ _ _ h => h) (Or.inl ⟨by rfl, ?_⟩) (by assumption) ?_
        rotate_left 1
        · intro w hSw; clear hSw; go_simp; try (with_reducible rfl)
        try simp only [Act.put, List.setIfInBounds_toArray, List.set_cons_zero, List.set_cons_succ]
        refine wpAnyH_take (i := 6) (oi := { dst := some 39, op := Op.binOp BinOp.eql 4 (Operand.tmp 37) (Operand.tmp 38) 4, type := 4, pos := "law.go:20", after := #[{ on := 4, ground := Ground.data }, { on := 5, ground := Ground.data }, { on := 3, ground := Ground.guard }], guard := some (3, true) }) (v := ?_) rfl (by kernel_rfl) (by kernel_rfl) (by kernel_rfl) (fun _ _ _ h => h) (Or.inl ⟨by rfl, ?_⟩) (by assumption) ?_
        rotate_left 1
        · intro w hSw; clear hSw; go_simp; try (with_reducible rfl)
        try simp only [Act.put, List.setIfInBounds_toArray, List.set_cons_zero, List.set_cons_succ]
        refine wpAnyH_take (i := 7) (oi := { dst := some 40, op := Op.pick (Operand.tmp 36) (Operand.tmp 39) (Operand.const (Value.bool false)), type := 4, pos := "law.go:20", after := #[{ on := 3, ground := Ground.data }, { on := 6, ground := Ground.data }], guard := none }) (v := ?_) rfl (by kernel_rfl) (by kernel_rfl) (by kernel_rfl) (fun _ _ _ h => h) (Or.inl ⟨by rfl, ?_⟩) (by assumption) ?_
        rotate_left 1
        · intro w hSw; clear hSw; go_simp; try (with_reducible rfl)
        try simp only [Act.put, List.setIfInBounds_toArray, List.set_cons_zero, List.set_cons_succ]
        refine wpAnyH_take (i := 8) (oi := { dst := some 41, op := Op.move (Operand.tmp 40), type := 4, pos := "law.go:20", after := #[{ on := 7, ground := Ground.data }, { on := 3, ground := Ground.chain }], guard := none }) (v := ?_) rfl (by kernel_rfl) (by kernel_rfl) (by kernel_rfl) (fun _ _ _ h => h) (Or.inl ⟨by rfl, ?_⟩) (by assumption) ?_
        rotate_left 1
        · intro w hSw; clear hSw; go_simp; try (with_reducible rfl)
        try simp only [Act.put, List.setIfInBounds_toArray, List.set_cons_zero, List.set_cons_succ]
        refine wpAnyH_take (i := 9) (oi := { dst := some 42, op := Op.move (Operand.tmp 6), type := 31, pos := "law.go:20", after := #[{ on := 8, ground := Ground.guard }], guard := some (8, true) }) (v := ?_) rfl (by kernel_rfl) (by kernel_rfl) (by kernel_rfl) (fun _ _ _ h => h) (Or.inl ⟨by rfl, ?_⟩) (by assumption) ?_
        rotate_left 1
        · intro w hSw; clear hSw; go_simp; try (with_reducible rfl)
        try simp only [Act.put, List.setIfInBounds_toArray, List.set_cons_zero, List.set_cons_succ]
        refine wpAnyH_take (i := 10) (oi := { dst := some 43, op := Op.move (Operand.tmp 9), type := 31, pos := "law.go:20", after := #[{ on := 8, ground := Ground.guard }], guard := some (8, true) }) (v := ?_) rfl (by kernel_rfl) (by kernel_rfl) (by kernel_rfl) (fun _ _ _ h => h) (Or.inl ⟨by rfl, ?_⟩) (by assumption) ?_
        rotate_left 1
        · intro w hSw; clear hSw; go_simp; try (with_reducible rfl)
        try simp only [Act.put, List.setIfInBounds_toArray, List.set_cons_zero, List.set_cons_succ]
        refine wpAnyH_take (i := 11) (oi := { dst := some 44, op := Op.binOp BinOp.eql 31 (Operand.tmp 42) (Operand.tmp 43) 31, type := 4, pos := "law.go:20", after := #[{ on := 9, ground := Ground.data }, { on := 10, ground := Ground.data }, { on := 8, ground := Ground.guard }], guard := some (8, true) }) (v := ?_) rfl (by kernel_rfl) (by kernel_rfl) (by kernel_rfl) (fun _ _ _ h => h) (Or.inl ⟨by rfl, ?_⟩) (by assumption) ?_
        rotate_left 1
        · intro w hSw; clear hSw; go_simp; try (with_reducible rfl)
        try simp only [Act.put, List.setIfInBounds_toArray, List.set_cons_zero, List.set_cons_succ]
        refine wpAnyH_take (i := 12) (oi := { dst := some 45, op := Op.pick (Operand.tmp 41) (Operand.tmp 44) (Operand.const (Value.bool false)), type := 4, pos := "law.go:20", after := #[{ on := 8, ground := Ground.data }, { on := 11, ground := Ground.data }], guard := none }) (v := ?_) rfl (by kernel_rfl) (by kernel_rfl) (by kernel_rfl) (fun _ _ _ h => h) (Or.inl ⟨by rfl, ?_⟩) (by assumption) ?_
        rotate_left 1
        · intro w hSw; clear hSw; go_simp; try (with_reducible rfl)
        try simp only [Act.put, List.setIfInBounds_toArray, List.set_cons_zero, List.set_cons_succ]
        refine wpAnyH_take (i := 13) (oi := { dst := some 46, op := Op.move (Operand.tmp 45), type := 4, pos := "law.go:20", after := #[{ on := 12, ground := Ground.data }, { on := 8, ground := Ground.chain }], guard := none }) (v := ?_) rfl (by kernel_rfl) (by kernel_rfl) (by kernel_rfl) (fun _ _ _ h => h) (Or.inl ⟨by rfl, ?_⟩) (by assumption) ?_
        rotate_left 1
        · intro w hSw; clear hSw; go_simp; try (with_reducible rfl)
        try simp only [Act.put, List.setIfInBounds_toArray, List.set_cons_zero, List.set_cons_succ]
        refine wpAnyH_take (i := 14) (oi := { dst := some 47, op := Op.load 25 (Operand.tmp 10), type := 25, pos := "law.go:20", after := #[{ on := 13, ground := Ground.guard }], guard := some (13, true) }) (v := ?_) rfl (by kernel_rfl) (by kernel_rfl) (by kernel_rfl) (fun _ _ _ h => h) (Or.inl ⟨by rfl, ?_⟩) (by assumption) ?_
        rotate_left 1
        · intro w hSw; have hSw1 := hSw.2.2.1; clear hSw; have hSw := hSw1; clear hSw1; (try dsimp only at hSw); go_simp; try (with_reducible rfl)
        try simp only [Act.put, List.setIfInBounds_toArray, List.set_cons_zero, List.set_cons_succ]
        refine wpAnyH_take (i := 15) (oi := { dst := some 48, op := Op.load 25 (Operand.tmp 11), type := 25, pos := "law.go:20", after := #[{ on := 13, ground := Ground.guard }], guard := some (13, true) }) (v := ?_) rfl (by kernel_rfl) (by kernel_rfl) (by kernel_rfl) (fun _ _ _ h => h) (Or.inl ⟨by rfl, ?_⟩) (by assumption) ?_
        rotate_left 1
        · intro w hSw; have hSw1 := hSw.2.2.2.1; clear hSw; have hSw := hSw1; clear hSw1; (try dsimp only at hSw); go_simp; try (with_reducible rfl)
        try simp only [Act.put, List.setIfInBounds_toArray, List.set_cons_zero, List.set_cons_succ]
        refine wpAnyH_ready (rs := [16]) (by kernel_rfl) (by simp) ?_
        refine AllReadyH.cons (o := { dst := some 49, op := Op.call { callee := Callee.value (Operand.func 14), args := #[Operand.tmp 47, Operand.tmp 48], argTypes := #[25, 25] }, type := 4, pos := "law.go:20", after := #[{ on := 14, ground := Ground.data }, { on := 15, ground := Ground.data }, { on := 13, ground := Ground.chain }, { on := 13, ground := Ground.guard }], guard := some (13, true) }) rfl (fun K hK => ?_) (AllReadyH.nil)
        go_simp
        refine (sameM_yes (HR1.out.mg HMX.out.1) (HR2.out.mg HMX.out.1) (Nat.le_refl _) (Nat.le_refl _)).mono ?_; rintro e x2 ⟨rfl, hb⟩
        replace HZZ := Lib.hid (below_aside HZZ.out (Aside.of_all hb : Aside (fun _ => False) _ _) (fun k hk => ⟨Nat.lt_of_lt_of_le hk HWS.out, id⟩))
        replace HWS := Lib.hid (Nat.le_trans HWS.out hb.size)
        replace HR1 := Lib.hid (HR1.out.below hb)
        replace HZ8 := Lib.hid (HZ8.out.below (by simp) hb)
        replace HZ9 := Lib.hid (HZ9.out.below (by simp) hb)
        clear hb
        try go_wp2_with fail
        refine hK.out _ _ ⟨(celz HYA.out HZE.out HZZ.out).five, (celz HYB.out HZE.out HZZ.out).five, HZ8.out.six, HZ9.out.six, (celz HI.out HZE.out HZZ.out).six, (celz HX.out HZE.out HZZ.out).six⟩ (fun hHeld => ?_)
        clear hK K
        try simp only [Act.put, List.setIfInBounds_toArray, List.set_cons_zero, List.set_cons_succ]
        refine wpAnyH_take (i := 17) (oi := { dst := some 50, op := Op.pick (Operand.tmp 46) (Operand.tmp 49) (Operand.const (Value.bool false)), type := 4, pos := "law.go:20", after := #[{ on := 13, ground := Ground.data }, { on := 16, ground := Ground.data }], guard := none }) (v := ?_) rfl (by kernel_rfl) (by kernel_rfl) (by kernel_rfl) (fun _ _ _ h => h) (Or.inl ⟨by rfl, ?_⟩) (by assumption) ?_
        rotate_left 1
        · intro w hSw; clear hSw; go_simp; try (with_reducible rfl)
        try simp only [Act.put, List.setIfInBounds_toArray, List.set_cons_zero, List.set_cons_succ]
        refine wpAnyH_take (i := 18) (oi := { dst := some 51, op := Op.move (Operand.tmp 50), type := 4, pos := "law.go:20", after := #[{ on := 17, ground := Ground.data }, { on := 16, ground := Ground.chain }], guard := none }) (v := ?_) rfl (by kernel_rfl) (by kernel_rfl) (by kernel_rfl) (fun _ _ _ h => h) (Or.inl ⟨by rfl, ?_⟩) (by assumption) ?_
        rotate_left 1
        · intro w hSw; clear hSw; go_simp; try (with_reducible rfl)
        try simp only [Act.put, List.setIfInBounds_toArray, List.set_cons_zero, List.set_cons_succ]
        refine wpAnyH_take (i := 19) (oi := { dst := some 52, op := Op.load 25 (Operand.tmp 3), type := 25, pos := "law.go:20", after := #[{ on := 18, ground := Ground.guard }], guard := some (18, true) }) (v := ?_) rfl (by kernel_rfl) (by kernel_rfl) (by kernel_rfl) (fun _ _ _ h => h) (Or.inl ⟨by rfl, ?_⟩) (by assumption) ?_
        rotate_left 1
        · intro w hSw; have hSw1 := hSw.2.2.2.2.1; clear hSw; have hSw := hSw1; clear hSw1; (try dsimp only at hSw); go_simp; try (with_reducible rfl)
        try simp only [Act.put, List.setIfInBounds_toArray, List.set_cons_zero, List.set_cons_succ]
        refine wpAnyH_take (i := 21) (oi := { dst := some 54, op := Op.load 25 (Operand.tmp 1), type := 25, pos := "law.go:20", after := #[{ on := 18, ground := Ground.guard }], guard := some (18, true) }) (v := ?_) rfl (by kernel_rfl) (by kernel_rfl) (by kernel_rfl) (fun _ _ _ h => h) (Or.inl ⟨by rfl, ?_⟩) (by assumption) ?_
        rotate_left 1
        · intro w hSw; have hSw1 := hSw.2.2.2.2.2; clear hSw; have hSw := hSw1; clear hSw1; (try dsimp only at hSw); go_simp; try (with_reducible rfl)
        try simp only [Act.put, List.setIfInBounds_toArray, List.set_cons_zero, List.set_cons_succ]
        refine wpAnyH_ready (rs := [20]) (by kernel_rfl) (by simp) ?_
        refine AllReadyH.cons (o := { dst := some 53, op := Op.call { callee := Callee.value (Operand.func 15), args := #[Operand.tmp 52], argTypes := #[25] }, type := 3, pos := "law.go:20", after := #[{ on := 19, ground := Ground.data }, { on := 18, ground := Ground.chain }, { on := 18, ground := Ground.guard }], guard := some (18, true) }) rfl (fun K hK => ?_) (AllReadyH.nil)
        go_simp
        refine ((show Calls _ _ _ _ (Tells _ (.int .i64 cd)) by have h := code_any (mgz (HC.out.mg HMI.out.1) HZE.out HZZ.out) HWS.out HMI.out; rw [HCD.out] at h; exact h)).mono ?_; rintro e x3 ⟨rfl, hb⟩
        replace HZZ := Lib.hid (below_aside HZZ.out (Aside.of_all hb : Aside (fun _ => False) _ _) (fun k hk => ⟨Nat.lt_of_lt_of_le hk HWS.out, id⟩))
        replace HWS := Lib.hid (Nat.le_trans HWS.out hb.size)
        replace HR1 := Lib.hid (HR1.out.below hb)
        replace HZ8 := Lib.hid (HZ8.out.below (by simp) hb)
        replace HZ9 := Lib.hid (HZ9.out.below (by simp) hb)
        clear hb
        try go_wp2_with fail
        refine hK.out _ _ ⟨(celz HYA.out HZE.out HZZ.out).five, (celz HYB.out HZE.out HZZ.out).five, HZ8.out.six, HZ9.out.six, (celz HI.out HZE.out HZZ.out).six, (celz HX.out HZE.out HZZ.out).six⟩ (fun hHeld => ?_)
        clear hK K
        try simp only [Act.put, List.setIfInBounds_toArray, List.set_cons_zero, List.set_cons_succ]
        refine wpAnyH_ready (rs := [22]) (by kernel_rfl) (by simp) ?_
        refine AllReadyH.cons (o := { dst := some 55, op := Op.call { callee := Callee.value (Operand.func 16), args := #[Operand.tmp 54], argTypes := #[25] }, type := 3, pos := "law.go:20", after := #[{ on := 21, ground := Ground.data }, { on := 20, ground := Ground.chain }, { on := 18, ground := Ground.guard }], guard := some (18, true) }) rfl (fun K hK => ?_) (AllReadyH.nil)
        go_simp
        refine ((show Calls _ _ _ _ (Tells _ (.int .i64 cd)) by have h := rcode9_any (mgz HM.out HZE.out HZZ.out) HWS.out HMI.out; rw [HCD.out] at h; exact h)).mono ?_; rintro e x4 ⟨rfl, hb⟩
        replace HZZ := Lib.hid (below_aside HZZ.out (Aside.of_all hb : Aside (fun _ => False) _ _) (fun k hk => ⟨Nat.lt_of_lt_of_le hk HWS.out, id⟩))
        replace HWS := Lib.hid (Nat.le_trans HWS.out hb.size)
        replace HR1 := Lib.hid (HR1.out.below hb)
        replace HZ8 := Lib.hid (HZ8.out.below (by simp) hb)
        replace HZ9 := Lib.hid (HZ9.out.below (by simp) hb)
        clear hb
        try go_wp2_with fail
        refine hK.out _ _ ⟨(celz HYA.out HZE.out HZZ.out).five, (celz HYB.out HZE.out HZZ.out).five, HZ8.out.six, HZ9.out.six, (celz HI.out HZE.out HZZ.out).six, (celz HX.out HZE.out HZZ.out).six⟩ (fun hHeld => ?_)
        clear hK K
        try simp only [Act.put, List.setIfInBounds_toArray, List.set_cons_zero, List.set_cons_succ]
        refine wpAnyH_take (i := 23) (oi := { dst := some 56, op := Op.binOp BinOp.eql 3 (Operand.tmp 53) (Operand.tmp 55) 3, type := 4, pos := "law.go:20", after := #[{ on := 20, ground := Ground.data }, { on := 22, ground := Ground.data }, { on := 18, ground := Ground.guard }], guard := some (18, true) }) (v := ?_) rfl (by kernel_rfl) (by kernel_rfl) (by kernel_rfl) (fun _ _ _ h => h) (Or.inl ⟨by rfl, ?_⟩) (by assumption) ?_
        rotate_left 1
        · intro w hSw; clear hSw; go_simp; try (with_reducible rfl)
        try simp only [Act.put, List.setIfInBounds_toArray, List.set_cons_zero, List.set_cons_succ]
        refine wpAnyH_take (i := 24) (oi := { dst := some 57, op := Op.pick (Operand.tmp 51) (Operand.tmp 56) (Operand.const (Value.bool false)), type := 4, pos := "law.go:20", after := #[{ on := 18, ground := Ground.data }, { on := 23, ground := Ground.data }], guard := none }) (v := ?_) rfl (by kernel_rfl) (by kernel_rfl) (by kernel_rfl) (fun _ _ _ h => h) (Or.inl ⟨by rfl, ?_⟩) (by assumption) ?_
        rotate_left 1
        · intro w hSw; clear hSw; go_simp; try (with_reducible rfl)
        try simp only [Act.put, List.setIfInBounds_toArray, List.set_cons_zero, List.set_cons_succ]
        refine wpAnyH_take (i := 25) (oi := { dst := some 58, op := Op.move (Operand.tmp 57), type := 4, pos := "law.go:20", after := #[{ on := 24, ground := Ground.data }, { on := 22, ground := Ground.chain }], guard := none }) (v := ?_) rfl (by kernel_rfl) (by kernel_rfl) (by kernel_rfl) (fun _ _ _ h => h) (Or.inl ⟨by rfl, ?_⟩) (by assumption) ?_
        rotate_left 1
        · intro w hSw; clear hSw; go_simp; try (with_reducible rfl)
        try simp only [Act.put, List.setIfInBounds_toArray, List.set_cons_zero, List.set_cons_succ]
        refine wpAnyH_take (i := 26) (oi := { dst := some 59, op := Op.load 25 (Operand.tmp 3), type := 25, pos := "law.go:20", after := #[{ on := 25, ground := Ground.guard }], guard := some (25, true) }) (v := ?_) rfl (by kernel_rfl) (by kernel_rfl) (by kernel_rfl) (fun _ _ _ h => h) (Or.inl ⟨by rfl, ?_⟩) (by assumption) ?_
        rotate_left 1
        · intro w hSw; have hSw1 := hSw.2.2.2.2.1; clear hSw; have hSw := hSw1; clear hSw1; (try dsimp only at hSw); go_simp; try (with_reducible rfl)
        try simp only [Act.put, List.setIfInBounds_toArray, List.set_cons_zero, List.set_cons_succ]
        refine wpAnyH_take (i := 28) (oi := { dst := some 61, op := Op.load 25 (Operand.tmp 1), type := 25, pos := "law.go:20", after := #[{ on := 25, ground := Ground.guard }], guard := some (25, true) }) (v := ?_) rfl (by kernel_rfl) (by kernel_rfl) (by kernel_rfl) (fun _ _ _ h => h) (Or.inl ⟨by rfl, ?_⟩) (by assumption) ?_
        rotate_left 1
        · intro w hSw; have hSw1 := hSw.2.2.2.2.2; clear hSw; have hSw := hSw1; clear hSw1; (try dsimp only at hSw); go_simp; try (with_reducible rfl)
        try simp only [Act.put, List.setIfInBounds_toArray, List.set_cons_zero, List.set_cons_succ]
        refine wpAnyH_ready (rs := [27]) (by kernel_rfl) (by simp) ?_
        refine AllReadyH.cons (o := { dst := some 60, op := Op.call { callee := Callee.value (Operand.func 17), args := #[Operand.tmp 59], argTypes := #[25] }, type := 3, pos := "law.go:20", after := #[{ on := 26, ground := Ground.data }, { on := 25, ground := Ground.chain }, { on := 25, ground := Ground.guard }], guard := some (25, true) }) rfl (fun K hK => ?_) (AllReadyH.nil)
        go_simp
        refine ((show Calls _ _ _ _ (Tells _ (.int .i64 rm)) by have h := room_any (mgz (HC.out.mg HMI.out.1) HZE.out HZZ.out) HWS.out HMI.out; rw [HRM.out] at h; exact h)).mono ?_; rintro e x5 ⟨rfl, hb⟩
        replace HZZ := Lib.hid (below_aside HZZ.out (Aside.of_all hb : Aside (fun _ => False) _ _) (fun k hk => ⟨Nat.lt_of_lt_of_le hk HWS.out, id⟩))
        replace HWS := Lib.hid (Nat.le_trans HWS.out hb.size)
        replace HR1 := Lib.hid (HR1.out.below hb)
        replace HZ8 := Lib.hid (HZ8.out.below (by simp) hb)
        replace HZ9 := Lib.hid (HZ9.out.below (by simp) hb)
        clear hb
        try go_wp2_with fail
        refine hK.out _ _ ⟨(celz HYA.out HZE.out HZZ.out).five, (celz HYB.out HZE.out HZZ.out).five, HZ8.out.six, HZ9.out.six, (celz HI.out HZE.out HZZ.out).six, (celz HX.out HZE.out HZZ.out).six⟩ (fun hHeld => ?_)
        clear hK K
        try simp only [Act.put, List.setIfInBounds_toArray, List.set_cons_zero, List.set_cons_succ]
        refine wpAnyH_ready (rs := [29]) (by kernel_rfl) (by simp) ?_
        refine AllReadyH.cons (o := { dst := some 62, op := Op.call { callee := Callee.value (Operand.func 18), args := #[Operand.tmp 61], argTypes := #[25] }, type := 3, pos := "law.go:20", after := #[{ on := 28, ground := Ground.data }, { on := 27, ground := Ground.chain }, { on := 25, ground := Ground.guard }], guard := some (25, true) }) rfl (fun K hK => ?_) (AllReadyH.nil)
        go_simp
        refine ((show Calls _ _ _ _ (Tells _ (.int .i64 rm)) by have h := rroom9_any (mgz HM.out HZE.out HZZ.out) HWS.out HMI.out; rw [HRM.out] at h; exact h)).mono ?_; rintro e x6 ⟨rfl, hb⟩
        replace HZZ := Lib.hid (below_aside HZZ.out (Aside.of_all hb : Aside (fun _ => False) _ _) (fun k hk => ⟨Nat.lt_of_lt_of_le hk HWS.out, id⟩))
        replace HWS := Lib.hid (Nat.le_trans HWS.out hb.size)
        replace HR1 := Lib.hid (HR1.out.below hb)
        replace HZ8 := Lib.hid (HZ8.out.below (by simp) hb)
        replace HZ9 := Lib.hid (HZ9.out.below (by simp) hb)
        clear hb
        try go_wp2_with fail
        refine hK.out _ _ ⟨(celz HYA.out HZE.out HZZ.out).five, (celz HYB.out HZE.out HZZ.out).five, HZ8.out.six, HZ9.out.six, (celz HI.out HZE.out HZZ.out).six, (celz HX.out HZE.out HZZ.out).six⟩ (fun hHeld => ?_)
        clear hK K
        try simp only [Act.put, List.setIfInBounds_toArray, List.set_cons_zero, List.set_cons_succ]
        refine wpAnyH_take (i := 30) (oi := { dst := some 63, op := Op.binOp BinOp.eql 3 (Operand.tmp 60) (Operand.tmp 62) 3, type := 4, pos := "law.go:20", after := #[{ on := 27, ground := Ground.data }, { on := 29, ground := Ground.data }, { on := 25, ground := Ground.guard }], guard := some (25, true) }) (v := ?_) rfl (by kernel_rfl) (by kernel_rfl) (by kernel_rfl) (fun _ _ _ h => h) (Or.inl ⟨by rfl, ?_⟩) (by assumption) ?_
        rotate_left 1
        · intro w hSw; clear hSw; go_simp; try (with_reducible rfl)
        try simp only [Act.put, List.setIfInBounds_toArray, List.set_cons_zero, List.set_cons_succ]
        refine wpAnyH_take (i := 31) (oi := { dst := some 64, op := Op.pick (Operand.tmp 58) (Operand.tmp 63) (Operand.const (Value.bool false)), type := 4, pos := "law.go:20", after := #[{ on := 25, ground := Ground.data }, { on := 30, ground := Ground.data }], guard := none }) (v := ?_) rfl (by kernel_rfl) (by kernel_rfl) (by kernel_rfl) (fun _ _ _ h => h) (Or.inl ⟨by rfl, ?_⟩) (by assumption) ?_
        rotate_left 1
        · intro w hSw; clear hSw; go_simp; try (with_reducible rfl)
        try simp only [Act.put, List.setIfInBounds_toArray, List.set_cons_zero, List.set_cons_succ]
        refine wpAnyH_take (i := 32) (oi := { dst := some 12, op := Op.assign (Operand.tmp 64), type := 4, pos := "law.go:20", after := #[{ on := 31, ground := Ground.data }, { on := 29, ground := Ground.chain }, { on := 0, ground := Ground.phase }, { on := 1, ground := Ground.phase }, { on := 2, ground := Ground.phase }, { on := 3, ground := Ground.phase }, { on := 4, ground := Ground.phase }, { on := 5, ground := Ground.phase }, { on := 6, ground := Ground.phase }, { on := 7, ground := Ground.phase }, { on := 8, ground := Ground.phase }, { on := 9, ground := Ground.phase }, { on := 10, ground := Ground.phase }, { on := 11, ground := Ground.phase }, { on := 12, ground := Ground.phase }, { on := 13, ground := Ground.phase }, { on := 14, ground := Ground.phase }, { on := 15, ground := Ground.phase }, { on := 16, ground := Ground.phase }, { on := 17, ground := Ground.phase }, { on := 18, ground := Ground.phase }, { on := 19, ground := Ground.phase }, { on := 20, ground := Ground.phase }, { on := 21, ground := Ground.phase }, { on := 22, ground := Ground.phase }, { on := 23, ground := Ground.phase }, { on := 24, ground := Ground.phase }, { on := 25, ground := Ground.phase }, { on := 26, ground := Ground.phase }, { on := 27, ground := Ground.phase }, { on := 28, ground := Ground.phase }, { on := 29, ground := Ground.phase }, { on := 30, ground := Ground.phase }, { on := 31, ground := Ground.phase }], guard := none }) (v := ?_) rfl (by kernel_rfl) (by kernel_rfl) (by kernel_rfl) (fun _ _ _ h => h) (Or.inl ⟨by rfl, ?_⟩) (by assumption) ?_
        rotate_left 1
        · intro w hSw; clear hSw; go_simp; try (with_reducible rfl)
        try simp only [Act.put, List.setIfInBounds_toArray, List.set_cons_zero, List.set_cons_succ]
        refine wpAnyH_done (by kernel_rfl) ?_ _
        clear hHeld
        obtain ⟨c0, c1, c2, c3, c4, c5⟩ := HZ8.out.six
        go_wp2_with fail
        clear c0 c1 c2 c3 c4 c5
        refine (show Calls _ _ _ _ _ from by have h := overW_any HR1.out HWS.out HMX.out.1; exact h).mono ?_; rintro e y1 ⟨rfl, hb⟩
        replace HZZ := Lib.hid (HZZ.out.trans hb)
        replace HWS := Lib.hid (Nat.le_trans HWS.out hb.size)
        clear hb HR1 HZ8 HZ9
        obtain ⟨c0, c1, c2, c3, c4, c5⟩ := (celz HX.out HZE.out HZZ.out).six
        obtain ⟨d0, d1, d2, d3, d4, d5⟩ := (celz HI.out HZE.out HZZ.out).six
        go_wp2_with fail
        clear c0 c1 c2 c3 c4 c5 d0 d1 d2 d3 d4 d5
        refine (keptM_any (HC.out.below (by rw [HZE.out]; exact HZZ.out)) (mgz HM.out HZE.out HZZ.out) HWS.out HMI.out.1).mono ?_; rintro e y2 ⟨rfl, hb⟩
        replace HZZ := Lib.hid (below_aside HZZ.out (Aside.of_all hb : Aside (fun _ => False) _ _) (fun k hk => ⟨Nat.lt_of_lt_of_le hk HWS.out, id⟩))
        replace HWS := Lib.hid (Nat.le_trans HWS.out hb.size)
        clear hb
        go_wp2_with fail
        refine (HAw.out _).mono ?_; rintro e y3 ⟨rfl, hb⟩
        replace HZZ := Lib.hid (below_aside HZZ.out (Aside.of_all hb : Aside (fun _ => False) _ _) (fun k hk => ⟨Nat.lt_of_lt_of_le hk HWS.out, id⟩))
        replace HWS := Lib.hid (Nat.le_trans HWS.out hb.size)
        clear hb
        go_wp2_with fail
        go_ret
        exact ⟨rfl, bel_call HB.out (by rw [HZE.out]; exact HZZ.out)⟩

end Go.Proofs.Ytcjgbholgbjejaa
