/-
  A message that says something besides is told as the document tells it: EdnsPuts.
-/
import Derived.Test.YtcjgbholgbjejaaW08
namespace Go.Proofs.Ytcjgbholgbjejaa
open Go.RowKit Go.Shelf
set_option linter.unusedVariables false
set_option linter.unusedSimpArgs false
set_option maxRecDepth 100000

set_option maxHeartbeats 16000000 in
theorem puts9_any {w : World} {hi hi' : Nat} {u v : Value} {m : Ms} {ed : Ed} (h : Mg w hi u m) (h1 : hi ≤ w.heap.size) (h' : Eg w hi' v ed) (h1' : hi' ≤ w.heap.size) : Calls Try.prog 4 #[u, v] w (Tells w (.bool true)) := by
  have HAw := Lib.hid (fun wx => awake9_any wx)
  obtain ⟨q, a, n, r, rfl, hq, ha, hn, hr⟩ := h
  obtain ⟨o, rfl, hso⟩ := h'
  obtain ⟨qa, qc, rfl⟩ := Lst.shape hq
  obtain ⟨aa, ac, rfl⟩ := Lst.shape ha
  obtain ⟨na, nc, rfl⟩ := Lst.shape hn
  obtain ⟨ra, rc, rfl⟩ := Lst.shape hr
  obtain ⟨oa, oc, rfl⟩ := Lst.shape hso
  have hm : Mg w w.heap.size (.agg #[.int .i64 m.id, .int .i64 m.fl, .slice qa m.q.length qc, .slice aa m.an.length ac, .slice na m.ns.length nc, .slice ra m.ar.length rc]) m := Mg.wide ⟨_, _, _, _, rfl, hq, ha, hn, hr⟩ h1
  have hee : Eg w w.heap.size (.agg #[.int .i64 ed.s, .int .i64 ed.x, .int .i64 ed.v, .bool ed.b, .slice oa ed.o.length oc]) ed := Eg.wide ⟨_, rfl, hso⟩ h1'
  obtain ⟨i0, hi0⟩ : ∃ i, m.id = i := ⟨_, rfl⟩
  obtain ⟨f0, hf0⟩ : ∃ i, m.fl = i := ⟨_, rfl⟩
  obtain ⟨lq, hlq⟩ : ∃ i, m.q.length = i := ⟨_, rfl⟩
  obtain ⟨la, hla⟩ : ∃ i, m.an.length = i := ⟨_, rfl⟩
  obtain ⟨ln, hln⟩ : ∃ i, m.ns.length = i := ⟨_, rfl⟩
  obtain ⟨lr, hlr⟩ : ∃ i, m.ar.length = i := ⟨_, rfl⟩
  obtain ⟨R, hR⟩ : ∃ r, bigMs 200 66000 m = r := ⟨_, rfl⟩
  obtain ⟨R2, hR2⟩ : ∃ r, bigE 100 66000 ed = r := ⟨_, rfl⟩
  obtain ⟨EC, hEC⟩ : ∃ x, chkE ed = x := ⟨_, rfl⟩
  rw [hi0, hf0, hlq, hla, hln, hlr] at hm ⊢
  have hb : Below w.heap.size w ((w.alloc (.cells #[.int .i64 i0, .int .i64 f0, .slice qa lq qc, .slice aa la ac, .slice na ln nc, .slice ra lr rc] 25)).alloc (.cells #[.int .i64 ed.s, .int .i64 ed.x, .int .i64 ed.v, .bool ed.b, .slice oa ed.o.length oc] 30)) := ((Below.refl _ _).alloc (Nat.le_refl _) _).alloc (by simp) _
  have hx := (cel_new6 w (.int .i64 i0) (.int .i64 f0) (.slice qa lq qc) (.slice aa la ac) (.slice na ln nc) (.slice ra lr rc) 25).below (by simp) ((Below.refl _ _).alloc (Nat.le_refl _) (.cells #[.int .i64 ed.s, .int .i64 ed.x, .int .i64 ed.v, .bool ed.b, .slice oa ed.o.length oc] 30))
  have hy := cel_new (w.alloc (.cells #[.int .i64 i0, .int .i64 f0, .slice qa lq qc, .slice aa la ac, .slice na ln nc, .slice ra lr rc] 25)) (.int .i64 ed.s) (.int .i64 ed.x) (.int .i64 ed.v) (.bool ed.b) (.slice oa ed.o.length oc) 30
  rw [World.size_alloc] at hy
  obtain ⟨N, hN⟩ : ∃ N, w.heap.size = N := ⟨_, rfl⟩
  rw [hN] at hx hy
  have HB := Lib.hid hb
  have HX := Lib.hid hx
  have HY := Lib.hid hy
  have HM := Lib.hid (hm.later hb)
  have HE := Lib.hid (hee.later hb)
  have HOC := Lib.hid hEC
  clear hq ha hn hr h1 h1' hso hm hee hb hx hy hEC
  go_enter Try.func4, Try.ntmps4
  go_wp2_with fail
  refine (bigM_any 200 66000 (by decide) (by decide) HM.out (Nat.le_refl _)).mono ?_; rw [hR]; rintro e w2 ⟨rfl, hb⟩
  replace HB := Lib.hid (bel_call HB.out hb)
  replace HX := Lib.hid (HX.out.below (by simp) hb)
  replace HY := Lib.hid (HY.out.below (by simp) hb)
  replace HM := Lib.hid (HM.out.later hb)
  replace HE := Lib.hid (HE.out.later hb)
  clear hb
  cases R with
  | true =>
    go_wp2_with fail
    go_ret
    exact ⟨rfl, HB.out⟩
  | false =>
  have HTOT := Lib.hid (mil_of hR (by decide) (by decide)).2
  have HMI := Lib.hid (mil_of hR (by decide) (by decide)).1
  obtain ⟨c0, c1, c2, c3, c4⟩ := HY.out.five
  go_wp2_with fail
  clear c0 c1 c2 c3 c4
  refine (bigE_any 100 66000 (by decide) (by decide) HE.out (Nat.le_refl _)).mono ?_; rw [hR2]; rintro e w3 ⟨rfl, hb⟩
  replace HB := Lib.hid (bel_call HB.out hb)
  replace HX := Lib.hid (HX.out.below (by simp) hb)
  replace HY := Lib.hid (HY.out.below (by simp) hb)
  replace HM := Lib.hid (HM.out.later hb)
  replace HE := Lib.hid (HE.out.later hb)
  clear hb
  cases R2 with
  | true =>
    go_wp2_with fail
    go_ret
    exact ⟨rfl, HB.out⟩
  | false =>
  have HEL := Lib.hid (bigE_no hR2)
  go_wp2_with fail
  obtain ⟨wX, hwX⟩ : ∃ X, w3.drew = X := ⟨_, rfl⟩
  have hb : Below w3.heap.size w3 wX := by rw [← hwX]; exact (Below.refl _ _).drew
  replace HB := Lib.hid (bel_call HB.out hb)
  replace HX := Lib.hid (HX.out.below (by simp) hb)
  replace HY := Lib.hid (HY.out.below (by simp) hb)
  replace HM := Lib.hid (HM.out.later hb)
  replace HE := Lib.hid (HE.out.later hb)
  clear hb
  have HLQ := Lib.hid hlq
  have HLA := Lib.hid hla
  have HLN := Lib.hid hln
  have HLR := Lib.hid hlr
  have HI0 := Lib.hid hi0
  have HF0 := Lib.hid hf0
  clear hlq hla hln hlr hi0 hf0 hN
  obtain ⟨Z, hZ⟩ : ∃ Z, wX.heap.size = Z := ⟨_, rfl⟩
  have HZE := Lib.hid hZ
  clear hZ
  obtain ⟨wc, hwc⟩ : ∃ X, wX = X := ⟨_, rfl⟩
  have HZZ := Lib.hid (show Below Z wX wc by rw [← hwc]; exact Below.refl _ _)
  have HWS := Lib.hid (show Z ≤ wc.heap.size by rw [← hwc, HZE.out]; exact Nat.le_refl _)
  refine wp_region_held_drew (S := (fun wx => (wx.cell? ⟨N, 0, none⟩ = some (.int .i64 i0) ∧ wx.cell? ⟨N, 1, none⟩ = some (.int .i64 f0) ∧ wx.cell? ⟨N, 2, none⟩ = some (.slice qa lq qc) ∧ wx.cell? ⟨N, 3, none⟩ = some (.slice aa la ac) ∧ wx.cell? ⟨N, 4, none⟩ = some (.slice na ln nc) ∧ wx.cell? ⟨N, 5, none⟩ = some (.slice ra lr rc)) ∧ (wx.cell? ⟨N + 1, 0, none⟩ = some (.int .i64 ed.s) ∧ wx.cell? ⟨N + 1, 1, none⟩ = some (.int .i64 ed.x) ∧ wx.cell? ⟨N + 1, 2, none⟩ = some (.int .i64 ed.v) ∧ wx.cell? ⟨N + 1, 3, none⟩ = some (.bool ed.b) ∧ wx.cell? ⟨N + 1, 4, none⟩ = some (.slice oa ed.o.length oc)))) (by kernel_rfl) (by rw [hwX, hwc]; exact ⟨(cely HX.out HZE.out HZZ.out).six, (cely HY.out HZE.out HZZ.out).five⟩) (fun hHeld => ?_)
  refine wpAnyH_take (i := 0) (oi := { dst := some 18, op := Op.load 25 (Operand.tmp 2), type := 25, pos := "law.go:30", after := #[], guard := none }) (v := ?_) rfl (by kernel_rfl) (by kernel_rfl) (by kernel_rfl) (fun _ _ _ h => h) (Or.inl ⟨by rfl, ?_⟩) (by assumption) ?_
  rotate_left 1
  · intro w hSw; (try dsimp only at hSw); go_simp; try (with_reducible rfl)
  try simp only [Act.put, List.setIfInBounds_toArray, List.set_cons_zero, List.set_cons_succ]
  refine wpAnyH_take (i := 2) (oi := { dst := some 20, op := Op.load 30 (Operand.tmp 3), type := 30, pos := "law.go:30", after := #[], guard := none }) (v := ?_) rfl (by kernel_rfl) (by kernel_rfl) (by kernel_rfl) (fun _ _ _ h => h) (Or.inl ⟨by rfl, ?_⟩) (by assumption) ?_
  rotate_left 1
  · intro w hSw; (try dsimp only at hSw); go_simp; try (with_reducible rfl)
  try simp only [Act.put, List.setIfInBounds_toArray, List.set_cons_zero, List.set_cons_succ]
  refine wpAnyH_ready (rs := [1, 4, 5]) (by kernel_rfl) (by simp) ?_
  refine AllReadyH.cons (o := { dst := some 19, op := Op.call { callee := Callee.value (Operand.func 8), args := #[Operand.tmp 18], argTypes := #[25] }, type := 25, pos := "law.go:30", after := #[{ on := 0, ground := Ground.data }], guard := none }) rfl (fun K hK => ?_) (AllReadyH.cons (o := { dst := some 5, op := Op.alloc 25, type := 0, pos := "law.go:30", after := #[], guard := none }) rfl (fun K hK => ?_) (AllReadyH.cons (o := { dst := some 6, op := Op.alloc 30, type := 0, pos := "law.go:30", after := #[], guard := none }) rfl (fun K hK => ?_) (AllReadyH.nil)))
  go_simp
  obtain ⟨z1, hz1⟩ : ∃ g, wc.heap.size = g := ⟨_, rfl⟩
  have hsz := HWS.out
  rw [hz1] at hsz
  refine (copyM_any (mgy HM.out HZE.out HZZ.out) HWS.out HMI.out.1).mono ?_; rintro e0 wc ⟨qv, rfl, ho, hb⟩
  rw [hz1] at ho
  obtain ⟨b1, c1, b2, c2, b3, c3, b4, c4, hqv⟩ := cpm_shape ho
  rw [HI0.out, HF0.out, HLQ.out, HLA.out, HLN.out, HLR.out] at hqv
  subst hqv
  replace HZZ := Lib.hid (below_aside HZZ.out (Aside.of_all hb : Aside (fun _ => False) _ _) (fun k hk => ⟨Nat.lt_of_lt_of_le hk HWS.out, id⟩))
  replace HWS := Lib.hid (Nat.le_trans HWS.out hb.size)
  clear hb
  have HC := Lib.hid ho
  clear ho hz1 hsz
  focus (try go_wp2_with fail)
  refine hK.out _ _ ⟨(cely HX.out HZE.out HZZ.out).six, (cely HY.out HZE.out HZZ.out).five⟩ (fun hHeld => ?_)
  clear hK K
  try simp only [Act.put, List.setIfInBounds_toArray, List.set_cons_zero, List.set_cons_succ]
  refine wpAnyH_ready (rs := [3, 4, 5]) (by kernel_rfl) (by simp) ?_
  refine AllReadyH.cons (o := { dst := some 21, op := Op.call { callee := Callee.value (Operand.func 23), args := #[Operand.tmp 20], argTypes := #[30] }, type := 30, pos := "law.go:30", after := #[{ on := 2, ground := Ground.data }, { on := 1, ground := Ground.chain }], guard := none }) rfl (fun K hK => ?_) (AllReadyH.cons (o := { dst := some 5, op := Op.alloc 25, type := 0, pos := "law.go:30", after := #[], guard := none }) rfl (fun K hK => ?_) (AllReadyH.cons (o := { dst := some 6, op := Op.alloc 30, type := 0, pos := "law.go:30", after := #[], guard := none }) rfl (fun K hK => ?_) (AllReadyH.nil)))
  go_simp
  obtain ⟨z1, hz1⟩ : ∃ g, wc.heap.size = g := ⟨_, rfl⟩
  have hsz := HWS.out
  rw [hz1] at hsz
  refine (copyE2_any (egy HE.out HZE.out HZZ.out) HWS.out (by have := HEL.out.1; omega)).mono ?_; rintro e0 wc ⟨qv, rfl, ho, hb⟩
  rw [hz1] at ho
  obtain ⟨ob, od, hqv⟩ := egw_shape ho
  subst hqv
  replace HZZ := Lib.hid (below_aside HZZ.out (Aside.of_all hb : Aside (fun _ => False) _ _) (fun k hk => ⟨Nat.lt_of_lt_of_le hk HWS.out, id⟩))
  replace HWS := Lib.hid (Nat.le_trans HWS.out hb.size)
  replace HC := Lib.hid (HC.out.below hb)
  clear hb
  have HK := Lib.hid ho
  clear ho hz1 hsz
  focus (try go_wp2_with fail)
  refine hK.out _ _ ⟨(cely HX.out HZE.out HZZ.out).six, (cely HY.out HZE.out HZZ.out).five⟩ (fun hHeld => ?_)
  clear hK K
  try simp only [Act.put, List.setIfInBounds_toArray, List.set_cons_zero, List.set_cons_succ]
  refine wpAnyH_ready (rs := [4, 5]) (by kernel_rfl) (by simp) ?_
  refine AllReadyH.cons (o := { dst := some 5, op := Op.alloc 25, type := 0, pos := "law.go:30", after := #[], guard := none }) rfl (fun K hK => ?_) (AllReadyH.cons (o := { dst := some 6, op := Op.alloc 30, type := 0, pos := "law.go:30", after := #[], guard := none }) rfl (fun K hK => ?_) (AllReadyH.nil))
  go_simp
  have hone := cel_new6 wc (.int .i64 0) (.int .i64 0) (.slice none 0 0) (.slice none 0 0) (.slice none 0 0) (.slice none 0 0) 25
  have hb : Below wc.heap.size wc (wc.alloc (.cells #[.int .i64 0, .int .i64 0, .slice none 0 0, .slice none 0 0, .slice none 0 0, .slice none 0 0] 25)) := (Below.refl _ _).alloc (Nat.le_refl _) _
  obtain ⟨g5, hg5⟩ : ∃ g, wc.heap.size = g := ⟨_, rfl⟩
  have hzz := HWS.out
  rw [hg5] at hzz
  have HDM5 := Lib.hid (HC.out.offm (.inr (Nat.le_of_eq hg5)))
  have HDE5 := Lib.hid (HK.out.offe (.inr (Nat.le_of_eq hg5)))
  obtain ⟨wn, hwn⟩ : ∃ X, wc.alloc (.cells #[.int .i64 0, .int .i64 0, .slice none 0 0, .slice none 0 0, .slice none 0 0, .slice none 0 0] 25) = X := ⟨_, rfl⟩
  rw [hwn, hg5] at hone
  rw [hwn] at hb
  rw [hwn, hg5]
  clear hwn hg5
  replace HZZ := Lib.hid (below_aside HZZ.out (Aside.of_all hb : Aside (fun _ => False) _ _) (fun k hk => ⟨Nat.lt_of_lt_of_le hk HWS.out, id⟩))
  replace HWS := Lib.hid (Nat.le_trans HWS.out hb.size)
  replace HC := Lib.hid (HC.out.below hb)
  replace HK := Lib.hid (HK.out.below hb)
  clear hb
  have HZ5 := Lib.hid hone
  have HB5 := Lib.hid hzz
  clear hone hzz
  obtain ⟨wc, hwc⟩ : ∃ X, wn = X := ⟨_, rfl⟩
  rw [hwc] at HZZ HWS HZ5 HC HK ⊢
  clear hwc
  refine hK.out _ _ ⟨(cely HX.out HZE.out HZZ.out).six, (cely HY.out HZE.out HZZ.out).five⟩ (fun hHeld => ?_)
  clear hK K
  try simp only [Act.put, List.setIfInBounds_toArray, List.set_cons_zero, List.set_cons_succ]
  refine wpAnyH_ready (rs := [5]) (by kernel_rfl) (by simp) ?_
  refine AllReadyH.cons (o := { dst := some 6, op := Op.alloc 30, type := 0, pos := "law.go:30", after := #[], guard := none }) rfl (fun K hK => ?_) (AllReadyH.nil)
  go_simp
  have hone := cel_new wc (.int .i64 0) (.int .i64 0) (.int .i64 0) (.bool false) (.slice none 0 0) 30
  have hb : Below wc.heap.size wc (wc.alloc (.cells #[.int .i64 0, .int .i64 0, .int .i64 0, .bool false, .slice none 0 0] 30)) := (Below.refl _ _).alloc (Nat.le_refl _) _
  obtain ⟨g6, hg6⟩ : ∃ g, wc.heap.size = g := ⟨_, rfl⟩
  have hzz := HWS.out
  rw [hg6] at hzz
  have HDM6 := Lib.hid (HC.out.offm (.inr (Nat.le_of_eq hg6)))
  have HDE6 := Lib.hid (HK.out.offe (.inr (Nat.le_of_eq hg6)))
  have HDD := Lib.hid (show g5 ≠ g6 by have := HZ5.out.lt (by simp); omega)
  obtain ⟨wn, hwn⟩ : ∃ X, wc.alloc (.cells #[.int .i64 0, .int .i64 0, .int .i64 0, .bool false, .slice none 0 0] 30) = X := ⟨_, rfl⟩
  rw [hwn, hg6] at hone
  rw [hwn] at hb
  rw [hwn, hg6]
  clear hwn hg6
  replace HZZ := Lib.hid (below_aside HZZ.out (Aside.of_all hb : Aside (fun _ => False) _ _) (fun k hk => ⟨Nat.lt_of_lt_of_le hk HWS.out, id⟩))
  replace HWS := Lib.hid (Nat.le_trans HWS.out hb.size)
  replace HC := Lib.hid (HC.out.below hb)
  replace HK := Lib.hid (HK.out.below hb)
  replace HZ5 := Lib.hid (HZ5.out.below (by simp) hb)
  clear hb
  have HZ6 := Lib.hid hone
  have HB6 := Lib.hid hzz
  clear hone hzz
  obtain ⟨wc, hwc⟩ : ∃ X, wn = X := ⟨_, rfl⟩
  rw [hwc] at HZZ HWS HZ6 HC HK HZ5 ⊢
  clear hwc
  refine hK.out _ _ ⟨(cely HX.out HZE.out HZZ.out).six, (cely HY.out HZE.out HZZ.out).five⟩ (fun hHeld => ?_)
  clear hK K
  try simp only [Act.put, List.setIfInBounds_toArray, List.set_cons_zero, List.set_cons_succ]
  rotate_left 1
  go_simp
  have hone := cel_new wc (.int .i64 0) (.int .i64 0) (.int .i64 0) (.bool false) (.slice none 0 0) 30
  have hb : Below wc.heap.size wc (wc.alloc (.cells #[.int .i64 0, .int .i64 0, .int .i64 0, .bool false, .slice none 0 0] 30)) := (Below.refl _ _).alloc (Nat.le_refl _) _
  obtain ⟨g6, hg6⟩ : ∃ g, wc.heap.size = g := ⟨_, rfl⟩
  have hzz := HWS.out
  rw [hg6] at hzz
  have HDM6 := Lib.hid (HC.out.offm (.inr (Nat.le_of_eq hg6)))
  have HDE6 := Lib.hid (HK.out.offe (.inr (Nat.le_of_eq hg6)))
  obtain ⟨wn, hwn⟩ : ∃ X, wc.alloc (.cells #[.int .i64 0, .int .i64 0, .int .i64 0, .bool false, .slice none 0 0] 30) = X := ⟨_, rfl⟩
  rw [hwn, hg6] at hone
  rw [hwn] at hb
  rw [hwn, hg6]
  clear hwn hg6
  replace HZZ := Lib.hid (below_aside HZZ.out (Aside.of_all hb : Aside (fun _ => False) _ _) (fun k hk => ⟨Nat.lt_of_lt_of_le hk HWS.out, id⟩))
  replace HWS := Lib.hid (Nat.le_trans HWS.out hb.size)
  replace HC := Lib.hid (HC.out.below hb)
  replace HK := Lib.hid (HK.out.below hb)
  clear hb
  have HZ6 := Lib.hid hone
  have HB6 := Lib.hid hzz
  clear hone hzz
  obtain ⟨wc, hwc⟩ : ∃ X, wn = X := ⟨_, rfl⟩
  rw [hwc] at HZZ HWS HZ6 HC HK ⊢
  clear hwc
  refine hK.out _ _ ⟨(cely HX.out HZE.out HZZ.out).six, (cely HY.out HZE.out HZZ.out).five⟩ (fun hHeld => ?_)
  clear hK K
  try simp only [Act.put, List.setIfInBounds_toArray, List.set_cons_zero, List.set_cons_succ]
  refine wpAnyH_ready (rs := [4]) (by kernel_rfl) (by simp) ?_
  refine AllReadyH.cons (o := { dst := some 5, op := Op.alloc 25, type := 0, pos := "law.go:30", after := #[], guard := none }) rfl (fun K hK => ?_) (AllReadyH.nil)
  go_simp
  have hone := cel_new6 wc (.int .i64 0) (.int .i64 0) (.slice none 0 0) (.slice none 0 0) (.slice none 0 0) (.slice none 0 0) 25
  have hb : Below wc.heap.size wc (wc.alloc (.cells #[.int .i64 0, .int .i64 0, .slice none 0 0, .slice none 0 0, .slice none 0 0, .slice none 0 0] 25)) := (Below.refl _ _).alloc (Nat.le_refl _) _
  obtain ⟨g5, hg5⟩ : ∃ g, wc.heap.size = g := ⟨_, rfl⟩
  have hzz := HWS.out
  rw [hg5] at hzz
  have HDM5 := Lib.hid (HC.out.offm (.inr (Nat.le_of_eq hg5)))
  have HDE5 := Lib.hid (HK.out.offe (.inr (Nat.le_of_eq hg5)))
  have HDD := Lib.hid (show g5 ≠ g6 by have := HZ6.out.lt (by simp); omega)
  obtain ⟨wn, hwn⟩ : ∃ X, wc.alloc (.cells #[.int .i64 0, .int .i64 0, .slice none 0 0, .slice none 0 0, .slice none 0 0, .slice none 0 0] 25) = X := ⟨_, rfl⟩
  rw [hwn, hg5] at hone
  rw [hwn] at hb
  rw [hwn, hg5]
  clear hwn hg5
  replace HZZ := Lib.hid (below_aside HZZ.out (Aside.of_all hb : Aside (fun _ => False) _ _) (fun k hk => ⟨Nat.lt_of_lt_of_le hk HWS.out, id⟩))
  replace HWS := Lib.hid (Nat.le_trans HWS.out hb.size)
  replace HC := Lib.hid (HC.out.below hb)
  replace HK := Lib.hid (HK.out.below hb)
  replace HZ6 := Lib.hid (HZ6.out.below (by simp) hb)
  clear hb
  have HZ5 := Lib.hid hone
  have HB5 := Lib.hid hzz
  clear hone hzz
  obtain ⟨wc, hwc⟩ : ∃ X, wn = X := ⟨_, rfl⟩
  rw [hwc] at HZZ HWS HZ5 HC HK HZ6 ⊢
  clear hwc
  refine hK.out _ _ ⟨(cely HX.out HZE.out HZZ.out).six, (cely HY.out HZE.out HZZ.out).five⟩ (fun hHeld => ?_)
  clear hK K
  try simp only [Act.put, List.setIfInBounds_toArray, List.set_cons_zero, List.set_cons_succ]
  rotate_left 1
  go_simp
  have hone := cel_new6 wc (.int .i64 0) (.int .i64 0) (.slice none 0 0) (.slice none 0 0) (.slice none 0 0) (.slice none 0 0) 25
  have hb : Below wc.heap.size wc (wc.alloc (.cells #[.int .i64 0, .int .i64 0, .slice none 0 0, .slice none 0 0, .slice none 0 0, .slice none 0 0] 25)) := (Below.refl _ _).alloc (Nat.le_refl _) _
  obtain ⟨g5, hg5⟩ : ∃ g, wc.heap.size = g := ⟨_, rfl⟩
  have hzz := HWS.out
  rw [hg5] at hzz
  have HDM5 := Lib.hid (HC.out.offm (.inr (Nat.le_of_eq hg5)))
  obtain ⟨wn, hwn⟩ : ∃ X, wc.alloc (.cells #[.int .i64 0, .int .i64 0, .slice none 0 0, .slice none 0 0, .slice none 0 0, .slice none 0 0] 25) = X := ⟨_, rfl⟩
  rw [hwn, hg5] at hone
  rw [hwn] at hb
  rw [hwn, hg5]
  clear hwn hg5
  replace HZZ := Lib.hid (below_aside HZZ.out (Aside.of_all hb : Aside (fun _ => False) _ _) (fun k hk => ⟨Nat.lt_of_lt_of_le hk HWS.out, id⟩))
  replace HWS := Lib.hid (Nat.le_trans HWS.out hb.size)
  replace HC := Lib.hid (HC.out.below hb)
  clear hb
  have HZ5 := Lib.hid hone
  have HB5 := Lib.hid hzz
  clear hone hzz
  obtain ⟨wc, hwc⟩ : ∃ X, wn = X := ⟨_, rfl⟩
  rw [hwc] at HZZ HWS HZ5 HC ⊢
  clear hwc
  refine hK.out _ _ ⟨(cely HX.out HZE.out HZZ.out).six, (cely HY.out HZE.out HZZ.out).five⟩ (fun hHeld => ?_)
  clear hK K
  try simp only [Act.put, List.setIfInBounds_toArray, List.set_cons_zero, List.set_cons_succ]
  refine wpAnyH_ready (rs := [3, 5]) (by kernel_rfl) (by simp) ?_
  refine AllReadyH.cons (o := { dst := some 21, op := Op.call { callee := Callee.value (Operand.func 23), args := #[Operand.tmp 20], argTypes := #[30] }, type := 30, pos := "law.go:30", after := #[{ on := 2, ground := Ground.data }, { on := 1, ground := Ground.chain }], guard := none }) rfl (fun K hK => ?_) (AllReadyH.cons (o := { dst := some 6, op := Op.alloc 30, type := 0, pos := "law.go:30", after := #[], guard := none }) rfl (fun K hK => ?_) (AllReadyH.nil))
  go_simp
  obtain ⟨z1, hz1⟩ : ∃ g, wc.heap.size = g := ⟨_, rfl⟩
  have hsz := HWS.out
  rw [hz1] at hsz
  have hq5 := HZ5.out.lt (by simp)
  rw [hz1] at hq5
  refine (copyE2_any (egy HE.out HZE.out HZZ.out) HWS.out (by have := HEL.out.1; omega)).mono ?_; rintro e0 wc ⟨qv, rfl, ho, hb⟩
  rw [hz1] at ho
  obtain ⟨ob, od, hqv⟩ := egw_shape ho
  subst hqv
  have HDE5 := Lib.hid (ho.offe (.inl hq5))
  clear hq5
  replace HZZ := Lib.hid (below_aside HZZ.out (Aside.of_all hb : Aside (fun _ => False) _ _) (fun k hk => ⟨Nat.lt_of_lt_of_le hk HWS.out, id⟩))
  replace HWS := Lib.hid (Nat.le_trans HWS.out hb.size)
  replace HC := Lib.hid (HC.out.below hb)
  replace HZ5 := Lib.hid (HZ5.out.below (by simp) hb)
  clear hb
  have HK := Lib.hid ho
  clear ho hz1 hsz
  focus (try go_wp2_with fail)
  refine hK.out _ _ ⟨(cely HX.out HZE.out HZZ.out).six, (cely HY.out HZE.out HZZ.out).five⟩ (fun hHeld => ?_)
  clear hK K
  try simp only [Act.put, List.setIfInBounds_toArray, List.set_cons_zero, List.set_cons_succ]
  refine wpAnyH_ready (rs := [5]) (by kernel_rfl) (by simp) ?_
  refine AllReadyH.cons (o := { dst := some 6, op := Op.alloc 30, type := 0, pos := "law.go:30", after := #[], guard := none }) rfl (fun K hK => ?_) (AllReadyH.nil)
  go_simp
  have hone := cel_new wc (.int .i64 0) (.int .i64 0) (.int .i64 0) (.bool false) (.slice none 0 0) 30
  have hb : Below wc.heap.size wc (wc.alloc (.cells #[.int .i64 0, .int .i64 0, .int .i64 0, .bool false, .slice none 0 0] 30)) := (Below.refl _ _).alloc (Nat.le_refl _) _
  obtain ⟨g6, hg6⟩ : ∃ g, wc.heap.size = g := ⟨_, rfl⟩
  have hzz := HWS.out
  rw [hg6] at hzz
  have HDM6 := Lib.hid (HC.out.offm (.inr (Nat.le_of_eq hg6)))
  have HDE6 := Lib.hid (HK.out.offe (.inr (Nat.le_of_eq hg6)))
  have HDD := Lib.hid (show g5 ≠ g6 by have := HZ5.out.lt (by simp); omega)
  obtain ⟨wn, hwn⟩ : ∃ X, wc.alloc (.cells #[.int .i64 0, .int .i64 0, .int .i64 0, .bool false, .slice none 0 0] 30) = X := ⟨_, rfl⟩
  rw [hwn, hg6] at hone
  rw [hwn] at hb
  rw [hwn, hg6]
  clear hwn hg6
  replace HZZ := Lib.hid (below_aside HZZ.out (Aside.of_all hb : Aside (fun _ => False) _ _) (fun k hk => ⟨Nat.lt_of_lt_of_le hk HWS.out, id⟩))
  replace HWS := Lib.hid (Nat.le_trans HWS.out hb.size)
  replace HC := Lib.hid (HC.out.below hb)
  replace HK := Lib.hid (HK.out.below hb)
  replace HZ5 := Lib.hid (HZ5.out.below (by simp) hb)
  clear hb
  have HZ6 := Lib.hid hone
  have HB6 := Lib.hid hzz
  clear hone hzz
  obtain ⟨wc, hwc⟩ : ∃ X, wn = X := ⟨_, rfl⟩
  rw [hwc] at HZZ HWS HZ6 HC HK HZ5 ⊢
  clear hwc
  refine hK.out _ _ ⟨(cely HX.out HZE.out HZZ.out).six, (cely HY.out HZE.out HZZ.out).five⟩ (fun hHeld => ?_)
  clear hK K
  try simp only [Act.put, List.setIfInBounds_toArray, List.set_cons_zero, List.set_cons_succ]
  rotate_left 1
  go_simp
  have hone := cel_new wc (.int .i64 0) (.int .i64 0) (.int .i64 0) (.bool false) (.slice none 0 0) 30
  have hb : Below wc.heap.size wc (wc.alloc (.cells #[.int .i64 0, .int .i64 0, .int .i64 0, .bool false, .slice none 0 0] 30)) := (Below.refl _ _).alloc (Nat.le_refl _) _
  obtain ⟨g6, hg6⟩ : ∃ g, wc.heap.size = g := ⟨_, rfl⟩
  have hzz := HWS.out
  rw [hg6] at hzz
  have HDM6 := Lib.hid (HC.out.offm (.inr (Nat.le_of_eq hg6)))
  have HDD := Lib.hid (show g5 ≠ g6 by have := HZ5.out.lt (by simp); omega)
  obtain ⟨wn, hwn⟩ : ∃ X, wc.alloc (.cells #[.int .i64 0, .int .i64 0, .int .i64 0, .bool false, .slice none 0 0] 30) = X := ⟨_, rfl⟩
  rw [hwn, hg6] at hone
  rw [hwn] at hb
  rw [hwn, hg6]
  clear hwn hg6
  replace HZZ := Lib.hid (below_aside HZZ.out (Aside.of_all hb : Aside (fun _ => False) _ _) (fun k hk => ⟨Nat.lt_of_lt_of_le hk HWS.out, id⟩))
  replace HWS := Lib.hid (Nat.le_trans HWS.out hb.size)
  replace HC := Lib.hid (HC.out.below hb)
  replace HZ5 := Lib.hid (HZ5.out.below (by simp) hb)
  clear hb
  have HZ6 := Lib.hid hone
  have HB6 := Lib.hid hzz
  clear hone hzz
  obtain ⟨wc, hwc⟩ : ∃ X, wn = X := ⟨_, rfl⟩
  rw [hwc] at HZZ HWS HZ6 HC HZ5 ⊢
  clear hwc
  refine hK.out _ _ ⟨(cely HX.out HZE.out HZZ.out).six, (cely HY.out HZE.out HZZ.out).five⟩ (fun hHeld => ?_)
  clear hK K
  try simp only [Act.put, List.setIfInBounds_toArray, List.set_cons_zero, List.set_cons_succ]
  refine wpAnyH_ready (rs := [3]) (by kernel_rfl) (by simp) ?_
  refine AllReadyH.cons (o := { dst := some 21, op := Op.call { callee := Callee.value (Operand.func 23), args := #[Operand.tmp 20], argTypes := #[30] }, type := 30, pos := "law.go:30", after := #[{ on := 2, ground := Ground.data }, { on := 1, ground := Ground.chain }], guard := none }) rfl (fun K hK => ?_) (AllReadyH.nil)
  go_simp
  obtain ⟨z1, hz1⟩ : ∃ g, wc.heap.size = g := ⟨_, rfl⟩
  have hsz := HWS.out
  rw [hz1] at hsz
  have hq5 := HZ5.out.lt (by simp)
  rw [hz1] at hq5
  have hq6 := HZ6.out.lt (by simp)
  rw [hz1] at hq6
  refine (copyE2_any (egy HE.out HZE.out HZZ.out) HWS.out (by have := HEL.out.1; omega)).mono ?_; rintro e0 wc ⟨qv, rfl, ho, hb⟩
  rw [hz1] at ho
  obtain ⟨ob, od, hqv⟩ := egw_shape ho
  subst hqv
  have HDE5 := Lib.hid (ho.offe (.inl hq5))
  clear hq5
  have HDE6 := Lib.hid (ho.offe (.inl hq6))
  clear hq6
  replace HZZ := Lib.hid (below_aside HZZ.out (Aside.of_all hb : Aside (fun _ => False) _ _) (fun k hk => ⟨Nat.lt_of_lt_of_le hk HWS.out, id⟩))
  replace HWS := Lib.hid (Nat.le_trans HWS.out hb.size)
  replace HC := Lib.hid (HC.out.below hb)
  replace HZ5 := Lib.hid (HZ5.out.below (by simp) hb)
  replace HZ6 := Lib.hid (HZ6.out.below (by simp) hb)
  clear hb
  have HK := Lib.hid ho
  clear ho hz1 hsz
  focus (try go_wp2_with fail)
  refine hK.out _ _ ⟨(cely HX.out HZE.out HZZ.out).six, (cely HY.out HZE.out HZZ.out).five⟩ (fun hHeld => ?_)
  clear hK K
  try simp only [Act.put, List.setIfInBounds_toArray, List.set_cons_zero, List.set_cons_succ]
  rotate_left 1
  go_simp
  have hone := cel_new wc (.int .i64 0) (.int .i64 0) (.int .i64 0) (.bool false) (.slice none 0 0) 30
  have hb : Below wc.heap.size wc (wc.alloc (.cells #[.int .i64 0, .int .i64 0, .int .i64 0, .bool false, .slice none 0 0] 30)) := (Below.refl _ _).alloc (Nat.le_refl _) _
  obtain ⟨g6, hg6⟩ : ∃ g, wc.heap.size = g := ⟨_, rfl⟩
  have hzz := HWS.out
  rw [hg6] at hzz
  have HDM6 := Lib.hid (HC.out.offm (.inr (Nat.le_of_eq hg6)))
  obtain ⟨wn, hwn⟩ : ∃ X, wc.alloc (.cells #[.int .i64 0, .int .i64 0, .int .i64 0, .bool false, .slice none 0 0] 30) = X := ⟨_, rfl⟩
  rw [hwn, hg6] at hone
  rw [hwn] at hb
  rw [hwn, hg6]
  clear hwn hg6
  replace HZZ := Lib.hid (below_aside HZZ.out (Aside.of_all hb : Aside (fun _ => False) _ _) (fun k hk => ⟨Nat.lt_of_lt_of_le hk HWS.out, id⟩))
  replace HWS := Lib.hid (Nat.le_trans HWS.out hb.size)
  replace HC := Lib.hid (HC.out.below hb)
  clear hb
  have HZ6 := Lib.hid hone
  have HB6 := Lib.hid hzz
  clear hone hzz
  obtain ⟨wc, hwc⟩ : ∃ X, wn = X := ⟨_, rfl⟩
  rw [hwc] at HZZ HWS HZ6 HC ⊢
  clear hwc
  refine hK.out _ _ ⟨(cely HX.out HZE.out HZZ.out).six, (cely HY.out HZE.out HZZ.out).five⟩ (fun hHeld => ?_)
  clear hK K
  try simp only [Act.put, List.setIfInBounds_toArray, List.set_cons_zero, List.set_cons_succ]
  refine wpAnyH_ready (rs := [3, 4]) (by kernel_rfl) (by simp) ?_
  refine AllReadyH.cons (o := { dst := some 21, op := Op.call { callee := Callee.value (Operand.func 23), args := #[Operand.tmp 20], argTypes := #[30] }, type := 30, pos := "law.go:30", after := #[{ on := 2, ground := Ground.data }, { on := 1, ground := Ground.chain }], guard := none }) rfl (fun K hK => ?_) (AllReadyH.cons (o := { dst := some 5, op := Op.alloc 25, type := 0, pos := "law.go:30", after := #[], guard := none }) rfl (fun K hK => ?_) (AllReadyH.nil))
  go_simp
  obtain ⟨z1, hz1⟩ : ∃ g, wc.heap.size = g := ⟨_, rfl⟩
  have hsz := HWS.out
  rw [hz1] at hsz
  have hq6 := HZ6.out.lt (by simp)
  rw [hz1] at hq6
  refine (copyE2_any (egy HE.out HZE.out HZZ.out) HWS.out (by have := HEL.out.1; omega)).mono ?_; rintro e0 wc ⟨qv, rfl, ho, hb⟩
  rw [hz1] at ho
  obtain ⟨ob, od, hqv⟩ := egw_shape ho
  subst hqv
  have HDE6 := Lib.hid (ho.offe (.inl hq6))
  clear hq6
  replace HZZ := Lib.hid (below_aside HZZ.out (Aside.of_all hb : Aside (fun _ => False) _ _) (fun k hk => ⟨Nat.lt_of_lt_of_le hk HWS.out, id⟩))
  replace HWS := Lib.hid (Nat.le_trans HWS.out hb.size)
  replace HC := Lib.hid (HC.out.below hb)
  replace HZ6 := Lib.hid (HZ6.out.below (by simp) hb)
  clear hb
  have HK := Lib.hid ho
  clear ho hz1 hsz
  focus (try go_wp2_with fail)
  refine hK.out _ _ ⟨(cely HX.out HZE.out HZZ.out).six, (cely HY.out HZE.out HZZ.out).five⟩ (fun hHeld => ?_)
  clear hK K
  try simp only [Act.put, List.setIfInBounds_toArray, List.set_cons_zero, List.set_cons_succ]
  refine wpAnyH_ready (rs := [4]) (by kernel_rfl) (by simp) ?_
  refine AllReadyH.cons (o := { dst := some 5, op := Op.alloc 25, type := 0, pos := "law.go:30", after := #[], guard := none }) rfl (fun K hK => ?_) (AllReadyH.nil)
  go_simp
  have hone := cel_new6 wc (.int .i64 0) (.int .i64 0) (.slice none 0 0) (.slice none 0 0) (.slice none 0 0) (.slice none 0 0) 25
  have hb : Below wc.heap.size wc (wc.alloc (.cells #[.int .i64 0, .int .i64 0, .slice none 0 0, .slice none 0 0, .slice none 0 0, .slice none 0 0] 25)) := (Below.refl _ _).alloc (Nat.le_refl _) _
  obtain ⟨g5, hg5⟩ : ∃ g, wc.heap.size = g := ⟨_, rfl⟩
  have hzz := HWS.out
  rw [hg5] at hzz
  have HDM5 := Lib.hid (HC.out.offm (.inr (Nat.le_of_eq hg5)))
  have HDE5 := Lib.hid (HK.out.offe (.inr (Nat.le_of_eq hg5)))
  have HDD := Lib.hid (show g5 ≠ g6 by have := HZ6.out.lt (by simp); omega)
  obtain ⟨wn, hwn⟩ : ∃ X, wc.alloc (.cells #[.int .i64 0, .int .i64 0, .slice none 0 0, .slice none 0 0, .slice none 0 0, .slice none 0 0] 25) = X := ⟨_, rfl⟩
  rw [hwn, hg5] at hone
  rw [hwn] at hb
  rw [hwn, hg5]
  clear hwn hg5
  replace HZZ := Lib.hid (below_aside HZZ.out (Aside.of_all hb : Aside (fun _ => False) _ _) (fun k hk => ⟨Nat.lt_of_lt_of_le hk HWS.out, id⟩))
  replace HWS := Lib.hid (Nat.le_trans HWS.out hb.size)
  replace HC := Lib.hid (HC.out.below hb)
  replace HK := Lib.hid (HK.out.below hb)
  replace HZ6 := Lib.hid (HZ6.out.below (by simp) hb)
  clear hb
  have HZ5 := Lib.hid hone
  have HB5 := Lib.hid hzz
  clear hone hzz
  obtain ⟨wc, hwc⟩ : ∃ X, wn = X := ⟨_, rfl⟩
  rw [hwc] at HZZ HWS HZ5 HC HK HZ6 ⊢
  clear hwc
  refine hK.out _ _ ⟨(cely HX.out HZE.out HZZ.out).six, (cely HY.out HZE.out HZZ.out).five⟩ (fun hHeld => ?_)
  clear hK K
  try simp only [Act.put, List.setIfInBounds_toArray, List.set_cons_zero, List.set_cons_succ]
  rotate_left 1
  go_simp
  have hone := cel_new6 wc (.int .i64 0) (.int .i64 0) (.slice none 0 0) (.slice none 0 0) (.slice none 0 0) (.slice none 0 0) 25
  have hb : Below wc.heap.size wc (wc.alloc (.cells #[.int .i64 0, .int .i64 0, .slice none 0 0, .slice none 0 0, .slice none 0 0, .slice none 0 0] 25)) := (Below.refl _ _).alloc (Nat.le_refl _) _
  obtain ⟨g5, hg5⟩ : ∃ g, wc.heap.size = g := ⟨_, rfl⟩
  have hzz := HWS.out
  rw [hg5] at hzz
  have HDM5 := Lib.hid (HC.out.offm (.inr (Nat.le_of_eq hg5)))
  have HDD := Lib.hid (show g5 ≠ g6 by have := HZ6.out.lt (by simp); omega)
  obtain ⟨wn, hwn⟩ : ∃ X, wc.alloc (.cells #[.int .i64 0, .int .i64 0, .slice none 0 0, .slice none 0 0, .slice none 0 0, .slice none 0 0] 25) = X := ⟨_, rfl⟩
  rw [hwn, hg5] at hone
  rw [hwn] at hb
  rw [hwn, hg5]
  clear hwn hg5
  replace HZZ := Lib.hid (below_aside HZZ.out (Aside.of_all hb : Aside (fun _ => False) _ _) (fun k hk => ⟨Nat.lt_of_lt_of_le hk HWS.out, id⟩))
  replace HWS := Lib.hid (Nat.le_trans HWS.out hb.size)
  replace HC := Lib.hid (HC.out.below hb)
  replace HZ6 := Lib.hid (HZ6.out.below (by simp) hb)
  clear hb
  have HZ5 := Lib.hid hone
  have HB5 := Lib.hid hzz
  clear hone hzz
  obtain ⟨wc, hwc⟩ : ∃ X, wn = X := ⟨_, rfl⟩
  rw [hwc] at HZZ HWS HZ5 HC HZ6 ⊢
  clear hwc
  refine hK.out _ _ ⟨(cely HX.out HZE.out HZZ.out).six, (cely HY.out HZE.out HZZ.out).five⟩ (fun hHeld => ?_)
  clear hK K
  try simp only [Act.put, List.setIfInBounds_toArray, List.set_cons_zero, List.set_cons_succ]
  refine wpAnyH_ready (rs := [3]) (by kernel_rfl) (by simp) ?_
  refine AllReadyH.cons (o := { dst := some 21, op := Op.call { callee := Callee.value (Operand.func 23), args := #[Operand.tmp 20], argTypes := #[30] }, type := 30, pos := "law.go:30", after := #[{ on := 2, ground := Ground.data }, { on := 1, ground := Ground.chain }], guard := none }) rfl (fun K hK => ?_) (AllReadyH.nil)
  go_simp
  obtain ⟨z1, hz1⟩ : ∃ g, wc.heap.size = g := ⟨_, rfl⟩
  have hsz := HWS.out
  rw [hz1] at hsz
  have hq5 := HZ5.out.lt (by simp)
  rw [hz1] at hq5
  have hq6 := HZ6.out.lt (by simp)
  rw [hz1] at hq6
  refine (copyE2_any (egy HE.out HZE.out HZZ.out) HWS.out (by have := HEL.out.1; omega)).mono ?_; rintro e0 wc ⟨qv, rfl, ho, hb⟩
  rw [hz1] at ho
  obtain ⟨ob, od, hqv⟩ := egw_shape ho
  subst hqv
  have HDE5 := Lib.hid (ho.offe (.inl hq5))
  clear hq5
  have HDE6 := Lib.hid (ho.offe (.inl hq6))
  clear hq6
  replace HZZ := Lib.hid (below_aside HZZ.out (Aside.of_all hb : Aside (fun _ => False) _ _) (fun k hk => ⟨Nat.lt_of_lt_of_le hk HWS.out, id⟩))
  replace HWS := Lib.hid (Nat.le_trans HWS.out hb.size)
  replace HC := Lib.hid (HC.out.below hb)
  replace HZ5 := Lib.hid (HZ5.out.below (by simp) hb)
  replace HZ6 := Lib.hid (HZ6.out.below (by simp) hb)
  clear hb
  have HK := Lib.hid ho
  clear ho hz1 hsz
  focus (try go_wp2_with fail)
  refine hK.out _ _ ⟨(cely HX.out HZE.out HZZ.out).six, (cely HY.out HZE.out HZZ.out).five⟩ (fun hHeld => ?_)
  clear hK K
  try simp only [Act.put, List.setIfInBounds_toArray, List.set_cons_zero, List.set_cons_succ]
  rotate_left 1
  go_simp
  have hone := cel_new6 wc (.int .i64 0) (.int .i64 0) (.slice none 0 0) (.slice none 0 0) (.slice none 0 0) (.slice none 0 0) 25
  have hb : Below wc.heap.size wc (wc.alloc (.cells #[.int .i64 0, .int .i64 0, .slice none 0 0, .slice none 0 0, .slice none 0 0, .slice none 0 0] 25)) := (Below.refl _ _).alloc (Nat.le_refl _) _
  obtain ⟨g5, hg5⟩ : ∃ g, wc.heap.size = g := ⟨_, rfl⟩
  have hzz := HWS.out
  rw [hg5] at hzz
  obtain ⟨wn, hwn⟩ : ∃ X, wc.alloc (.cells #[.int .i64 0, .int .i64 0, .slice none 0 0, .slice none 0 0, .slice none 0 0, .slice none 0 0] 25) = X := ⟨_, rfl⟩
  rw [hwn, hg5] at hone
  rw [hwn] at hb
  rw [hwn, hg5]
  clear hwn hg5
  replace HZZ := Lib.hid (below_aside HZZ.out (Aside.of_all hb : Aside (fun _ => False) _ _) (fun k hk => ⟨Nat.lt_of_lt_of_le hk HWS.out, id⟩))
  replace HWS := Lib.hid (Nat.le_trans HWS.out hb.size)
  clear hb
  have HZ5 := Lib.hid hone
  have HB5 := Lib.hid hzz
  clear hone hzz
  obtain ⟨wc, hwc⟩ : ∃ X, wn = X := ⟨_, rfl⟩
  rw [hwc] at HZZ HWS HZ5 ⊢
  clear hwc
  refine hK.out _ _ ⟨(cely HX.out HZE.out HZZ.out).six, (cely HY.out HZE.out HZZ.out).five⟩ (fun hHeld => ?_)
  clear hK K
  try simp only [Act.put, List.setIfInBounds_toArray, List.set_cons_zero, List.set_cons_succ]
  refine wpAnyH_ready (rs := [1, 5]) (by kernel_rfl) (by simp) ?_
  refine AllReadyH.cons (o := { dst := some 19, op := Op.call { callee := Callee.value (Operand.func 8), args := #[Operand.tmp 18], argTypes := #[25] }, type := 25, pos := "law.go:30", after := #[{ on := 0, ground := Ground.data }], guard := none }) rfl (fun K hK => ?_) (AllReadyH.cons (o := { dst := some 6, op := Op.alloc 30, type := 0, pos := "law.go:30", after := #[], guard := none }) rfl (fun K hK => ?_) (AllReadyH.nil))
  go_simp
  obtain ⟨z1, hz1⟩ : ∃ g, wc.heap.size = g := ⟨_, rfl⟩
  have hsz := HWS.out
  rw [hz1] at hsz
  have hq5 := HZ5.out.lt (by simp)
  rw [hz1] at hq5
  refine (copyM_any (mgy HM.out HZE.out HZZ.out) HWS.out HMI.out.1).mono ?_; rintro e0 wc ⟨qv, rfl, ho, hb⟩
  rw [hz1] at ho
  obtain ⟨b1, c1, b2, c2, b3, c3, b4, c4, hqv⟩ := cpm_shape ho
  rw [HI0.out, HF0.out, HLQ.out, HLA.out, HLN.out, HLR.out] at hqv
  subst hqv
  have HDM5 := Lib.hid (ho.offm (.inl hq5))
  clear hq5
  replace HZZ := Lib.hid (below_aside HZZ.out (Aside.of_all hb : Aside (fun _ => False) _ _) (fun k hk => ⟨Nat.lt_of_lt_of_le hk HWS.out, id⟩))
  replace HWS := Lib.hid (Nat.le_trans HWS.out hb.size)
  replace HZ5 := Lib.hid (HZ5.out.below (by simp) hb)
  clear hb
  have HC := Lib.hid ho
  clear ho hz1 hsz
  focus (try go_wp2_with fail)
  refine hK.out _ _ ⟨(cely HX.out HZE.out HZZ.out).six, (cely HY.out HZE.out HZZ.out).five⟩ (fun hHeld => ?_)
  clear hK K
  try simp only [Act.put, List.setIfInBounds_toArray, List.set_cons_zero, List.set_cons_succ]
  refine wpAnyH_ready (rs := [3, 5]) (by kernel_rfl) (by simp) ?_
  refine AllReadyH.cons (o := { dst := some 21, op := Op.call { callee := Callee.value (Operand.func 23), args := #[Operand.tmp 20], argTypes := #[30] }, type := 30, pos := "law.go:30", after := #[{ on := 2, ground := Ground.data }, { on := 1, ground := Ground.chain }], guard := none }) rfl (fun K hK => ?_) (AllReadyH.cons (o := { dst := some 6, op := Op.alloc 30, type := 0, pos := "law.go:30", after := #[], guard := none }) rfl (fun K hK => ?_) (AllReadyH.nil))
  go_simp
  obtain ⟨z1, hz1⟩ : ∃ g, wc.heap.size = g := ⟨_, rfl⟩
  have hsz := HWS.out
  rw [hz1] at hsz
  have hq5 := HZ5.out.lt (by simp)
  rw [hz1] at hq5
  refine (copyE2_any (egy HE.out HZE.out HZZ.out) HWS.out (by have := HEL.out.1; omega)).mono ?_; rintro e0 wc ⟨qv, rfl, ho, hb⟩
  rw [hz1] at ho
  obtain ⟨ob, od, hqv⟩ := egw_shape ho
  subst hqv
  have HDE5 := Lib.hid (ho.offe (.inl hq5))
  clear hq5
  replace HZZ := Lib.hid (below_aside HZZ.out (Aside.of_all hb : Aside (fun _ => False) _ _) (fun k hk => ⟨Nat.lt_of_lt_of_le hk HWS.out, id⟩))
  replace HWS := Lib.hid (Nat.le_trans HWS.out hb.size)
  replace HC := Lib.hid (HC.out.below hb)
  replace HZ5 := Lib.hid (HZ5.out.below (by simp) hb)
  clear hb
  have HK := Lib.hid ho
  clear ho hz1 hsz
  focus (try go_wp2_with fail)
  refine hK.out _ _ ⟨(cely HX.out HZE.out HZZ.out).six, (cely HY.out HZE.out HZZ.out).five⟩ (fun hHeld => ?_)
  clear hK K
  try simp only [Act.put, List.setIfInBounds_toArray, List.set_cons_zero, List.set_cons_succ]
  refine wpAnyH_ready (rs := [5]) (by kernel_rfl) (by simp) ?_
  refine AllReadyH.cons (o := { dst := some 6, op := Op.alloc 30, type := 0, pos := "law.go:30", after := #[], guard := none }) rfl (fun K hK => ?_) (AllReadyH.nil)
  go_simp
  have hone := cel_new wc (.int .i64 0) (.int .i64 0) (.int .i64 0) (.bool false) (.slice none 0 0) 30
  have hb : Below wc.heap.size wc (wc.alloc (.cells #[.int .i64 0, .int .i64 0, .int .i64 0, .bool false, .slice none 0 0] 30)) := (Below.refl _ _).alloc (Nat.le_refl _) _
  obtain ⟨g6, hg6⟩ : ∃ g, wc.heap.size = g := ⟨_, rfl⟩
  have hzz := HWS.out
  rw [hg6] at hzz
  have HDM6 := Lib.hid (HC.out.offm (.inr (Nat.le_of_eq hg6)))
  have HDE6 := Lib.hid (HK.out.offe (.inr (Nat.le_of_eq hg6)))
  have HDD := Lib.hid (show g5 ≠ g6 by have := HZ5.out.lt (by simp); omega)
  obtain ⟨wn, hwn⟩ : ∃ X, wc.alloc (.cells #[.int .i64 0, .int .i64 0, .int .i64 0, .bool false, .slice none 0 0] 30) = X := ⟨_, rfl⟩
  rw [hwn, hg6] at hone
  rw [hwn] at hb
  rw [hwn, hg6]
  clear hwn hg6
  replace HZZ := Lib.hid (below_aside HZZ.out (Aside.of_all hb : Aside (fun _ => False) _ _) (fun k hk => ⟨Nat.lt_of_lt_of_le hk HWS.out, id⟩))
  replace HWS := Lib.hid (Nat.le_trans HWS.out hb.size)
  replace HC := Lib.hid (HC.out.below hb)
  replace HK := Lib.hid (HK.out.below hb)
  replace HZ5 := Lib.hid (HZ5.out.below (by simp) hb)
  clear hb
  have HZ6 := Lib.hid hone
  have HB6 := Lib.hid hzz
  clear hone hzz
  obtain ⟨wc, hwc⟩ : ∃ X, wn = X := ⟨_, rfl⟩
  rw [hwc] at HZZ HWS HZ6 HC HK HZ5 ⊢
  clear hwc
  refine hK.out _ _ ⟨(cely HX.out HZE.out HZZ.out).six, (cely HY.out HZE.out HZZ.out).five⟩ (fun hHeld => ?_)
  clear hK K
  try simp only [Act.put, List.setIfInBounds_toArray, List.set_cons_zero, List.set_cons_succ]
  rotate_left 1
  go_simp
  have hone := cel_new wc (.int .i64 0) (.int .i64 0) (.int .i64 0) (.bool false) (.slice none 0 0) 30
  have hb : Below wc.heap.size wc (wc.alloc (.cells #[.int .i64 0, .int .i64 0, .int .i64 0, .bool false, .slice none 0 0] 30)) := (Below.refl _ _).alloc (Nat.le_refl _) _
  obtain ⟨g6, hg6⟩ : ∃ g, wc.heap.size = g := ⟨_, rfl⟩
  have hzz := HWS.out
  rw [hg6] at hzz
  have HDM6 := Lib.hid (HC.out.offm (.inr (Nat.le_of_eq hg6)))
  have HDD := Lib.hid (show g5 ≠ g6 by have := HZ5.out.lt (by simp); omega)
  obtain ⟨wn, hwn⟩ : ∃ X, wc.alloc (.cells #[.int .i64 0, .int .i64 0, .int .i64 0, .bool false, .slice none 0 0] 30) = X := ⟨_, rfl⟩
  rw [hwn, hg6] at hone
  rw [hwn] at hb
  rw [hwn, hg6]
  clear hwn hg6
  replace HZZ := Lib.hid (below_aside HZZ.out (Aside.of_all hb : Aside (fun _ => False) _ _) (fun k hk => ⟨Nat.lt_of_lt_of_le hk HWS.out, id⟩))
  replace HWS := Lib.hid (Nat.le_trans HWS.out hb.size)
  replace HC := Lib.hid (HC.out.below hb)
  replace HZ5 := Lib.hid (HZ5.out.below (by simp) hb)
  clear hb
  have HZ6 := Lib.hid hone
  have HB6 := Lib.hid hzz
  clear hone hzz
  obtain ⟨wc, hwc⟩ : ∃ X, wn = X := ⟨_, rfl⟩
  rw [hwc] at HZZ HWS HZ6 HC HZ5 ⊢
  clear hwc
  refine hK.out _ _ ⟨(cely HX.out HZE.out HZZ.out).six, (cely HY.out HZE.out HZZ.out).five⟩ (fun hHeld => ?_)
  clear hK K
  try simp only [Act.put, List.setIfInBounds_toArray, List.set_cons_zero, List.set_cons_succ]
  refine wpAnyH_ready (rs := [3]) (by kernel_rfl) (by simp) ?_
  refine AllReadyH.cons (o := { dst := some 21, op := Op.call { callee := Callee.value (Operand.func 23), args := #[Operand.tmp 20], argTypes := #[30] }, type := 30, pos := "law.go:30", after := #[{ on := 2, ground := Ground.data }, { on := 1, ground := Ground.chain }], guard := none }) rfl (fun K hK => ?_) (AllReadyH.nil)
  go_simp
  obtain ⟨z1, hz1⟩ : ∃ g, wc.heap.size = g := ⟨_, rfl⟩
  have hsz := HWS.out
  rw [hz1] at hsz
  have hq5 := HZ5.out.lt (by simp)
  rw [hz1] at hq5
  have hq6 := HZ6.out.lt (by simp)
  rw [hz1] at hq6
  refine (copyE2_any (egy HE.out HZE.out HZZ.out) HWS.out (by have := HEL.out.1; omega)).mono ?_; rintro e0 wc ⟨qv, rfl, ho, hb⟩
  rw [hz1] at ho
  obtain ⟨ob, od, hqv⟩ := egw_shape ho
  subst hqv
  have HDE5 := Lib.hid (ho.offe (.inl hq5))
  clear hq5
  have HDE6 := Lib.hid (ho.offe (.inl hq6))
  clear hq6
  replace HZZ := Lib.hid (below_aside HZZ.out (Aside.of_all hb : Aside (fun _ => False) _ _) (fun k hk => ⟨Nat.lt_of_lt_of_le hk HWS.out, id⟩))
  replace HWS := Lib.hid (Nat.le_trans HWS.out hb.size)
  replace HC := Lib.hid (HC.out.below hb)
  replace HZ5 := Lib.hid (HZ5.out.below (by simp) hb)
  replace HZ6 := Lib.hid (HZ6.out.below (by simp) hb)
  clear hb
  have HK := Lib.hid ho
  clear ho hz1 hsz
  focus (try go_wp2_with fail)
  refine hK.out _ _ ⟨(cely HX.out HZE.out HZZ.out).six, (cely HY.out HZE.out HZZ.out).five⟩ (fun hHeld => ?_)
  clear hK K
  try simp only [Act.put, List.setIfInBounds_toArray, List.set_cons_zero, List.set_cons_succ]
  rotate_left 1
  go_simp
  have hone := cel_new wc (.int .i64 0) (.int .i64 0) (.int .i64 0) (.bool false) (.slice none 0 0) 30
  have hb : Below wc.heap.size wc (wc.alloc (.cells #[.int .i64 0, .int .i64 0, .int .i64 0, .bool false, .slice none 0 0] 30)) := (Below.refl _ _).alloc (Nat.le_refl _) _
  obtain ⟨g6, hg6⟩ : ∃ g, wc.heap.size = g := ⟨_, rfl⟩
  have hzz := HWS.out
  rw [hg6] at hzz
  have HDD := Lib.hid (show g5 ≠ g6 by have := HZ5.out.lt (by simp); omega)
  obtain ⟨wn, hwn⟩ : ∃ X, wc.alloc (.cells #[.int .i64 0, .int .i64 0, .int .i64 0, .bool false, .slice none 0 0] 30) = X := ⟨_, rfl⟩
  rw [hwn, hg6] at hone
  rw [hwn] at hb
  rw [hwn, hg6]
  clear hwn hg6
  replace HZZ := Lib.hid (below_aside HZZ.out (Aside.of_all hb : Aside (fun _ => False) _ _) (fun k hk => ⟨Nat.lt_of_lt_of_le hk HWS.out, id⟩))
  replace HWS := Lib.hid (Nat.le_trans HWS.out hb.size)
  replace HZ5 := Lib.hid (HZ5.out.below (by simp) hb)
  clear hb
  have HZ6 := Lib.hid hone
  have HB6 := Lib.hid hzz
  clear hone hzz
  obtain ⟨wc, hwc⟩ : ∃ X, wn = X := ⟨_, rfl⟩
  rw [hwc] at HZZ HWS HZ6 HZ5 ⊢
  clear hwc
  refine hK.out _ _ ⟨(cely HX.out HZE.out HZZ.out).six, (cely HY.out HZE.out HZZ.out).five⟩ (fun hHeld => ?_)
  clear hK K
  try simp only [Act.put, List.setIfInBounds_toArray, List.set_cons_zero, List.set_cons_succ]
  refine wpAnyH_ready (rs := [1]) (by kernel_rfl) (by simp) ?_
  refine AllReadyH.cons (o := { dst := some 19, op := Op.call { callee := Callee.value (Operand.func 8), args := #[Operand.tmp 18], argTypes := #[25] }, type := 25, pos := "law.go:30", after := #[{ on := 0, ground := Ground.data }], guard := none }) rfl (fun K hK => ?_) (AllReadyH.nil)
  go_simp
  obtain ⟨z1, hz1⟩ : ∃ g, wc.heap.size = g := ⟨_, rfl⟩
  have hsz := HWS.out
  rw [hz1] at hsz
  have hq5 := HZ5.out.lt (by simp)
  rw [hz1] at hq5
  have hq6 := HZ6.out.lt (by simp)
  rw [hz1] at hq6
  refine (copyM_any (mgy HM.out HZE.out HZZ.out) HWS.out HMI.out.1).mono ?_; rintro e0 wc ⟨qv, rfl, ho, hb⟩
  rw [hz1] at ho
  obtain ⟨b1, c1, b2, c2, b3, c3, b4, c4, hqv⟩ := cpm_shape ho
  rw [HI0.out, HF0.out, HLQ.out, HLA.out, HLN.out, HLR.out] at hqv
  subst hqv
  have HDM5 := Lib.hid (ho.offm (.inl hq5))
  clear hq5
  have HDM6 := Lib.hid (ho.offm (.inl hq6))
  clear hq6
  replace HZZ := Lib.hid (below_aside HZZ.out (Aside.of_all hb : Aside (fun _ => False) _ _) (fun k hk => ⟨Nat.lt_of_lt_of_le hk HWS.out, id⟩))
  replace HWS := Lib.hid (Nat.le_trans HWS.out hb.size)
  replace HZ5 := Lib.hid (HZ5.out.below (by simp) hb)
  replace HZ6 := Lib.hid (HZ6.out.below (by simp) hb)
  clear hb
  have HC := Lib.hid ho
  clear ho hz1 hsz
  focus (try go_wp2_with fail)
  refine hK.out _ _ ⟨(cely HX.out HZE.out HZZ.out).six, (cely HY.out HZE.out HZZ.out).five⟩ (fun hHeld => ?_)
  clear hK K
  try simp only [Act.put, List.setIfInBounds_toArray, List.set_cons_zero, List.set_cons_succ]
  refine wpAnyH_ready (rs := [3]) (by kernel_rfl) (by simp) ?_
  refine AllReadyH.cons (o := { dst := some 21, op := Op.call { callee := Callee.value (Operand.func 23), args := #[Operand.tmp 20], argTypes := #[30] }, type := 30, pos := "law.go:30", after := #[{ on := 2, ground := Ground.data }, { on := 1, ground := Ground.chain }], guard := none }) rfl (fun K hK => ?_) (AllReadyH.nil)
  go_simp
  obtain ⟨z1, hz1⟩ : ∃ g, wc.heap.size = g := ⟨_, rfl⟩
  have hsz := HWS.out
  rw [hz1] at hsz
  have hq5 := HZ5.out.lt (by simp)
  rw [hz1] at hq5
  have hq6 := HZ6.out.lt (by simp)
  rw [hz1] at hq6
  refine (copyE2_any (egy HE.out HZE.out HZZ.out) HWS.out (by have := HEL.out.1; omega)).mono ?_; rintro e0 wc ⟨qv, rfl, ho, hb⟩
  rw [hz1] at ho
  obtain ⟨ob, od, hqv⟩ := egw_shape ho
  subst hqv
  have HDE5 := Lib.hid (ho.offe (.inl hq5))
  clear hq5
  have HDE6 := Lib.hid (ho.offe (.inl hq6))
  clear hq6
  replace HZZ := Lib.hid (below_aside HZZ.out (Aside.of_all hb : Aside (fun _ => False) _ _) (fun k hk => ⟨Nat.lt_of_lt_of_le hk HWS.out, id⟩))
  replace HWS := Lib.hid (Nat.le_trans HWS.out hb.size)
  replace HC := Lib.hid (HC.out.below hb)
  replace HZ5 := Lib.hid (HZ5.out.below (by simp) hb)
  replace HZ6 := Lib.hid (HZ6.out.below (by simp) hb)
  clear hb
  have HK := Lib.hid ho
  clear ho hz1 hsz
  focus (try go_wp2_with fail)
  refine hK.out _ _ ⟨(cely HX.out HZE.out HZZ.out).six, (cely HY.out HZE.out HZZ.out).five⟩ (fun hHeld => ?_)
  clear hK K
  try simp only [Act.put, List.setIfInBounds_toArray, List.set_cons_zero, List.set_cons_succ]
  rotate_left 1
  go_simp
  have hone := cel_new wc (.int .i64 0) (.int .i64 0) (.int .i64 0) (.bool false) (.slice none 0 0) 30
  have hb : Below wc.heap.size wc (wc.alloc (.cells #[.int .i64 0, .int .i64 0, .int .i64 0, .bool false, .slice none 0 0] 30)) := (Below.refl _ _).alloc (Nat.le_refl _) _
  obtain ⟨g6, hg6⟩ : ∃ g, wc.heap.size = g := ⟨_, rfl⟩
  have hzz := HWS.out
  rw [hg6] at hzz
  obtain ⟨wn, hwn⟩ : ∃ X, wc.alloc (.cells #[.int .i64 0, .int .i64 0, .int .i64 0, .bool false, .slice none 0 0] 30) = X := ⟨_, rfl⟩
  rw [hwn, hg6] at hone
  rw [hwn] at hb
  rw [hwn, hg6]
  clear hwn hg6
  replace HZZ := Lib.hid (below_aside HZZ.out (Aside.of_all hb : Aside (fun _ => False) _ _) (fun k hk => ⟨Nat.lt_of_lt_of_le hk HWS.out, id⟩))
  replace HWS := Lib.hid (Nat.le_trans HWS.out hb.size)
  clear hb
  have HZ6 := Lib.hid hone
  have HB6 := Lib.hid hzz
  clear hone hzz
  obtain ⟨wc, hwc⟩ : ∃ X, wn = X := ⟨_, rfl⟩
  rw [hwc] at HZZ HWS HZ6 ⊢
  clear hwc
  refine hK.out _ _ ⟨(cely HX.out HZE.out HZZ.out).six, (cely HY.out HZE.out HZZ.out).five⟩ (fun hHeld => ?_)
  clear hK K
  try simp only [Act.put, List.setIfInBounds_toArray, List.set_cons_zero, List.set_cons_succ]
  refine wpAnyH_ready (rs := [1, 4]) (by kernel_rfl) (by simp) ?_
  refine AllReadyH.cons (o := { dst := some 19, op := Op.call { callee := Callee.value (Operand.func 8), args := #[Operand.tmp 18], argTypes := #[25] }, type := 25, pos := "law.go:30", after := #[{ on := 0, ground := Ground.data }], guard := none }) rfl (fun K hK => ?_) (AllReadyH.cons (o := { dst := some 5, op := Op.alloc 25, type := 0, pos := "law.go:30", after := #[], guard := none }) rfl (fun K hK => ?_) (AllReadyH.nil))
  go_simp
  obtain ⟨z1, hz1⟩ : ∃ g, wc.heap.size = g := ⟨_, rfl⟩
  have hsz := HWS.out
  rw [hz1] at hsz
  have hq6 := HZ6.out.lt (by simp)
  rw [hz1] at hq6
  refine (copyM_any (mgy HM.out HZE.out HZZ.out) HWS.out HMI.out.1).mono ?_; rintro e0 wc ⟨qv, rfl, ho, hb⟩
  rw [hz1] at ho
  obtain ⟨b1, c1, b2, c2, b3, c3, b4, c4, hqv⟩ := cpm_shape ho
  rw [HI0.out, HF0.out, HLQ.out, HLA.out, HLN.out, HLR.out] at hqv
  subst hqv
  have HDM6 := Lib.hid (ho.offm (.inl hq6))
  clear hq6
  replace HZZ := Lib.hid (below_aside HZZ.out (Aside.of_all hb : Aside (fun _ => False) _ _) (fun k hk => ⟨Nat.lt_of_lt_of_le hk HWS.out, id⟩))
  replace HWS := Lib.hid (Nat.le_trans HWS.out hb.size)
  replace HZ6 := Lib.hid (HZ6.out.below (by simp) hb)
  clear hb
  have HC := Lib.hid ho
  clear ho hz1 hsz
  focus (try go_wp2_with fail)
  refine hK.out _ _ ⟨(cely HX.out HZE.out HZZ.out).six, (cely HY.out HZE.out HZZ.out).five⟩ (fun hHeld => ?_)
  clear hK K
  try simp only [Act.put, List.setIfInBounds_toArray, List.set_cons_zero, List.set_cons_succ]
  refine wpAnyH_ready (rs := [3, 4]) (by kernel_rfl) (by simp) ?_
  refine AllReadyH.cons (o := { dst := some 21, op := Op.call { callee := Callee.value (Operand.func 23), args := #[Operand.tmp 20], argTypes := #[30] }, type := 30, pos := "law.go:30", after := #[{ on := 2, ground := Ground.data }, { on := 1, ground := Ground.chain }], guard := none }) rfl (fun K hK => ?_) (AllReadyH.cons (o := { dst := some 5, op := Op.alloc 25, type := 0, pos := "law.go:30", after := #[], guard := none }) rfl (fun K hK => ?_) (AllReadyH.nil))
  go_simp
  obtain ⟨z1, hz1⟩ : ∃ g, wc.heap.size = g := ⟨_, rfl⟩
  have hsz := HWS.out
  rw [hz1] at hsz
  have hq6 := HZ6.out.lt (by simp)
  rw [hz1] at hq6
  refine (copyE2_any (egy HE.out HZE.out HZZ.out) HWS.out (by have := HEL.out.1; omega)).mono ?_; rintro e0 wc ⟨qv, rfl, ho, hb⟩
  rw [hz1] at ho
  obtain ⟨ob, od, hqv⟩ := egw_shape ho
  subst hqv
  have HDE6 := Lib.hid (ho.offe (.inl hq6))
  clear hq6
  replace HZZ := Lib.hid (below_aside HZZ.out (Aside.of_all hb : Aside (fun _ => False) _ _) (fun k hk => ⟨Nat.lt_of_lt_of_le hk HWS.out, id⟩))
  replace HWS := Lib.hid (Nat.le_trans HWS.out hb.size)
  replace HC := Lib.hid (HC.out.below hb)
  replace HZ6 := Lib.hid (HZ6.out.below (by simp) hb)
  clear hb
  have HK := Lib.hid ho
  clear ho hz1 hsz
  focus (try go_wp2_with fail)
  refine hK.out _ _ ⟨(cely HX.out HZE.out HZZ.out).six, (cely HY.out HZE.out HZZ.out).five⟩ (fun hHeld => ?_)
  clear hK K
  try simp only [Act.put, List.setIfInBounds_toArray, List.set_cons_zero, List.set_cons_succ]
  refine wpAnyH_ready (rs := [4]) (by kernel_rfl) (by simp) ?_
  refine AllReadyH.cons (o := { dst := some 5, op := Op.alloc 25, type := 0, pos := "law.go:30", after := #[], guard := none }) rfl (fun K hK => ?_) (AllReadyH.nil)
  go_simp
  have hone := cel_new6 wc (.int .i64 0) (.int .i64 0) (.slice none 0 0) (.slice none 0 0) (.slice none 0 0) (.slice none 0 0) 25
  have hb : Below wc.heap.size wc (wc.alloc (.cells #[.int .i64 0, .int .i64 0, .slice none 0 0, .slice none 0 0, .slice none 0 0, .slice none 0 0] 25)) := (Below.refl _ _).alloc (Nat.le_refl _) _
  obtain ⟨g5, hg5⟩ : ∃ g, wc.heap.size = g := ⟨_, rfl⟩
  have hzz := HWS.out
  rw [hg5] at hzz
  have HDM5 := Lib.hid (HC.out.offm (.inr (Nat.le_of_eq hg5)))
  have HDE5 := Lib.hid (HK.out.offe (.inr (Nat.le_of_eq hg5)))
  have HDD := Lib.hid (show g5 ≠ g6 by have := HZ6.out.lt (by simp); omega)
  obtain ⟨wn, hwn⟩ : ∃ X, wc.alloc (.cells #[.int .i64 0, .int .i64 0, .slice none 0 0, .slice none 0 0, .slice none 0 0, .slice none 0 0] 25) = X := ⟨_, rfl⟩
  rw [hwn, hg5] at hone
  rw [hwn] at hb
  rw [hwn, hg5]
  clear hwn hg5
  replace HZZ := Lib.hid (below_aside HZZ.out (Aside.of_all hb : Aside (fun _ => False) _ _) (fun k hk => ⟨Nat.lt_of_lt_of_le hk HWS.out, id⟩))
  replace HWS := Lib.hid (Nat.le_trans HWS.out hb.size)
  replace HC := Lib.hid (HC.out.below hb)
  replace HK := Lib.hid (HK.out.below hb)
  replace HZ6 := Lib.hid (HZ6.out.below (by simp) hb)
  clear hb
  have HZ5 := Lib.hid hone
  have HB5 := Lib.hid hzz
  clear hone hzz
  obtain ⟨wc, hwc⟩ : ∃ X, wn = X := ⟨_, rfl⟩
  rw [hwc] at HZZ HWS HZ5 HC HK HZ6 ⊢
  clear hwc
  refine hK.out _ _ ⟨(cely HX.out HZE.out HZZ.out).six, (cely HY.out HZE.out HZZ.out).five⟩ (fun hHeld => ?_)
  clear hK K
  try simp only [Act.put, List.setIfInBounds_toArray, List.set_cons_zero, List.set_cons_succ]
  rotate_left 1
  go_simp
  have hone := cel_new6 wc (.int .i64 0) (.int .i64 0) (.slice none 0 0) (.slice none 0 0) (.slice none 0 0) (.slice none 0 0) 25
  have hb : Below wc.heap.size wc (wc.alloc (.cells #[.int .i64 0, .int .i64 0, .slice none 0 0, .slice none 0 0, .slice none 0 0, .slice none 0 0] 25)) := (Below.refl _ _).alloc (Nat.le_refl _) _
  obtain ⟨g5, hg5⟩ : ∃ g, wc.heap.size = g := ⟨_, rfl⟩
  have hzz := HWS.out
  rw [hg5] at hzz
  have HDM5 := Lib.hid (HC.out.offm (.inr (Nat.le_of_eq hg5)))
  have HDD := Lib.hid (show g5 ≠ g6 by have := HZ6.out.lt (by simp); omega)
  obtain ⟨wn, hwn⟩ : ∃ X, wc.alloc (.cells #[.int .i64 0, .int .i64 0, .slice none 0 0, .slice none 0 0, .slice none 0 0, .slice none 0 0] 25) = X := ⟨_, rfl⟩
  rw [hwn, hg5] at hone
  rw [hwn] at hb
  rw [hwn, hg5]
  clear hwn hg5
  replace HZZ := Lib.hid (below_aside HZZ.out (Aside.of_all hb : Aside (fun _ => False) _ _) (fun k hk => ⟨Nat.lt_of_lt_of_le hk HWS.out, id⟩))
  replace HWS := Lib.hid (Nat.le_trans HWS.out hb.size)
  replace HC := Lib.hid (HC.out.below hb)
  replace HZ6 := Lib.hid (HZ6.out.below (by simp) hb)
  clear hb
  have HZ5 := Lib.hid hone
  have HB5 := Lib.hid hzz
  clear hone hzz
  obtain ⟨wc, hwc⟩ : ∃ X, wn = X := ⟨_, rfl⟩
  rw [hwc] at HZZ HWS HZ5 HC HZ6 ⊢
  clear hwc
  refine hK.out _ _ ⟨(cely HX.out HZE.out HZZ.out).six, (cely HY.out HZE.out HZZ.out).five⟩ (fun hHeld => ?_)
  clear hK K
  try simp only [Act.put, List.setIfInBounds_toArray, List.set_cons_zero, List.set_cons_succ]
  refine wpAnyH_ready (rs := [3]) (by kernel_rfl) (by simp) ?_
  refine AllReadyH.cons (o := { dst := some 21, op := Op.call { callee := Callee.value (Operand.func 23), args := #[Operand.tmp 20], argTypes := #[30] }, type := 30, pos := "law.go:30", after := #[{ on := 2, ground := Ground.data }, { on := 1, ground := Ground.chain }], guard := none }) rfl (fun K hK => ?_) (AllReadyH.nil)
  go_simp
  obtain ⟨z1, hz1⟩ : ∃ g, wc.heap.size = g := ⟨_, rfl⟩
  have hsz := HWS.out
  rw [hz1] at hsz
  have hq5 := HZ5.out.lt (by simp)
  rw [hz1] at hq5
  have hq6 := HZ6.out.lt (by simp)
  rw [hz1] at hq6
  refine (copyE2_any (egy HE.out HZE.out HZZ.out) HWS.out (by have := HEL.out.1; omega)).mono ?_; rintro e0 wc ⟨qv, rfl, ho, hb⟩
  rw [hz1] at ho
  obtain ⟨ob, od, hqv⟩ := egw_shape ho
  subst hqv
  have HDE5 := Lib.hid (ho.offe (.inl hq5))
  clear hq5
  have HDE6 := Lib.hid (ho.offe (.inl hq6))
  clear hq6
  replace HZZ := Lib.hid (below_aside HZZ.out (Aside.of_all hb : Aside (fun _ => False) _ _) (fun k hk => ⟨Nat.lt_of_lt_of_le hk HWS.out, id⟩))
  replace HWS := Lib.hid (Nat.le_trans HWS.out hb.size)
  replace HC := Lib.hid (HC.out.below hb)
  replace HZ5 := Lib.hid (HZ5.out.below (by simp) hb)
  replace HZ6 := Lib.hid (HZ6.out.below (by simp) hb)
  clear hb
  have HK := Lib.hid ho
  clear ho hz1 hsz
  focus (try go_wp2_with fail)
  refine hK.out _ _ ⟨(cely HX.out HZE.out HZZ.out).six, (cely HY.out HZE.out HZZ.out).five⟩ (fun hHeld => ?_)
  clear hK K
  try simp only [Act.put, List.setIfInBounds_toArray, List.set_cons_zero, List.set_cons_succ]
  rotate_left 1
  go_simp
  have hone := cel_new6 wc (.int .i64 0) (.int .i64 0) (.slice none 0 0) (.slice none 0 0) (.slice none 0 0) (.slice none 0 0) 25
  have hb : Below wc.heap.size wc (wc.alloc (.cells #[.int .i64 0, .int .i64 0, .slice none 0 0, .slice none 0 0, .slice none 0 0, .slice none 0 0] 25)) := (Below.refl _ _).alloc (Nat.le_refl _) _
  obtain ⟨g5, hg5⟩ : ∃ g, wc.heap.size = g := ⟨_, rfl⟩
  have hzz := HWS.out
  rw [hg5] at hzz
  have HDD := Lib.hid (show g5 ≠ g6 by have := HZ6.out.lt (by simp); omega)
  obtain ⟨wn, hwn⟩ : ∃ X, wc.alloc (.cells #[.int .i64 0, .int .i64 0, .slice none 0 0, .slice none 0 0, .slice none 0 0, .slice none 0 0] 25) = X := ⟨_, rfl⟩
  rw [hwn, hg5] at hone
  rw [hwn] at hb
  rw [hwn, hg5]
  clear hwn hg5
  replace HZZ := Lib.hid (below_aside HZZ.out (Aside.of_all hb : Aside (fun _ => False) _ _) (fun k hk => ⟨Nat.lt_of_lt_of_le hk HWS.out, id⟩))
  replace HWS := Lib.hid (Nat.le_trans HWS.out hb.size)
  replace HZ6 := Lib.hid (HZ6.out.below (by simp) hb)
  clear hb
  have HZ5 := Lib.hid hone
  have HB5 := Lib.hid hzz
  clear hone hzz
  obtain ⟨wc, hwc⟩ : ∃ X, wn = X := ⟨_, rfl⟩
  rw [hwc] at HZZ HWS HZ5 HZ6 ⊢
  clear hwc
  refine hK.out _ _ ⟨(cely HX.out HZE.out HZZ.out).six, (cely HY.out HZE.out HZZ.out).five⟩ (fun hHeld => ?_)
  clear hK K
  try simp only [Act.put, List.setIfInBounds_toArray, List.set_cons_zero, List.set_cons_succ]
  refine wpAnyH_ready (rs := [1]) (by kernel_rfl) (by simp) ?_
  refine AllReadyH.cons (o := { dst := some 19, op := Op.call { callee := Callee.value (Operand.func 8), args := #[Operand.tmp 18], argTypes := #[25] }, type := 25, pos := "law.go:30", after := #[{ on := 0, ground := Ground.data }], guard := none }) rfl (fun K hK => ?_) (AllReadyH.nil)
  go_simp
  obtain ⟨z1, hz1⟩ : ∃ g, wc.heap.size = g := ⟨_, rfl⟩
  have hsz := HWS.out
  rw [hz1] at hsz
  have hq5 := HZ5.out.lt (by simp)
  rw [hz1] at hq5
  have hq6 := HZ6.out.lt (by simp)
  rw [hz1] at hq6
  refine (copyM_any (mgy HM.out HZE.out HZZ.out) HWS.out HMI.out.1).mono ?_; rintro e0 wc ⟨qv, rfl, ho, hb⟩
  rw [hz1] at ho
  obtain ⟨b1, c1, b2, c2, b3, c3, b4, c4, hqv⟩ := cpm_shape ho
  rw [HI0.out, HF0.out, HLQ.out, HLA.out, HLN.out, HLR.out] at hqv
  subst hqv
  have HDM5 := Lib.hid (ho.offm (.inl hq5))
  clear hq5
  have HDM6 := Lib.hid (ho.offm (.inl hq6))
  clear hq6
  replace HZZ := Lib.hid (below_aside HZZ.out (Aside.of_all hb : Aside (fun _ => False) _ _) (fun k hk => ⟨Nat.lt_of_lt_of_le hk HWS.out, id⟩))
  replace HWS := Lib.hid (Nat.le_trans HWS.out hb.size)
  replace HZ5 := Lib.hid (HZ5.out.below (by simp) hb)
  replace HZ6 := Lib.hid (HZ6.out.below (by simp) hb)
  clear hb
  have HC := Lib.hid ho
  clear ho hz1 hsz
  focus (try go_wp2_with fail)
  refine hK.out _ _ ⟨(cely HX.out HZE.out HZZ.out).six, (cely HY.out HZE.out HZZ.out).five⟩ (fun hHeld => ?_)
  clear hK K
  try simp only [Act.put, List.setIfInBounds_toArray, List.set_cons_zero, List.set_cons_succ]
  refine wpAnyH_ready (rs := [3]) (by kernel_rfl) (by simp) ?_
  refine AllReadyH.cons (o := { dst := some 21, op := Op.call { callee := Callee.value (Operand.func 23), args := #[Operand.tmp 20], argTypes := #[30] }, type := 30, pos := "law.go:30", after := #[{ on := 2, ground := Ground.data }, { on := 1, ground := Ground.chain }], guard := none }) rfl (fun K hK => ?_) (AllReadyH.nil)
  go_simp
  obtain ⟨z1, hz1⟩ : ∃ g, wc.heap.size = g := ⟨_, rfl⟩
  have hsz := HWS.out
  rw [hz1] at hsz
  have hq5 := HZ5.out.lt (by simp)
  rw [hz1] at hq5
  have hq6 := HZ6.out.lt (by simp)
  rw [hz1] at hq6
  refine (copyE2_any (egy HE.out HZE.out HZZ.out) HWS.out (by have := HEL.out.1; omega)).mono ?_; rintro e0 wc ⟨qv, rfl, ho, hb⟩
  rw [hz1] at ho
  obtain ⟨ob, od, hqv⟩ := egw_shape ho
  subst hqv
  have HDE5 := Lib.hid (ho.offe (.inl hq5))
  clear hq5
  have HDE6 := Lib.hid (ho.offe (.inl hq6))
  clear hq6
  replace HZZ := Lib.hid (below_aside HZZ.out (Aside.of_all hb : Aside (fun _ => False) _ _) (fun k hk => ⟨Nat.lt_of_lt_of_le hk HWS.out, id⟩))
  replace HWS := Lib.hid (Nat.le_trans HWS.out hb.size)
  replace HC := Lib.hid (HC.out.below hb)
  replace HZ5 := Lib.hid (HZ5.out.below (by simp) hb)
  replace HZ6 := Lib.hid (HZ6.out.below (by simp) hb)
  clear hb
  have HK := Lib.hid ho
  clear ho hz1 hsz
  focus (try go_wp2_with fail)
  refine hK.out _ _ ⟨(cely HX.out HZE.out HZZ.out).six, (cely HY.out HZE.out HZZ.out).five⟩ (fun hHeld => ?_)
  clear hK K
  try simp only [Act.put, List.setIfInBounds_toArray, List.set_cons_zero, List.set_cons_succ]
  rotate_left 1
  iterate 12
    · refine wpAnyH_ready (rs := [6]) (by kernel_rfl) (by simp) ?_
      refine AllReadyH.cons (o := { dst := none, op := Op.store 25 (Operand.tmp 5) (Operand.tmp 19), type := 0, pos := "law.go:30", after := #[{ on := 4, ground := Ground.data }, { on := 1, ground := Ground.data }, { on := 3, ground := Ground.chain }, { on := 0, ground := Ground.phase }, { on := 1, ground := Ground.phase }, { on := 2, ground := Ground.textOnly Departure.lateStores }, { on := 3, ground := Ground.textOnly Departure.lateStoresUnsure }, { on := 4, ground := Ground.phase }, { on := 5, ground := Ground.phase }], guard := none }) rfl (fun K hK => ?_) (AllReadyH.nil)
      obtain ⟨z0, z1, z2, z3, z4, z5⟩ := HZ5.out.six
      have fz := HZ5.out.fz
      go_simp
      clear z0 z1 z2 z3 z4 z5 fz
      have k6 := cel_put6 HZ5.out (.int .i64 i0) (.int .i64 f0) (.slice b1 lq c1) (.slice b2 la c2) (.slice b3 ln c3) (.slice b4 lr c4)
      have hst := aside_put6 wc g5 (.int .i64 i0) (.int .i64 f0) (.slice b1 lq c1) (.slice b2 la c2) (.slice b3 ln c3) (.slice b4 lr c4)
      unfold put6 at k6 hst
      obtain ⟨wn, hwn⟩ : ∃ X, (((((wc.setCell ⟨g5, 0, none⟩ (.int .i64 i0)).setCell ⟨g5, 1, none⟩ (.int .i64 f0)).setCell ⟨g5, 2, none⟩ (.slice b1 lq c1)).setCell ⟨g5, 3, none⟩ (.slice b2 la c2)).setCell ⟨g5, 4, none⟩ (.slice b3 ln c3)).setCell ⟨g5, 5, none⟩ (.slice b4 lr c4) = X := ⟨_, rfl⟩
      rw [hwn] at k6 hst ⊢
      clear hwn
      replace HZZ := Lib.hid (below_aside HZZ.out hst (fun k hk => ⟨Nat.lt_of_lt_of_le hk HWS.out, by have := HB5.out; omega⟩))
      replace HWS := Lib.hid (Nat.le_trans HWS.out hst.size)
      replace HC := Lib.hid (HC.out.asideB HDM5.out hst)
      replace HK := Lib.hid (HK.out.asideB HDE5.out hst)
      replace HZ5 := Lib.hid k6
      replace HZ6 := Lib.hid (HZ6.out.aside (by simp) hst (by have := HDD.out; omega))
      clear k6 hst
      obtain ⟨wc, hwc⟩ : ∃ X, wn = X := ⟨_, rfl⟩
      rw [hwc] at HZZ HWS HC HK HZ5 HZ6 ⊢
      clear hwc
      refine hK.out _ _ ⟨(cely HX.out HZE.out HZZ.out).six, (cely HY.out HZE.out HZZ.out).five⟩ (fun hHeld => ?_)
      clear hK K
      try simp only [Act.put, List.setIfInBounds_toArray, List.set_cons_zero, List.set_cons_succ]
      refine wpAnyH_ready (rs := [7]) (by kernel_rfl) (by simp) ?_
      refine AllReadyH.cons (o := { dst := none, op := Op.store 30 (Operand.tmp 6) (Operand.tmp 21), type := 0, pos := "law.go:30", after := #[{ on := 5, ground := Ground.data }, { on := 3, ground := Ground.data }, { on := 6, ground := Ground.chain }, { on := 0, ground := Ground.phase }, { on := 1, ground := Ground.phase }, { on := 2, ground := Ground.phase }, { on := 3, ground := Ground.phase }, { on := 4, ground := Ground.phase }, { on := 5, ground := Ground.phase }, { on := 6, ground := Ground.phase }], guard := none }) rfl (fun K hK => ?_) (AllReadyH.nil)
      obtain ⟨z0, z1, z2, z3, z4⟩ := HZ6.out.five
      have fz := HZ6.out.fz
      go_simp
      clear z0 z1 z2 z3 z4 fz
      have k6 := cel_put5 HZ6.out (.int .i64 ed.s) (.int .i64 ed.x) (.int .i64 ed.v) (.bool ed.b) (.slice ob ed.o.length od)
      have hst := aside_put5 wc g6 (.int .i64 ed.s) (.int .i64 ed.x) (.int .i64 ed.v) (.bool ed.b) (.slice ob ed.o.length od)
      unfold put5 at k6 hst
      obtain ⟨wn, hwn⟩ : ∃ X, ((((wc.setCell ⟨g6, 0, none⟩ (.int .i64 ed.s)).setCell ⟨g6, 1, none⟩ (.int .i64 ed.x)).setCell ⟨g6, 2, none⟩ (.int .i64 ed.v)).setCell ⟨g6, 3, none⟩ (.bool ed.b)).setCell ⟨g6, 4, none⟩ (.slice ob ed.o.length od) = X := ⟨_, rfl⟩
      rw [hwn] at k6 hst ⊢
      clear hwn
      replace HZZ := Lib.hid (below_aside HZZ.out hst (fun k hk => ⟨Nat.lt_of_lt_of_le hk HWS.out, by have := HB6.out; omega⟩))
      replace HWS := Lib.hid (Nat.le_trans HWS.out hst.size)
      replace HC := Lib.hid (HC.out.asideB HDM6.out hst)
      replace HK := Lib.hid (HK.out.asideB HDE6.out hst)
      replace HZ6 := Lib.hid k6
      replace HZ5 := Lib.hid (HZ5.out.aside (by simp) hst (by have := HDD.out; omega))
      clear k6 hst
      obtain ⟨wc, hwc⟩ : ∃ X, wn = X := ⟨_, rfl⟩
      rw [hwc] at HZZ HWS HC HK HZ5 HZ6 ⊢
      clear hwc
      refine hK.out _ _ ⟨(cely HX.out HZE.out HZZ.out).six, (cely HY.out HZE.out HZZ.out).five⟩ (fun hHeld => ?_)
      clear hK K
      try simp only [Act.put, List.setIfInBounds_toArray, List.set_cons_zero, List.set_cons_succ]
      refine wpAnyH_done (by kernel_rfl) ?_ _
      clear hHeld
      clear hwX
      obtain ⟨wP, hwP⟩ : ∃ X, wc = X := ⟨_, rfl⟩
      have HZX := HZZ
      replace HX := Lib.hid (cely HX.out HZE.out HZZ.out)
      replace HY := Lib.hid (cely HY.out HZE.out HZZ.out)
      replace HM := Lib.hid ((mgy HM.out HZE.out HZZ.out).wide HWS.out)
      replace HE := Lib.hid ((egy HE.out HZE.out HZZ.out).wide HWS.out)
      replace HB := Lib.hid (bel_call HB.out (by rw [HZE.out]; exact HZZ.out))
      clear HZZ HWS HZE HZX HDD HDM5 HDM6 HDE5 HDE6 HB5 HB6
      rw [hwP] at HX HY HM HE HB HC HK HZ5 HZ6 ⊢
      clear hwP
      obtain ⟨ZP, hZP⟩ : ∃ Z, wP.heap.size = Z := ⟨_, rfl⟩
      have HZQ := Lib.hid hZP
      obtain ⟨XS, F9, hPU⟩ : ∃ X f, puM m ed = (X, f) := ⟨_, _, rfl⟩
      have HPU := Lib.hid hPU
      have HMX := Lib.hid (show XS.q.length + XS.an.length + XS.ns.length + XS.ar.length ≤ 900000 by have h := puM_tot m ed; rw [hPU] at h; dsimp only at h; have := HTOT.out; omega)
      obtain ⟨xi, hxi⟩ : ∃ y, XS.id = y := ⟨_, rfl⟩
      obtain ⟨xf, hxf⟩ : ∃ y, XS.fl = y := ⟨_, rfl⟩
      obtain ⟨k1, hk1⟩ : ∃ y, XS.q.length = y := ⟨_, rfl⟩
      obtain ⟨k2, hk2⟩ : ∃ y, XS.an.length = y := ⟨_, rfl⟩
      obtain ⟨k3, hk3⟩ : ∃ y, XS.ns.length = y := ⟨_, rfl⟩
      obtain ⟨k4, hk4⟩ : ∃ y, XS.ar.length = y := ⟨_, rfl⟩
      have HXV := Lib.hid (And.intro hxi (And.intro hxf (And.intro hk1 (And.intro hk2 (And.intro hk3 hk4)))))
      clear hxi hxf hk1 hk2 hk3 hk4 hPU hZP
      obtain ⟨c0, c1', c2', c3', c4', c5⟩ := HZ5.out.six
      obtain ⟨d0, d1, d2, d3, d4⟩ := HZ6.out.five
      go_wp2_with fail
      clear c0 c1' c2' c3' c4' c5 d0 d1 d2 d3 d4
      have h := put_any (HC.out.mg HMI.out.1) (Nat.le_refl _) HMI.out HTOT.out (by have h := HC.out.capR; exact h) (HK.out.eg (by have := HEL.out.1; omega)) (Nat.le_refl _) (by have := HEL.out.1; omega) (fun x hx => by have := HEL.out.2 x hx; omega)
      unfold PuPost at h
      rw [HPU.out] at h
      dsimp only at h
      refine h.mono ?_; rintro e wq ⟨v, rfl, hv, hb⟩
      clear h
      have HZP := Lib.hid (show Below ZP wP wq by rw [← HZQ.out]; exact hb)
      have HWP := Lib.hid (show ZP ≤ wq.heap.size by rw [← HZQ.out]; exact hb.size)
      have HR1 := Lib.hid (show OwnM wq ZP _ _ by rw [← HZQ.out]; exact hv)
      obtain ⟨s1, sc1, s2, sc2, s3, sc3, s4, sc4, hqv⟩ := own_shape4 hv
      rw [HXV.out.1, HXV.out.2.1, HXV.out.2.2.1, HXV.out.2.2.2.1, HXV.out.2.2.2.2.1, HXV.out.2.2.2.2.2] at hqv
      subst hqv
      clear hv hb
      have hy := cel_new6 wq (.int .i64 xi) (.int .i64 xf) (.slice s1 k1 sc1) (.slice s2 k2 sc2) (.slice s3 k3 sc3) (.slice s4 k4 sc4) 25
      have hb : Below wq.heap.size wq (wq.alloc (.cells #[.int .i64 xi, .int .i64 xf, .slice s1 k1 sc1, .slice s2 k2 sc2, .slice s3 k3 sc3, .slice s4 k4 sc4] 25)) := (Below.refl _ _).alloc (Nat.le_refl _) _
      replace HZP := Lib.hid (below_aside HZP.out (Aside.of_all hb : Aside (fun _ => False) _ _) (fun k hk => ⟨Nat.lt_of_lt_of_le hk HWP.out, id⟩))
      replace HWP := Lib.hid (Nat.le_trans HWP.out hb.size)
      replace HR1 := Lib.hid (HR1.out.below hb)
      obtain ⟨b8, hgg⟩ : ∃ g, wq.heap.size = g := ⟨_, rfl⟩
      rw [hgg] at hy
      have HZ8 := Lib.hid hy
      clear hy hb
      obtain ⟨c0, c1', c2', c3', c4', c5⟩ := (cely HX.out HZQ.out HZP.out).six
      obtain ⟨d0, d1, d2, d3, d4⟩ := (cely HY.out HZQ.out HZP.out).five
      go_wp2_with fail
      clear c0 c1' c2' c3' c4' c5 d0 d1 d2 d3 d4 hgg
      obtain ⟨wr, hwr⟩ : ∃ X, wq.alloc (.cells #[.int .i64 xi, .int .i64 xf, .slice s1 k1 sc1, .slice s2 k2 sc2, .slice s3 k3 sc3, .slice s4 k4 sc4] 25) = X := ⟨_, rfl⟩
      rw [hwr] at HZP HWP HR1 HZ8 ⊢
      clear hwr
      have h := rput9_any (mgy HM.out HZQ.out HZP.out) HWP.out HMI.out (egy HE.out HZQ.out HZP.out) HWP.out (by have := HEL.out.1; omega) (fun x hx => by have := HEL.out.2 x hx; omega) HTOT.out
      unfold PuPost at h
      rw [HPU.out] at h
      dsimp only at h
      refine h.mono ?_; rintro e wq ⟨v, rfl, hv, hb⟩
      clear h
      have HR2 := Lib.hid (hv.base HWP.out)
      obtain ⟨t1, tc1, t2, tc2, t3, tc3, t4, tc4, hqv⟩ := own_shape4 hv
      rw [HXV.out.1, HXV.out.2.1, HXV.out.2.2.1, HXV.out.2.2.2.1, HXV.out.2.2.2.2.1, HXV.out.2.2.2.2.2] at hqv
      subst hqv
      replace HZP := Lib.hid (below_aside HZP.out (Aside.of_all hb : Aside (fun _ => False) _ _) (fun k hk => ⟨Nat.lt_of_lt_of_le hk HWP.out, id⟩))
      replace HWP := Lib.hid (Nat.le_trans HWP.out hb.size)
      replace HR1 := Lib.hid (HR1.out.below hb)
      replace HZ8 := Lib.hid (HZ8.out.below (by simp) hb)
      clear hv hb
      have hy := cel_new6 wq (.int .i64 xi) (.int .i64 xf) (.slice t1 k1 tc1) (.slice t2 k2 tc2) (.slice t3 k3 tc3) (.slice t4 k4 tc4) 25
      have hb : Below wq.heap.size wq (wq.alloc (.cells #[.int .i64 xi, .int .i64 xf, .slice t1 k1 tc1, .slice t2 k2 tc2, .slice t3 k3 tc3, .slice t4 k4 tc4] 25)) := (Below.refl _ _).alloc (Nat.le_refl _) _
      replace HZP := Lib.hid (below_aside HZP.out (Aside.of_all hb : Aside (fun _ => False) _ _) (fun k hk => ⟨Nat.lt_of_lt_of_le hk HWP.out, id⟩))
      replace HWP := Lib.hid (Nat.le_trans HWP.out hb.size)
      replace HR1 := Lib.hid (HR1.out.below hb)
      replace HR2 := Lib.hid (HR2.out.below hb)
      replace HZ8 := Lib.hid (HZ8.out.below (by simp) hb)
      obtain ⟨b9, hgg⟩ : ∃ g, wq.heap.size = g := ⟨_, rfl⟩
      rw [hgg] at hy
      have HZ9 := Lib.hid hy
      clear hy hb
      go_wp2_with fail
      clear hgg
      obtain ⟨wd, hwd⟩ : ∃ X, (wq.alloc (.cells #[.int .i64 xi, .int .i64 xf, .slice t1 k1 tc1, .slice t2 k2 tc2, .slice t3 k3 tc3, .slice t4 k4 tc4] 25)).drew = X := ⟨_, rfl⟩
      have hb : Below (wq.alloc (.cells #[.int .i64 xi, .int .i64 xf, .slice t1 k1 tc1, .slice t2 k2 tc2, .slice t3 k3 tc3, .slice t4 k4 tc4] 25)).heap.size (wq.alloc (.cells #[.int .i64 xi, .int .i64 xf, .slice t1 k1 tc1, .slice t2 k2 tc2, .slice t3 k3 tc3, .slice t4 k4 tc4] 25)) wd := by rw [← hwd]; exact (Below.refl _ _).drew
      replace HZP := Lib.hid (below_aside HZP.out (Aside.of_all hb : Aside (fun _ => False) _ _) (fun k hk => ⟨Nat.lt_of_lt_of_le hk HWP.out, id⟩))
      replace HWP := Lib.hid (Nat.le_trans HWP.out hb.size)
      replace HR1 := Lib.hid (HR1.out.below hb)
      replace HR2 := Lib.hid (HR2.out.below hb)
      replace HZ8 := Lib.hid (HZ8.out.below (by simp) hb)
      replace HZ9 := Lib.hid (HZ9.out.below (by simp) hb)
      clear hb
      refine wp_region_held_drew (S := (fun wx => (wx.cell? ⟨b8, 0, none⟩ = some (.int .i64 xi) ∧ wx.cell? ⟨b8, 1, none⟩ = some (.int .i64 xf) ∧ wx.cell? ⟨b8, 2, none⟩ = some (.slice s1 k1 sc1) ∧ wx.cell? ⟨b8, 3, none⟩ = some (.slice s2 k2 sc2) ∧ wx.cell? ⟨b8, 4, none⟩ = some (.slice s3 k3 sc3) ∧ wx.cell? ⟨b8, 5, none⟩ = some (.slice s4 k4 sc4)) ∧ (wx.cell? ⟨b9, 0, none⟩ = some (.int .i64 xi) ∧ wx.cell? ⟨b9, 1, none⟩ = some (.int .i64 xf) ∧ wx.cell? ⟨b9, 2, none⟩ = some (.slice t1 k1 tc1) ∧ wx.cell? ⟨b9, 3, none⟩ = some (.slice t2 k2 tc2) ∧ wx.cell? ⟨b9, 4, none⟩ = some (.slice t3 k3 tc3) ∧ wx.cell? ⟨b9, 5, none⟩ = some (.slice t4 k4 tc4)) ∧ (wx.cell? ⟨g6, 0, none⟩ = some (.int .i64 ed.s) ∧ wx.cell? ⟨g6, 1, none⟩ = some (.int .i64 ed.x) ∧ wx.cell? ⟨g6, 2, none⟩ = some (.int .i64 ed.v) ∧ wx.cell? ⟨g6, 3, none⟩ = some (.bool ed.b) ∧ wx.cell? ⟨g6, 4, none⟩ = some (.slice ob ed.o.length od)) ∧ (wx.cell? ⟨N + 1, 0, none⟩ = some (.int .i64 ed.s) ∧ wx.cell? ⟨N + 1, 1, none⟩ = some (.int .i64 ed.x) ∧ wx.cell? ⟨N + 1, 2, none⟩ = some (.int .i64 ed.v) ∧ wx.cell? ⟨N + 1, 3, none⟩ = some (.bool ed.b) ∧ wx.cell? ⟨N + 1, 4, none⟩ = some (.slice oa ed.o.length oc)))) (by kernel_rfl) (by rw [hwd]; exact ⟨HZ8.out.six, HZ9.out.six, (cely HZ6.out HZQ.out HZP.out).five, (cely HY.out HZQ.out HZP.out).five⟩) (fun hHeld => ?_)
      refine wpAnyH_take (i := 0) (oi := { dst := some 34, op := Op.load 25 (Operand.tmp 7), type := 25, pos := "law.go:33", after := #[], guard := none }) (v := ?_) rfl (by kernel_rfl) (by kernel_rfl) (by kernel_rfl) (fun _ _ _ h => h) (Or.inl ⟨by rfl, ?_⟩) (by assumption) ?_
      rotate_left 1
      · intro w hSw; have hSw1 := hSw.1; clear hSw; have hSw := hSw1; clear hSw1; (try dsimp only at hSw); go_simp; try (with_reducible rfl)
      try simp only [Act.put, List.setIfInBounds_toArray, List.set_cons_zero, List.set_cons_succ]
      refine wpAnyH_take (i := 1) (oi := { dst := some 35, op := Op.load 25 (Operand.tmp 9), type := 25, pos := "law.go:33", after := #[], guard := none }) (v := ?_) rfl (by kernel_rfl) (by kernel_rfl) (by kernel_rfl) (fun _ _ _ h => h) (Or.inl ⟨by rfl, ?_⟩) (by assumption) ?_
      rotate_left 1
      · intro w hSw; have hSw1 := hSw.2.1; clear hSw; have hSw := hSw1; clear hSw1; (try dsimp only at hSw); go_simp; try (with_reducible rfl)
      try simp only [Act.put, List.setIfInBounds_toArray, List.set_cons_zero, List.set_cons_succ]
      refine wpAnyH_ready (rs := [2]) (by kernel_rfl) (by simp) ?_
      refine AllReadyH.cons (o := { dst := some 36, op := Op.call { callee := Callee.value (Operand.func 14), args := #[Operand.tmp 34, Operand.tmp 35], argTypes := #[25, 25] }, type := 4, pos := "law.go:33", after := #[{ on := 0, ground := Ground.data }, { on := 1, ground := Ground.data }], guard := none }) rfl (fun K hK => ?_) (AllReadyH.nil)
      go_simp
      refine (sameM_yes (HR1.out.mg HMX.out) (HR2.out.mg HMX.out) (Nat.le_refl _) (Nat.le_refl _)).mono ?_; rintro e x1 ⟨rfl, hb⟩
      replace HZP := Lib.hid (below_aside HZP.out (Aside.of_all hb : Aside (fun _ => False) _ _) (fun k hk => ⟨Nat.lt_of_lt_of_le hk HWP.out, id⟩))
      replace HWP := Lib.hid (Nat.le_trans HWP.out hb.size)
      replace HR1 := Lib.hid (HR1.out.below hb)
      replace HR2 := Lib.hid (HR2.out.below hb)
      replace HZ8 := Lib.hid (HZ8.out.below (by simp) hb)
      replace HZ9 := Lib.hid (HZ9.out.below (by simp) hb)
      clear hb
      try go_wp2_with fail
      refine hK.out _ _ ⟨HZ8.out.six, HZ9.out.six, (cely HZ6.out HZQ.out HZP.out).five, (cely HY.out HZQ.out HZP.out).five⟩ (fun hHeld => ?_)
      clear hK K
      try simp only [Act.put, List.setIfInBounds_toArray, List.set_cons_zero, List.set_cons_succ]
      refine wpAnyH_take (i := 3) (oi := { dst := some 37, op := Op.move (Operand.tmp 36), type := 4, pos := "law.go:33", after := #[{ on := 2, ground := Ground.data }, { on := 2, ground := Ground.chain }], guard := none }) (v := ?_) rfl (by kernel_rfl) (by kernel_rfl) (by kernel_rfl) (fun _ _ _ h => h) (Or.inl ⟨by rfl, ?_⟩) (by assumption) ?_
      rotate_left 1
      · intro w hSw; clear hSw; go_simp; try (with_reducible rfl)
      try simp only [Act.put, List.setIfInBounds_toArray, List.set_cons_zero, List.set_cons_succ]
      refine wpAnyH_take (i := 4) (oi := { dst := some 38, op := Op.move (Operand.tmp 8), type := 31, pos := "law.go:33", after := #[{ on := 3, ground := Ground.guard }], guard := some (3, true) }) (v := ?_) rfl (by kernel_rfl) (by kernel_rfl) (by kernel_rfl) (fun _ _ _ h => h) (Or.inl ⟨by rfl, ?_⟩) (by assumption) ?_
      rotate_left 1
      · intro w hSw; clear hSw; go_simp; try (with_reducible rfl)
      try simp only [Act.put, List.setIfInBounds_toArray, List.set_cons_zero, List.set_cons_succ]
      refine wpAnyH_take (i := 5) (oi := { dst := some 39, op := Op.move (Operand.tmp 10), type := 31, pos := "law.go:33", after := #[{ on := 3, ground := Ground.guard }], guard := some (3, true) }) (v := ?_) rfl (by kernel_rfl) (by kernel_rfl) (by kernel_rfl) (fun _ _ _ h => h) (Or.inl ⟨by rfl, ?_⟩) (by assumption) ?_
      rotate_left 1
      · intro w hSw; clear hSw; go_simp; try (with_reducible rfl)
      try simp only [Act.put, List.setIfInBounds_toArray, List.set_cons_zero, List.set_cons_succ]
      refine wpAnyH_take (i := 6) (oi := { dst := some 40, op := Op.binOp BinOp.eql 31 (Operand.tmp 38) (Operand.tmp 39) 31, type := 4, pos := "law.go:33", after := #[{ on := 4, ground := Ground.data }, { on := 5, ground := Ground.data }, { on := 3, ground := Ground.guard }], guard := some (3, true) }) (v := ?_) rfl (by kernel_rfl) (by kernel_rfl) (by kernel_rfl) (fun _ _ _ h => h) (Or.inl ⟨by rfl, ?_⟩) (by assumption) ?_
      rotate_left 1
      · intro w hSw; clear hSw; go_simp; try (with_reducible rfl)
      try simp only [Act.put, List.setIfInBounds_toArray, List.set_cons_zero, List.set_cons_succ]
      refine wpAnyH_take (i := 7) (oi := { dst := some 41, op := Op.pick (Operand.tmp 37) (Operand.tmp 40) (Operand.const (Value.bool false)), type := 4, pos := "law.go:33", after := #[{ on := 3, ground := Ground.data }, { on := 6, ground := Ground.data }], guard := none }) (v := ?_) rfl (by kernel_rfl) (by kernel_rfl) (by kernel_rfl) (fun _ _ _ h => h) (Or.inl ⟨by rfl, ?_⟩) (by assumption) ?_
      rotate_left 1
      · intro w hSw; clear hSw; go_simp; try (with_reducible rfl)
      try simp only [Act.put, List.setIfInBounds_toArray, List.set_cons_zero, List.set_cons_succ]
      refine wpAnyH_take (i := 8) (oi := { dst := some 42, op := Op.move (Operand.tmp 41), type := 4, pos := "law.go:33", after := #[{ on := 7, ground := Ground.data }, { on := 3, ground := Ground.chain }], guard := none }) (v := ?_) rfl (by kernel_rfl) (by kernel_rfl) (by kernel_rfl) (fun _ _ _ h => h) (Or.inl ⟨by rfl, ?_⟩) (by assumption) ?_
      rotate_left 1
      · intro w hSw; clear hSw; go_simp; try (with_reducible rfl)
      try simp only [Act.put, List.setIfInBounds_toArray, List.set_cons_zero, List.set_cons_succ]
      refine wpAnyH_take (i := 9) (oi := { dst := some 43, op := Op.load 30 (Operand.tmp 6), type := 30, pos := "law.go:33", after := #[{ on := 8, ground := Ground.guard }], guard := some (8, true) }) (v := ?_) rfl (by kernel_rfl) (by kernel_rfl) (by kernel_rfl) (fun _ _ _ h => h) (Or.inl ⟨by rfl, ?_⟩) (by assumption) ?_
      rotate_left 1
      · intro w hSw; have hSw1 := hSw.2.2.1; clear hSw; have hSw := hSw1; clear hSw1; (try dsimp only at hSw); go_simp; try (with_reducible rfl)
      try simp only [Act.put, List.setIfInBounds_toArray, List.set_cons_zero, List.set_cons_succ]
      refine wpAnyH_take (i := 11) (oi := { dst := some 45, op := Op.load 30 (Operand.tmp 3), type := 30, pos := "law.go:33", after := #[{ on := 8, ground := Ground.guard }], guard := some (8, true) }) (v := ?_) rfl (by kernel_rfl) (by kernel_rfl) (by kernel_rfl) (fun _ _ _ h => h) (Or.inl ⟨by rfl, ?_⟩) (by assumption) ?_
      rotate_left 1
      · intro w hSw; have hSw1 := hSw.2.2.2; clear hSw; have hSw := hSw1; clear hSw1; (try dsimp only at hSw); go_simp; try (with_reducible rfl)
      try simp only [Act.put, List.setIfInBounds_toArray, List.set_cons_zero, List.set_cons_succ]
      refine wpAnyH_ready (rs := [10]) (by kernel_rfl) (by simp) ?_
      refine AllReadyH.cons (o := { dst := some 44, op := Op.call { callee := Callee.value (Operand.func 26), args := #[Operand.tmp 43], argTypes := #[30] }, type := 31, pos := "law.go:33", after := #[{ on := 9, ground := Ground.data }, { on := 8, ground := Ground.chain }, { on := 8, ground := Ground.guard }], guard := some (8, true) }) rfl (fun K hK => ?_) (AllReadyH.nil)
      go_simp
      refine ((show Calls _ _ _ _ (Tells _ (.int .i64 EC)) by have h := checkE_any (egy (HK.out.eg (by have := HEL.out.1; omega)) HZQ.out HZP.out) HWP.out (by have := HEL.out.1; omega) (fun x hx => by have := HEL.out.2 x hx; omega); rw [HOC.out] at h; exact h)).mono ?_; rintro e x2 ⟨rfl, hb⟩
      replace HZP := Lib.hid (below_aside HZP.out (Aside.of_all hb : Aside (fun _ => False) _ _) (fun k hk => ⟨Nat.lt_of_lt_of_le hk HWP.out, id⟩))
      replace HWP := Lib.hid (Nat.le_trans HWP.out hb.size)
      replace HR1 := Lib.hid (HR1.out.below hb)
      replace HR2 := Lib.hid (HR2.out.below hb)
      replace HZ8 := Lib.hid (HZ8.out.below (by simp) hb)
      replace HZ9 := Lib.hid (HZ9.out.below (by simp) hb)
      clear hb
      try go_wp2_with fail
      refine hK.out _ _ ⟨HZ8.out.six, HZ9.out.six, (cely HZ6.out HZQ.out HZP.out).five, (cely HY.out HZQ.out HZP.out).five⟩ (fun hHeld => ?_)
      clear hK K
      try simp only [Act.put, List.setIfInBounds_toArray, List.set_cons_zero, List.set_cons_succ]
      refine wpAnyH_ready (rs := [12]) (by kernel_rfl) (by simp) ?_
      refine AllReadyH.cons (o := { dst := some 46, op := Op.call { callee := Callee.value (Operand.func 27), args := #[Operand.tmp 45], argTypes := #[30] }, type := 31, pos := "law.go:33", after := #[{ on := 11, ground := Ground.data }, { on := 10, ground := Ground.chain }, { on := 8, ground := Ground.guard }], guard := some (8, true) }) rfl (fun K hK => ?_) (AllReadyH.nil)
      go_simp
      refine ((show Calls _ _ _ _ (Tells _ (.int .i64 EC)) by have h := rcheckE9_any (egy HE.out HZQ.out HZP.out) HWP.out (by have := HEL.out.1; omega) (fun x hx => by have := HEL.out.2 x hx; omega); rw [HOC.out] at h; exact h)).mono ?_; rintro e x3 ⟨rfl, hb⟩
      replace HZP := Lib.hid (below_aside HZP.out (Aside.of_all hb : Aside (fun _ => False) _ _) (fun k hk => ⟨Nat.lt_of_lt_of_le hk HWP.out, id⟩))
      replace HWP := Lib.hid (Nat.le_trans HWP.out hb.size)
      replace HR1 := Lib.hid (HR1.out.below hb)
      replace HR2 := Lib.hid (HR2.out.below hb)
      replace HZ8 := Lib.hid (HZ8.out.below (by simp) hb)
      replace HZ9 := Lib.hid (HZ9.out.below (by simp) hb)
      clear hb
      try go_wp2_with fail
      refine hK.out _ _ ⟨HZ8.out.six, HZ9.out.six, (cely HZ6.out HZQ.out HZP.out).five, (cely HY.out HZQ.out HZP.out).five⟩ (fun hHeld => ?_)
      clear hK K
      try simp only [Act.put, List.setIfInBounds_toArray, List.set_cons_zero, List.set_cons_succ]
      refine wpAnyH_take (i := 13) (oi := { dst := some 47, op := Op.binOp BinOp.eql 31 (Operand.tmp 44) (Operand.tmp 46) 31, type := 4, pos := "law.go:33", after := #[{ on := 10, ground := Ground.data }, { on := 12, ground := Ground.data }, { on := 8, ground := Ground.guard }], guard := some (8, true) }) (v := ?_) rfl (by kernel_rfl) (by kernel_rfl) (by kernel_rfl) (fun _ _ _ h => h) (Or.inl ⟨by rfl, ?_⟩) (by assumption) ?_
      rotate_left 1
      · intro w hSw; clear hSw; go_simp; try (with_reducible rfl)
      try simp only [Act.put, List.setIfInBounds_toArray, List.set_cons_zero, List.set_cons_succ]
      refine wpAnyH_take (i := 14) (oi := { dst := some 48, op := Op.pick (Operand.tmp 42) (Operand.tmp 47) (Operand.const (Value.bool false)), type := 4, pos := "law.go:33", after := #[{ on := 8, ground := Ground.data }, { on := 13, ground := Ground.data }], guard := none }) (v := ?_) rfl (by kernel_rfl) (by kernel_rfl) (by kernel_rfl) (fun _ _ _ h => h) (Or.inl ⟨by rfl, ?_⟩) (by assumption) ?_
      rotate_left 1
      · intro w hSw; clear hSw; go_simp; try (with_reducible rfl)
      try simp only [Act.put, List.setIfInBounds_toArray, List.set_cons_zero, List.set_cons_succ]
      refine wpAnyH_take (i := 15) (oi := { dst := some 11, op := Op.assign (Operand.tmp 48), type := 4, pos := "law.go:33", after := #[{ on := 14, ground := Ground.data }, { on := 12, ground := Ground.chain }, { on := 0, ground := Ground.phase }, { on := 1, ground := Ground.phase }, { on := 2, ground := Ground.phase }, { on := 3, ground := Ground.phase }, { on := 4, ground := Ground.phase }, { on := 5, ground := Ground.phase }, { on := 6, ground := Ground.phase }, { on := 7, ground := Ground.phase }, { on := 8, ground := Ground.phase }, { on := 9, ground := Ground.phase }, { on := 10, ground := Ground.phase }, { on := 11, ground := Ground.phase }, { on := 12, ground := Ground.phase }, { on := 13, ground := Ground.phase }, { on := 14, ground := Ground.phase }], guard := none }) (v := ?_) rfl (by kernel_rfl) (by kernel_rfl) (by kernel_rfl) (fun _ _ _ h => h) (Or.inl ⟨by rfl, ?_⟩) (by assumption) ?_
      rotate_left 1
      · intro w hSw; clear hSw; go_simp; try (with_reducible rfl)
      try simp only [Act.put, List.setIfInBounds_toArray, List.set_cons_zero, List.set_cons_succ]
      refine wpAnyH_done (by kernel_rfl) ?_ _
      clear hHeld
      clear hwd
      obtain ⟨c0, c1', c2', c3', c4', c5⟩ := HZ8.out.six
      go_wp2_with fail
      clear c0 c1' c2' c3' c4' c5
      refine (show Calls _ _ _ _ _ from by have h := overW_any HR1.out HWP.out HMX.out; exact h).mono ?_; rintro e y1 ⟨rfl, hb⟩
      replace HZP := Lib.hid (HZP.out.trans hb)
      replace HWP := Lib.hid (Nat.le_trans HWP.out hb.size)
      clear hb HR1 HZ8 HZ9
      obtain ⟨c0, c1', c2', c3', c4', c5⟩ := (cely HX.out HZQ.out HZP.out).six
      obtain ⟨d0, d1, d2, d3, d4, d5⟩ := (cely HZ5.out HZQ.out HZP.out).six
      go_wp2_with fail
      clear c0 c1' c2' c3' c4' c5 d0 d1 d2 d3 d4 d5
      refine (keptM_any (HC.out.below (by rw [HZQ.out]; exact HZP.out)) (mgy HM.out HZQ.out HZP.out) HWP.out HMI.out.1).mono ?_; rintro e y2 ⟨rfl, hb⟩
      replace HZP := Lib.hid (below_aside HZP.out (Aside.of_all hb : Aside (fun _ => False) _ _) (fun k hk => ⟨Nat.lt_of_lt_of_le hk HWP.out, id⟩))
      replace HWP := Lib.hid (Nat.le_trans HWP.out hb.size)
      clear hb
      obtain ⟨c0, c1', c2', c3', c4'⟩ := (cely HY.out HZQ.out HZP.out).five
      obtain ⟨d0, d1, d2, d3, d4⟩ := (cely HZ6.out HZQ.out HZP.out).five
      go_wp2_with fail
      clear c0 c1' c2' c3' c4' d0 d1 d2 d3 d4
      refine (sameE_yes (egy (HK.out.eg (by have := HEL.out.1; omega)) HZQ.out HZP.out) (egy HE.out HZQ.out HZP.out) HWP.out HWP.out).mono ?_; rintro e y3 ⟨rfl, hb⟩
      replace HZP := Lib.hid (below_aside HZP.out (Aside.of_all hb : Aside (fun _ => False) _ _) (fun k hk => ⟨Nat.lt_of_lt_of_le hk HWP.out, id⟩))
      replace HWP := Lib.hid (Nat.le_trans HWP.out hb.size)
      clear hb
      go_wp2_with fail
      refine (HAw.out _).mono ?_; rintro e y4 ⟨rfl, hb⟩
      replace HZP := Lib.hid (below_aside HZP.out (Aside.of_all hb : Aside (fun _ => False) _ _) (fun k hk => ⟨Nat.lt_of_lt_of_le hk HWP.out, id⟩))
      replace HWP := Lib.hid (Nat.le_trans HWP.out hb.size)
      clear hb
      go_wp2_with fail
      go_ret
      exact ⟨rfl, bel_call HB.out (by rw [HZQ.out]; exact HZP.out)⟩

end Go.Proofs.Ytcjgbholgbjejaa
