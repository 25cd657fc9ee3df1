/-
  A bare answer is the document's own, and shares nothing with the message: MsgReplies.
-/
import Derived.Test.YtdikgjbpjdnodaaGreatU24
import Derived.Test.YtdikgjbpjdnodaaGreatU25
namespace Go.Proofs.YtdikgjbpjdnodaaGreat
open Go.RowKit Go.Shelf
set_option linter.unusedVariables false
set_option linter.unusedSimpArgs false
set_option maxRecDepth 100000

theorem cel_z {wX w : World} {q Z : Nat} {l : List Value} (h : Cel wX q l) (hZ : wX.heap.size = Z) (hb : Below Z wX w) (h0 : 0 < l.length := by simp) : Cel w q l := h.below h0 (by rw [hZ]; exact hb)
theorem mg_z {wX w : World} {Z : Nat} {v : Value} {m : Ms} (h : Mg wX wX.heap.size v m) (hZ : wX.heap.size = Z) (hb : Below Z wX w) : Mg w Z v m := by rw [hZ] at h; exact h.below hb (Nat.le_refl _)

theorem mg_bare {w : World} {B lq : Nat} {a : Option Addr} {c : Nat} {l : List Qn} (i f : Int) (h : OwnQn w B (.slice a lq c) l) (hls : l.length = lq) (hl : lq ≤ 900000) :
    Mg w w.heap.size (.agg #[.int .i64 i, .int .i64 f, .slice a lq c, .slice none 0 0, .slice none 0 0, .slice none 0 0]) ⟨i, f, l, [], [], []⟩ := by
  subst hls
  exact ⟨_, _, _, _, rfl, Lst.own h (Nat.le_trans hl (by decide)), Lst.nil _ _, Lst.nil _ _, Lst.nil _ _⟩

set_option maxHeartbeats 16000000 in
theorem repliesM_any {w : World} {hi : Nat} {u : Value} {m : Ms} (c f : Int) (h : Mg w hi u m) (h1 : hi ≤ w.heap.size) : Calls Tryz.prog 4 #[u, .int .i64 c, .int .i64 f] w (Tells w (.bool true)) := by
  have HAw := Lib.hid (fun wx => awakeM_any wx)
  obtain ⟨q, a, n, r, rfl, hq, ha, hn, hr⟩ := h
  obtain ⟨qa, qc, rfl⟩ := Lst.shape hq
  obtain ⟨aa, ac, rfl⟩ := Lst.shape ha
  obtain ⟨na, nc, rfl⟩ := Lst.shape hn
  obtain ⟨ra, rc, rfl⟩ := Lst.shape hr
  have hm : Mg w w.heap.size (.agg #[.int .i64 m.id, .int .i64 m.fl, .slice qa m.q.length qc, .slice aa m.an.length ac, .slice na m.ns.length nc, .slice ra m.ar.length rc]) m := Mg.wide ⟨_, _, _, _, rfl, hq, ha, hn, hr⟩ h1
  obtain ⟨i0, hi0⟩ : ∃ i, m.id = i := ⟨_, rfl⟩
  obtain ⟨f0, hf0⟩ : ∃ i, m.fl = i := ⟨_, rfl⟩
  obtain ⟨lq, hlq⟩ : ∃ i, m.q.length = i := ⟨_, rfl⟩
  obtain ⟨la, hla⟩ : ∃ i, m.an.length = i := ⟨_, rfl⟩
  obtain ⟨ln, hln⟩ : ∃ i, m.ns.length = i := ⟨_, rfl⟩
  obtain ⟨lr, hlr⟩ : ∃ i, m.ar.length = i := ⟨_, rfl⟩
  obtain ⟨R, hR⟩ : ∃ r, bigMs 200 66000 m = r := ⟨_, rfl⟩
  obtain ⟨fl, hfl⟩ : ∃ x, rpF f0 c = x := ⟨_, rfl⟩
  rw [hi0, hf0, hlq, hla, hln, hlr] at hm ⊢
  have hb : Below w.heap.size w (w.alloc (.cells #[.int .i64 i0, .int .i64 f0, .slice qa lq qc, .slice aa la ac, .slice na ln nc, .slice ra lr rc] 25)) := (Below.refl _ _).alloc (Nat.le_refl _) _
  have hx := cel_new6 w (.int .i64 i0) (.int .i64 f0) (.slice qa lq qc) (.slice aa la ac) (.slice na ln nc) (.slice ra lr rc) 25
  obtain ⟨N, hN⟩ : ∃ N, w.heap.size = N := ⟨_, rfl⟩
  rw [hN] at hx
  have HB := Lib.hid hb
  have HX := Lib.hid hx
  have HM := Lib.hid (hm.later hb)
  clear hq ha hn hr h1 hm hb hx
  go_enter Tryz.func4, Tryz.ntmps4
  go_wp2_with fail
  refine (bigL_any HM.out (Nat.le_refl _)).mono ?_; rw [hR]; rintro e w2 ⟨rfl, hb⟩
  replace HB := Lib.hid (bel_call HB.out hb)
  replace HX := Lib.hid (HX.out.below (by simp) hb)
  replace HM := Lib.hid (HM.out.later hb)
  clear hb
  cases R with
  | true =>
    go_wp2_with fail
    go_ret
    exact ⟨rfl, HB.out⟩
  | false =>
    have HTOT := Lib.hid (bigMs_no hR).1
    have HNM := Lib.hid (bigMs_no hR).2.1
    obtain ⟨c0, c1, c2, c3, c4, c5⟩ := HX.out.six
    go_wp2_with fail
    clear c0 c1 c2 c3 c4 c5
    refine (copyM_any HM.out (Nat.le_refl _) (Nat.le_trans HTOT.out (by decide))).mono ?_; rintro e w3 ⟨vin, rfl, hcp, hb⟩
    replace HB := Lib.hid (bel_call HB.out hb)
    replace HX := Lib.hid (HX.out.below (by simp) hb)
    replace HM := Lib.hid (HM.out.later hb)
    obtain ⟨B3, hB3⟩ : ∃ B, w2.heap.size = B := ⟨_, rfl⟩
    rw [hB3] at hcp
    clear hb hB3
    have HC := Lib.hid hcp
    obtain ⟨q1, a1, n1, r1, rfl, ⟨qa1, qc1, rfl, _⟩, ⟨aa1, ac1, rfl, _⟩, ⟨na1, nc1, rfl, _⟩, ⟨ra1, rc1, rfl, _⟩⟩ := hcp
    rw [hi0, hf0, hlq, hla, hln, hlr] at HC ⊢
    have hb : Below w3.heap.size w3 (w3.alloc (.cells #[.int .i64 i0, .int .i64 f0, .slice qa1 lq qc1, .slice aa1 la ac1, .slice na1 ln nc1, .slice ra1 lr rc1] 25)) := (Below.refl _ _).alloc (Nat.le_refl _) _
    have hy := cel_new6 w3 (.int .i64 i0) (.int .i64 f0) (.slice qa1 lq qc1) (.slice aa1 la ac1) (.slice na1 ln nc1) (.slice ra1 lr rc1) 25
    obtain ⟨gi, hgi⟩ : ∃ N, w3.heap.size = N := ⟨_, rfl⟩
    rw [hgi] at hy
    replace HB := Lib.hid (bel_call HB.out hb)
    replace HX := Lib.hid (HX.out.below (by simp) hb)
    replace HM := Lib.hid (HM.out.later hb)
    replace HC := Lib.hid (HC.out.below hb)
    have HI := Lib.hid hy
    clear hb hy
    obtain ⟨c0, c1, c2, c3, c4, c5⟩ := HX.out.six
    go_wp2_with fail
    clear c0 c1 c2 c3 c4 c5 hgi
    obtain ⟨wX, hwX⟩ : ∃ X, (w3.alloc (.cells #[.int .i64 i0, .int .i64 f0, .slice qa1 lq qc1, .slice aa1 la ac1, .slice na1 ln nc1, .slice ra1 lr rc1] 25)).drew = X := ⟨_, rfl⟩
    have hb : Below (w3.alloc (.cells #[.int .i64 i0, .int .i64 f0, .slice qa1 lq qc1, .slice aa1 la ac1, .slice na1 ln nc1, .slice ra1 lr rc1] 25)).heap.size (w3.alloc (.cells #[.int .i64 i0, .int .i64 f0, .slice qa1 lq qc1, .slice aa1 la ac1, .slice na1 ln nc1, .slice ra1 lr rc1] 25)) wX := by rw [← hwX]; exact (Below.refl _ _).drew
    replace HB := Lib.hid (bel_call HB.out hb)
    replace HX := Lib.hid (HX.out.below (by simp) hb)
    replace HM := Lib.hid (HM.out.later hb)
    replace HC := Lib.hid (HC.out.below hb)
    replace HI := Lib.hid (HI.out.below (by simp) hb)
    clear hb
    have HLQ := Lib.hid hlq
    have HI0 := Lib.hid hi0
    have HF0 := Lib.hid hf0
    have HFL := Lib.hid hfl
    have HXL := Lib.hid (HX.out.lt (by simp))
    have HIL := Lib.hid (HI.out.lt (by simp))
    have hl9 : lq ≤ 900000 := by have := HTOT.out; omega
    clear hlq hla hln hlr hi0 hf0 hfl hN
    obtain ⟨Z, hZ⟩ : ∃ Z, wX.heap.size = Z := ⟨_, rfl⟩
    have HZE := Lib.hid hZ
    rw [hZ] at HXL HIL
    clear hZ
    obtain ⟨wc, hwc⟩ : ∃ X, wX = X := ⟨_, rfl⟩
    have HZZ := Lib.hid (show Below Z wX wc by rw [← hwc]; exact Below.refl _ _)
    have HWS := Lib.hid (show Z ≤ wc.heap.size by rw [← hwc, HZE.out]; exact Nat.le_refl _)
    refine wp_region_held_drew (S := (fun wx => (wx.cell? ⟨N, 0, none⟩ = some (.int .i64 i0) ∧ wx.cell? ⟨N, 1, none⟩ = some (.int .i64 f0) ∧ wx.cell? ⟨N, 2, none⟩ = some (.slice qa lq qc) ∧ wx.cell? ⟨N, 3, none⟩ = some (.slice aa la ac) ∧ wx.cell? ⟨N, 4, none⟩ = some (.slice na ln nc) ∧ wx.cell? ⟨N, 5, none⟩ = some (.slice ra lr rc)) ∧ wx.cell? ⟨gi, 0, none⟩ = some (.int .i64 i0) ∧ wx.cell? ⟨gi, 1, none⟩ = some (.int .i64 f0) ∧ wx.cell? ⟨gi, 2, none⟩ = some (.slice qa1 lq qc1) ∧ wx.cell? ⟨gi, 3, none⟩ = some (.slice aa1 la ac1) ∧ wx.cell? ⟨gi, 4, none⟩ = some (.slice na1 ln nc1) ∧ wx.cell? ⟨gi, 5, none⟩ = some (.slice ra1 lr rc1))) (by kernel_rfl) (by rw [hwX, hwc]; exact ⟨(cel_z HX.out HZE.out HZZ.out).six, (cel_z HI.out HZE.out HZZ.out).six⟩) (fun hHeld => ?_)
    refine wpAnyH_take (i := 0) (oi := { dst := some 15, op := Op.load 25 (Operand.tmp 7), type := 25, pos := "law.go:49", after := #[], guard := none }) (v := ?_) rfl (by kernel_rfl) (by kernel_rfl) (by kernel_rfl) (fun _ _ _ h => h) (Or.inl ⟨by rfl, ?_⟩) (by assumption) ?_
    rotate_left 1
    · intro w hSw; (try dsimp only at hSw); go_simp; try (with_reducible rfl)
    try simp only [Act.put, List.setIfInBounds_toArray, List.set_cons_zero, List.set_cons_succ]
    refine wpAnyH_take (i := 1) (oi := { dst := some 16, op := Op.move (Operand.tmp 1), type := 3, pos := "law.go:49", after := #[], guard := none }) (v := ?_) rfl (by kernel_rfl) (by kernel_rfl) (by kernel_rfl) (fun _ _ _ h => h) (Or.inl ⟨by rfl, ?_⟩) (by assumption) ?_
    rotate_left 1
    · intro w hSw; (try dsimp only at hSw); go_simp; try (with_reducible rfl)
    try simp only [Act.put, List.setIfInBounds_toArray, List.set_cons_zero, List.set_cons_succ]
    refine wpAnyH_take (i := 3) (oi := { dst := some 18, op := Op.load 25 (Operand.tmp 3), type := 25, pos := "law.go:49", after := #[], guard := none }) (v := ?_) rfl (by kernel_rfl) (by kernel_rfl) (by kernel_rfl) (fun _ _ _ h => h) (Or.inl ⟨by rfl, ?_⟩) (by assumption) ?_
    rotate_left 1
    · intro w hSw; (try dsimp only at hSw); go_simp; try (with_reducible rfl)
    try simp only [Act.put, List.setIfInBounds_toArray, List.set_cons_zero, List.set_cons_succ]
    refine wpAnyH_take (i := 4) (oi := { dst := some 19, op := Op.move (Operand.tmp 1), type := 3, pos := "law.go:49", after := #[], guard := none }) (v := ?_) rfl (by kernel_rfl) (by kernel_rfl) (by kernel_rfl) (fun _ _ _ h => h) (Or.inl ⟨by rfl, ?_⟩) (by assumption) ?_
    rotate_left 1
    · intro w hSw; (try dsimp only at hSw); go_simp; try (with_reducible rfl)
    try simp only [Act.put, List.setIfInBounds_toArray, List.set_cons_zero, List.set_cons_succ]
    refine wpAnyH_ready (rs := [2, 6, 7]) (by kernel_rfl) (by simp) ?_
    refine AllReadyH.cons (o := { dst := some 17, op := Op.call { callee := Callee.value (Operand.func 19), args := #[Operand.tmp 15, Operand.tmp 16], argTypes := #[25, 3] }, type := 25, pos := "law.go:49", after := #[{ on := 0, ground := Ground.data }, { on := 1, ground := Ground.data }], guard := none }) rfl (fun K hK => ?_) (AllReadyH.cons (o := { dst := some 8, op := Op.alloc 25, type := 0, pos := "law.go:49", after := #[], guard := none }) rfl (fun K hK => ?_) (AllReadyH.cons (o := { dst := some 9, op := Op.alloc 25, type := 0, pos := "law.go:49", after := #[], guard := none }) rfl (fun K hK => ?_) (AllReadyH.nil)))
    go_simp
    obtain ⟨s1, hs1⟩ : ∃ g, wc.heap.size = g := ⟨_, rfl⟩
    have hsz := HWS.out
    rw [hs1] at hsz
    refine (replyM_any c (mg_z (HC.out.mg (Nat.le_trans HTOT.out (by decide))) HZE.out HZZ.out) HWS.out (by rw [HLQ.out]; omega) (fun x hx => Nat.le_trans (HNM.out x hx) (by decide))).mono ?_; rintro e0 wc ⟨qv, rfl, ho, hb⟩
    rw [HI0.out, HF0.out, HFL.out]
    obtain ⟨a2, c2, rfl⟩ := row_shape ho
    rw [HLQ.out]
    rw [HLQ.out, hs1] at ho
    have hlt := World.ownsRow.lt ho
    replace HZZ := Lib.hid (below_aside HZZ.out (Aside.of_all hb : Aside (fun _ => False) _ _) (fun k hk => ⟨Nat.lt_of_lt_of_le hk HWS.out, id⟩))
    replace HWS := Lib.hid (Nat.le_trans HWS.out hb.size)
    clear hb
    have HR1 := Lib.hid (show OwnQn _ Z (.slice a2 lq c2) m.q from row_base ho hsz)
    clear ho hlt hs1 hsz
    focus (try go_wp2_with fail)
    refine hK.out _ _ ⟨(cel_z HX.out HZE.out HZZ.out).six, (cel_z HI.out HZE.out HZZ.out).six⟩ (fun hHeld => ?_)
    clear hK K
    try simp only [Act.put, List.setIfInBounds_toArray, List.set_cons_zero, List.set_cons_succ]
    refine wpAnyH_ready (rs := [5, 6, 7]) (by kernel_rfl) (by simp) ?_
    refine AllReadyH.cons (o := { dst := some 20, op := Op.call { callee := Callee.value (Operand.func 20), args := #[Operand.tmp 18, Operand.tmp 19], argTypes := #[25, 3] }, type := 25, pos := "law.go:49", after := #[{ on := 3, ground := Ground.data }, { on := 4, ground := Ground.data }, { on := 2, ground := Ground.chain }], guard := none }) rfl (fun K hK => ?_) (AllReadyH.cons (o := { dst := some 8, op := Op.alloc 25, type := 0, pos := "law.go:49", after := #[], guard := none }) rfl (fun K hK => ?_) (AllReadyH.cons (o := { dst := some 9, op := Op.alloc 25, type := 0, pos := "law.go:49", after := #[], guard := none }) rfl (fun K hK => ?_) (AllReadyH.nil)))
    go_simp
    obtain ⟨s1, hs1⟩ : ∃ g, wc.heap.size = g := ⟨_, rfl⟩
    have hsz := HWS.out
    rw [hs1] at hsz
    refine (replyR_any c (mg_z HM.out HZE.out HZZ.out) HWS.out (by rw [HLQ.out]; omega) (fun x hx => Nat.le_trans (HNM.out x hx) (by decide))).mono ?_; rintro e0 wc ⟨qv, rfl, ho, hb⟩
    rw [HI0.out, HF0.out, HFL.out]
    obtain ⟨a5, c5, rfl⟩ := row_shape ho
    rw [HLQ.out]
    rw [HLQ.out, hs1] at ho
    have hlt := World.ownsRow.lt ho
    replace HZZ := Lib.hid (below_aside HZZ.out (Aside.of_all hb : Aside (fun _ => False) _ _) (fun k hk => ⟨Nat.lt_of_lt_of_le hk HWS.out, id⟩))
    replace HWS := Lib.hid (Nat.le_trans HWS.out hb.size)
    replace HR1 := Lib.hid (show OwnQn _ _ _ _ from row_below HR1.out hb)
    clear hb
    have HR2 := Lib.hid (show OwnQn _ Z (.slice a5 lq c5) m.q from row_base ho hsz)
    clear ho hlt hs1 hsz
    focus (try go_wp2_with fail)
    refine hK.out _ _ ⟨(cel_z HX.out HZE.out HZZ.out).six, (cel_z HI.out HZE.out HZZ.out).six⟩ (fun hHeld => ?_)
    clear hK K
    try simp only [Act.put, List.setIfInBounds_toArray, List.set_cons_zero, List.set_cons_succ]
    refine wpAnyH_ready (rs := [6, 7]) (by kernel_rfl) (by simp) ?_
    refine AllReadyH.cons (o := { dst := some 8, op := Op.alloc 25, type := 0, pos := "law.go:49", after := #[], guard := none }) rfl (fun K hK => ?_) (AllReadyH.cons (o := { dst := some 9, op := Op.alloc 25, type := 0, pos := "law.go:49", after := #[], guard := none }) rfl (fun K hK => ?_) (AllReadyH.nil))
    go_simp
    have hone := cel_new6 wc (.int .i64 0) (.int .i64 0) (.slice none 0 0) (.slice none 0 0) (.slice none 0 0) (.slice none 0 0) 25
    have hb : Below wc.heap.size wc (wc.alloc (.cells #[.int .i64 0, .int .i64 0, .slice none 0 0, .slice none 0 0, .slice none 0 0, .slice none 0 0] 25)) := (Below.refl _ _).alloc (Nat.le_refl _) _
    obtain ⟨b8, hb8⟩ : ∃ g, wc.heap.size = g := ⟨_, rfl⟩
    have hzz := HWS.out
    rw [hb8] at hzz
    have hlt1 := World.ownsRow.lt HR1.out
    have HD18 := Lib.hid (show ∀ k, (Value.slice a2 lq c2).ownBlock = some k → k ≠ b8 from fun k hk => by have := (hlt1 k hk).2; omega)
    clear hlt1
    have hlt2 := World.ownsRow.lt HR2.out
    have HD28 := Lib.hid (show ∀ k, (Value.slice a5 lq c5).ownBlock = some k → k ≠ b8 from fun k hk => by have := (hlt2 k hk).2; omega)
    clear hlt2
    obtain ⟨wn, hwn⟩ : ∃ X, wc.alloc (.cells #[.int .i64 0, .int .i64 0, .slice none 0 0, .slice none 0 0, .slice none 0 0, .slice none 0 0] 25) = X := ⟨_, rfl⟩
    rw [hwn, hb8] at hone
    rw [hwn] at hb
    rw [hwn, hb8]
    clear hwn hb8
    replace HZZ := Lib.hid (below_aside HZZ.out (Aside.of_all hb : Aside (fun _ => False) _ _) (fun k hk => ⟨Nat.lt_of_lt_of_le hk HWS.out, id⟩))
    replace HWS := Lib.hid (Nat.le_trans HWS.out hb.size)
    replace HR1 := Lib.hid (show OwnQn _ _ _ _ from row_below HR1.out hb)
    replace HR2 := Lib.hid (show OwnQn _ _ _ _ from row_below HR2.out hb)
    clear hb
    have HZ8 := Lib.hid hone
    have HB8 := Lib.hid hzz
    clear hone hzz
    obtain ⟨wc, hwc⟩ : ∃ X, wn = X := ⟨_, rfl⟩
    rw [hwc] at HZZ HWS HZ8 HR1 HR2 ⊢
    clear hwc
    refine hK.out _ _ ⟨(cel_z HX.out HZE.out HZZ.out).six, (cel_z HI.out HZE.out HZZ.out).six⟩ (fun hHeld => ?_)
    clear hK K
    try simp only [Act.put, List.setIfInBounds_toArray, List.set_cons_zero, List.set_cons_succ]
    refine wpAnyH_ready (rs := [7]) (by kernel_rfl) (by simp) ?_
    refine AllReadyH.cons (o := { dst := some 9, op := Op.alloc 25, type := 0, pos := "law.go:49", after := #[], guard := none }) rfl (fun K hK => ?_) (AllReadyH.nil)
    go_simp
    have hone := cel_new6 wc (.int .i64 0) (.int .i64 0) (.slice none 0 0) (.slice none 0 0) (.slice none 0 0) (.slice none 0 0) 25
    have hb : Below wc.heap.size wc (wc.alloc (.cells #[.int .i64 0, .int .i64 0, .slice none 0 0, .slice none 0 0, .slice none 0 0, .slice none 0 0] 25)) := (Below.refl _ _).alloc (Nat.le_refl _) _
    obtain ⟨b9, hb9⟩ : ∃ g, wc.heap.size = g := ⟨_, rfl⟩
    have hzz := HWS.out
    rw [hb9] at hzz
    have hlt1 := World.ownsRow.lt HR1.out
    have HD19 := Lib.hid (show ∀ k, (Value.slice a2 lq c2).ownBlock = some k → k ≠ b9 from fun k hk => by have := (hlt1 k hk).2; omega)
    clear hlt1
    have hlt2 := World.ownsRow.lt HR2.out
    have HD29 := Lib.hid (show ∀ k, (Value.slice a5 lq c5).ownBlock = some k → k ≠ b9 from fun k hk => by have := (hlt2 k hk).2; omega)
    clear hlt2
    have HDD := Lib.hid (show b8 < b9 by have := HZ8.out.lt (by simp); omega)
    obtain ⟨wn, hwn⟩ : ∃ X, wc.alloc (.cells #[.int .i64 0, .int .i64 0, .slice none 0 0, .slice none 0 0, .slice none 0 0, .slice none 0 0] 25) = X := ⟨_, rfl⟩
    rw [hwn, hb9] at hone
    rw [hwn] at hb
    rw [hwn, hb9]
    clear hwn hb9
    replace HZZ := Lib.hid (below_aside HZZ.out (Aside.of_all hb : Aside (fun _ => False) _ _) (fun k hk => ⟨Nat.lt_of_lt_of_le hk HWS.out, id⟩))
    replace HWS := Lib.hid (Nat.le_trans HWS.out hb.size)
    replace HR1 := Lib.hid (show OwnQn _ _ _ _ from row_below HR1.out hb)
    replace HR2 := Lib.hid (show OwnQn _ _ _ _ from row_below HR2.out hb)
    replace HZ8 := Lib.hid (HZ8.out.below (by simp) hb)
    clear hb
    have HZ9 := Lib.hid hone
    have HB9 := Lib.hid hzz
    clear hone hzz
    obtain ⟨wc, hwc⟩ : ∃ X, wn = X := ⟨_, rfl⟩
    rw [hwc] at HZZ HWS HZ9 HR1 HR2 HZ8 ⊢
    clear hwc
    refine hK.out _ _ ⟨(cel_z HX.out HZE.out HZZ.out).six, (cel_z HI.out HZE.out HZZ.out).six⟩ (fun hHeld => ?_)
    clear hK K
    try simp only [Act.put, List.setIfInBounds_toArray, List.set_cons_zero, List.set_cons_succ]
    refine wpAnyH_ready (rs := [8]) (by kernel_rfl) (by simp) ?_
    refine AllReadyH.cons (o := { dst := none, op := Op.store 25 (Operand.tmp 8) (Operand.tmp 17), type := 0, pos := "law.go:49", after := #[{ on := 6, ground := Ground.data }, { on := 2, ground := Ground.data }, { on := 5, ground := Ground.chain }, { on := 0, ground := Ground.phase }, { on := 1, ground := Ground.phase }, { on := 2, ground := Ground.phase }, { on := 3, ground := Ground.textOnly Departure.lateStores }, { on := 4, ground := Ground.textOnly Departure.lateStores }, { on := 5, ground := Ground.textOnly Departure.lateStoresUnsure }, { on := 6, ground := Ground.phase }, { on := 7, ground := Ground.phase }], guard := none }) rfl (fun K hK => ?_) (AllReadyH.nil)
    obtain ⟨z0, z1, z2, z3, z4, z5⟩ := HZ8.out.six
    have fz := HZ8.out.fz
    go_simp
    clear z0 z1 z2 z3 z4 z5 fz
    have k6 := cel_put6 HZ8.out (.int .i64 i0) (.int .i64 fl) (.slice a2 lq c2) (.slice none 0 0) (.slice none 0 0) (.slice none 0 0)
    have hst := aside_put6 wc b8 (.int .i64 i0) (.int .i64 fl) (.slice a2 lq c2) (.slice none 0 0) (.slice none 0 0) (.slice none 0 0)
    unfold put6 at k6 hst
    obtain ⟨wn, hwn⟩ : ∃ X, (((((wc.setCell ⟨b8, 0, none⟩ (.int .i64 i0)).setCell ⟨b8, 1, none⟩ (.int .i64 fl)).setCell ⟨b8, 2, none⟩ (.slice a2 lq c2)).setCell ⟨b8, 3, none⟩ (.slice none 0 0)).setCell ⟨b8, 4, none⟩ (.slice none 0 0)).setCell ⟨b8, 5, none⟩ (.slice none 0 0) = X := ⟨_, rfl⟩
    rw [hwn] at k6 hst ⊢
    clear hwn
    replace HZZ := Lib.hid (below_aside HZZ.out hst (fun k hk => ⟨Nat.lt_of_lt_of_le hk HWS.out, by have := HB8.out; omega⟩))
    replace HWS := Lib.hid (Nat.le_trans HWS.out hst.size)
    replace HR1 := Lib.hid (show OwnQn _ _ _ _ from row_aside HR1.out hst fun k hk hg => HD18.out k hk hg)
    replace HR2 := Lib.hid (show OwnQn _ _ _ _ from row_aside HR2.out hst fun k hk hg => HD28.out k hk hg)
    replace HZ8 := Lib.hid k6
    replace HZ9 := Lib.hid (HZ9.out.aside (by simp) hst (by have := HDD.out; omega))
    clear k6 hst
    obtain ⟨wc, hwc⟩ : ∃ X, wn = X := ⟨_, rfl⟩
    rw [hwc] at HZZ HWS HR1 HR2 HZ8 HZ9 ⊢
    clear hwc
    refine hK.out _ _ ⟨(cel_z HX.out HZE.out HZZ.out).six, (cel_z HI.out HZE.out HZZ.out).six⟩ (fun hHeld => ?_)
    clear hK K
    try simp only [Act.put, List.setIfInBounds_toArray, List.set_cons_zero, List.set_cons_succ]
    refine wpAnyH_ready (rs := [9]) (by kernel_rfl) (by simp) ?_
    refine AllReadyH.cons (o := { dst := none, op := Op.store 25 (Operand.tmp 9) (Operand.tmp 20), type := 0, pos := "law.go:49", after := #[{ on := 7, ground := Ground.data }, { on := 5, ground := Ground.data }, { on := 8, ground := Ground.chain }, { on := 0, ground := Ground.phase }, { on := 1, ground := Ground.phase }, { on := 2, ground := Ground.phase }, { on := 3, ground := Ground.phase }, { on := 4, ground := Ground.phase }, { on := 5, ground := Ground.phase }, { on := 6, ground := Ground.phase }, { on := 7, ground := Ground.phase }, { on := 8, ground := Ground.phase }], guard := none }) rfl (fun K hK => ?_) (AllReadyH.nil)
    obtain ⟨z0, z1, z2, z3, z4, z5⟩ := HZ9.out.six
    have fz := HZ9.out.fz
    go_simp
    clear z0 z1 z2 z3 z4 z5 fz
    have k6 := cel_put6 HZ9.out (.int .i64 i0) (.int .i64 fl) (.slice a5 lq c5) (.slice none 0 0) (.slice none 0 0) (.slice none 0 0)
    have hst := aside_put6 wc b9 (.int .i64 i0) (.int .i64 fl) (.slice a5 lq c5) (.slice none 0 0) (.slice none 0 0) (.slice none 0 0)
    unfold put6 at k6 hst
    obtain ⟨wn, hwn⟩ : ∃ X, (((((wc.setCell ⟨b9, 0, none⟩ (.int .i64 i0)).setCell ⟨b9, 1, none⟩ (.int .i64 fl)).setCell ⟨b9, 2, none⟩ (.slice a5 lq c5)).setCell ⟨b9, 3, none⟩ (.slice none 0 0)).setCell ⟨b9, 4, none⟩ (.slice none 0 0)).setCell ⟨b9, 5, none⟩ (.slice none 0 0) = X := ⟨_, rfl⟩
    rw [hwn] at k6 hst ⊢
    clear hwn
    replace HZZ := Lib.hid (below_aside HZZ.out hst (fun k hk => ⟨Nat.lt_of_lt_of_le hk HWS.out, by have := HB9.out; omega⟩))
    replace HWS := Lib.hid (Nat.le_trans HWS.out hst.size)
    replace HR1 := Lib.hid (show OwnQn _ _ _ _ from row_aside HR1.out hst fun k hk hg => HD19.out k hk hg)
    replace HR2 := Lib.hid (show OwnQn _ _ _ _ from row_aside HR2.out hst fun k hk hg => HD29.out k hk hg)
    replace HZ9 := Lib.hid k6
    replace HZ8 := Lib.hid (HZ8.out.aside (by simp) hst (by have := HDD.out; omega))
    clear k6 hst
    obtain ⟨wc, hwc⟩ : ∃ X, wn = X := ⟨_, rfl⟩
    rw [hwc] at HZZ HWS HR1 HR2 HZ8 HZ9 ⊢
    clear hwc
    refine hK.out _ _ ⟨(cel_z HX.out HZE.out HZZ.out).six, (cel_z HI.out HZE.out HZZ.out).six⟩ (fun hHeld => ?_)
    clear hK K
    try simp only [Act.put, List.setIfInBounds_toArray, List.set_cons_zero, List.set_cons_succ]
    refine wpAnyH_done (by kernel_rfl) ?_ _
    clear hHeld
    rotate_left 1
    go_simp
    have hone := cel_new6 wc (.int .i64 0) (.int .i64 0) (.slice none 0 0) (.slice none 0 0) (.slice none 0 0) (.slice none 0 0) 25
    have hb : Below wc.heap.size wc (wc.alloc (.cells #[.int .i64 0, .int .i64 0, .slice none 0 0, .slice none 0 0, .slice none 0 0, .slice none 0 0] 25)) := (Below.refl _ _).alloc (Nat.le_refl _) _
    obtain ⟨b9, hb9⟩ : ∃ g, wc.heap.size = g := ⟨_, rfl⟩
    have hzz := HWS.out
    rw [hb9] at hzz
    have hlt1 := World.ownsRow.lt HR1.out
    have HD19 := Lib.hid (show ∀ k, (Value.slice a2 lq c2).ownBlock = some k → k ≠ b9 from fun k hk => by have := (hlt1 k hk).2; omega)
    clear hlt1
    have hlt2 := World.ownsRow.lt HR2.out
    have HD29 := Lib.hid (show ∀ k, (Value.slice a5 lq c5).ownBlock = some k → k ≠ b9 from fun k hk => by have := (hlt2 k hk).2; omega)
    clear hlt2
    obtain ⟨wn, hwn⟩ : ∃ X, wc.alloc (.cells #[.int .i64 0, .int .i64 0, .slice none 0 0, .slice none 0 0, .slice none 0 0, .slice none 0 0] 25) = X := ⟨_, rfl⟩
    rw [hwn, hb9] at hone
    rw [hwn] at hb
    rw [hwn, hb9]
    clear hwn hb9
    replace HZZ := Lib.hid (below_aside HZZ.out (Aside.of_all hb : Aside (fun _ => False) _ _) (fun k hk => ⟨Nat.lt_of_lt_of_le hk HWS.out, id⟩))
    replace HWS := Lib.hid (Nat.le_trans HWS.out hb.size)
    replace HR1 := Lib.hid (show OwnQn _ _ _ _ from row_below HR1.out hb)
    replace HR2 := Lib.hid (show OwnQn _ _ _ _ from row_below HR2.out hb)
    clear hb
    have HZ9 := Lib.hid hone
    have HB9 := Lib.hid hzz
    clear hone hzz
    obtain ⟨wc, hwc⟩ : ∃ X, wn = X := ⟨_, rfl⟩
    rw [hwc] at HZZ HWS HZ9 HR1 HR2 ⊢
    clear hwc
    refine hK.out _ _ ⟨(cel_z HX.out HZE.out HZZ.out).six, (cel_z HI.out HZE.out HZZ.out).six⟩ (fun hHeld => ?_)
    clear hK K
    try simp only [Act.put, List.setIfInBounds_toArray, List.set_cons_zero, List.set_cons_succ]
    refine wpAnyH_ready (rs := [6]) (by kernel_rfl) (by simp) ?_
    refine AllReadyH.cons (o := { dst := some 8, op := Op.alloc 25, type := 0, pos := "law.go:49", after := #[], guard := none }) rfl (fun K hK => ?_) (AllReadyH.nil)
    go_simp
    have hone := cel_new6 wc (.int .i64 0) (.int .i64 0) (.slice none 0 0) (.slice none 0 0) (.slice none 0 0) (.slice none 0 0) 25
    have hb : Below wc.heap.size wc (wc.alloc (.cells #[.int .i64 0, .int .i64 0, .slice none 0 0, .slice none 0 0, .slice none 0 0, .slice none 0 0] 25)) := (Below.refl _ _).alloc (Nat.le_refl _) _
    obtain ⟨b8, hb8⟩ : ∃ g, wc.heap.size = g := ⟨_, rfl⟩
    have hzz := HWS.out
    rw [hb8] at hzz
    have hlt1 := World.ownsRow.lt HR1.out
    have HD18 := Lib.hid (show ∀ k, (Value.slice a2 lq c2).ownBlock = some k → k ≠ b8 from fun k hk => by have := (hlt1 k hk).2; omega)
    clear hlt1
    have hlt2 := World.ownsRow.lt HR2.out
    have HD28 := Lib.hid (show ∀ k, (Value.slice a5 lq c5).ownBlock = some k → k ≠ b8 from fun k hk => by have := (hlt2 k hk).2; omega)
    clear hlt2
    have HDD := Lib.hid (show b9 < b8 by have := HZ9.out.lt (by simp); omega)
    obtain ⟨wn, hwn⟩ : ∃ X, wc.alloc (.cells #[.int .i64 0, .int .i64 0, .slice none 0 0, .slice none 0 0, .slice none 0 0, .slice none 0 0] 25) = X := ⟨_, rfl⟩
    rw [hwn, hb8] at hone
    rw [hwn] at hb
    rw [hwn, hb8]
    clear hwn hb8
    replace HZZ := Lib.hid (below_aside HZZ.out (Aside.of_all hb : Aside (fun _ => False) _ _) (fun k hk => ⟨Nat.lt_of_lt_of_le hk HWS.out, id⟩))
    replace HWS := Lib.hid (Nat.le_trans HWS.out hb.size)
    replace HR1 := Lib.hid (show OwnQn _ _ _ _ from row_below HR1.out hb)
    replace HR2 := Lib.hid (show OwnQn _ _ _ _ from row_below HR2.out hb)
    replace HZ9 := Lib.hid (HZ9.out.below (by simp) hb)
    clear hb
    have HZ8 := Lib.hid hone
    have HB8 := Lib.hid hzz
    clear hone hzz
    obtain ⟨wc, hwc⟩ : ∃ X, wn = X := ⟨_, rfl⟩
    rw [hwc] at HZZ HWS HZ8 HR1 HR2 HZ9 ⊢
    clear hwc
    refine hK.out _ _ ⟨(cel_z HX.out HZE.out HZZ.out).six, (cel_z HI.out HZE.out HZZ.out).six⟩ (fun hHeld => ?_)
    clear hK K
    try simp only [Act.put, List.setIfInBounds_toArray, List.set_cons_zero, List.set_cons_succ]
    refine wpAnyH_ready (rs := [8]) (by kernel_rfl) (by simp) ?_
    refine AllReadyH.cons (o := { dst := none, op := Op.store 25 (Operand.tmp 8) (Operand.tmp 17), type := 0, pos := "law.go:49", after := #[{ on := 6, ground := Ground.data }, { on := 2, ground := Ground.data }, { on := 5, ground := Ground.chain }, { on := 0, ground := Ground.phase }, { on := 1, ground := Ground.phase }, { on := 2, ground := Ground.phase }, { on := 3, ground := Ground.textOnly Departure.lateStores }, { on := 4, ground := Ground.textOnly Departure.lateStores }, { on := 5, ground := Ground.textOnly Departure.lateStoresUnsure }, { on := 6, ground := Ground.phase }, { on := 7, ground := Ground.phase }], guard := none }) rfl (fun K hK => ?_) (AllReadyH.nil)
    obtain ⟨z0, z1, z2, z3, z4, z5⟩ := HZ8.out.six
    have fz := HZ8.out.fz
    go_simp
    clear z0 z1 z2 z3 z4 z5 fz
    have k6 := cel_put6 HZ8.out (.int .i64 i0) (.int .i64 fl) (.slice a2 lq c2) (.slice none 0 0) (.slice none 0 0) (.slice none 0 0)
    have hst := aside_put6 wc b8 (.int .i64 i0) (.int .i64 fl) (.slice a2 lq c2) (.slice none 0 0) (.slice none 0 0) (.slice none 0 0)
    unfold put6 at k6 hst
    obtain ⟨wn, hwn⟩ : ∃ X, (((((wc.setCell ⟨b8, 0, none⟩ (.int .i64 i0)).setCell ⟨b8, 1, none⟩ (.int .i64 fl)).setCell ⟨b8, 2, none⟩ (.slice a2 lq c2)).setCell ⟨b8, 3, none⟩ (.slice none 0 0)).setCell ⟨b8, 4, none⟩ (.slice none 0 0)).setCell ⟨b8, 5, none⟩ (.slice none 0 0) = X := ⟨_, rfl⟩
    rw [hwn] at k6 hst ⊢
    clear hwn
    replace HZZ := Lib.hid (below_aside HZZ.out hst (fun k hk => ⟨Nat.lt_of_lt_of_le hk HWS.out, by have := HB8.out; omega⟩))
    replace HWS := Lib.hid (Nat.le_trans HWS.out hst.size)
    replace HR1 := Lib.hid (show OwnQn _ _ _ _ from row_aside HR1.out hst fun k hk hg => HD18.out k hk hg)
    replace HR2 := Lib.hid (show OwnQn _ _ _ _ from row_aside HR2.out hst fun k hk hg => HD28.out k hk hg)
    replace HZ8 := Lib.hid k6
    replace HZ9 := Lib.hid (HZ9.out.aside (by simp) hst (by have := HDD.out; omega))
    clear k6 hst
    obtain ⟨wc, hwc⟩ : ∃ X, wn = X := ⟨_, rfl⟩
    rw [hwc] at HZZ HWS HR1 HR2 HZ8 HZ9 ⊢
    clear hwc
    refine hK.out _ _ ⟨(cel_z HX.out HZE.out HZZ.out).six, (cel_z HI.out HZE.out HZZ.out).six⟩ (fun hHeld => ?_)
    clear hK K
    try simp only [Act.put, List.setIfInBounds_toArray, List.set_cons_zero, List.set_cons_succ]
    refine wpAnyH_ready (rs := [9]) (by kernel_rfl) (by simp) ?_
    refine AllReadyH.cons (o := { dst := none, op := Op.store 25 (Operand.tmp 9) (Operand.tmp 20), type := 0, pos := "law.go:49", after := #[{ on := 7, ground := Ground.data }, { on := 5, ground := Ground.data }, { on := 8, ground := Ground.chain }, { on := 0, ground := Ground.phase }, { on := 1, ground := Ground.phase }, { on := 2, ground := Ground.phase }, { on := 3, ground := Ground.phase }, { on := 4, ground := Ground.phase }, { on := 5, ground := Ground.phase }, { on := 6, ground := Ground.phase }, { on := 7, ground := Ground.phase }, { on := 8, ground := Ground.phase }], guard := none }) rfl (fun K hK => ?_) (AllReadyH.nil)
    obtain ⟨z0, z1, z2, z3, z4, z5⟩ := HZ9.out.six
    have fz := HZ9.out.fz
    go_simp
    clear z0 z1 z2 z3 z4 z5 fz
    have k6 := cel_put6 HZ9.out (.int .i64 i0) (.int .i64 fl) (.slice a5 lq c5) (.slice none 0 0) (.slice none 0 0) (.slice none 0 0)
    have hst := aside_put6 wc b9 (.int .i64 i0) (.int .i64 fl) (.slice a5 lq c5) (.slice none 0 0) (.slice none 0 0) (.slice none 0 0)
    unfold put6 at k6 hst
    obtain ⟨wn, hwn⟩ : ∃ X, (((((wc.setCell ⟨b9, 0, none⟩ (.int .i64 i0)).setCell ⟨b9, 1, none⟩ (.int .i64 fl)).setCell ⟨b9, 2, none⟩ (.slice a5 lq c5)).setCell ⟨b9, 3, none⟩ (.slice none 0 0)).setCell ⟨b9, 4, none⟩ (.slice none 0 0)).setCell ⟨b9, 5, none⟩ (.slice none 0 0) = X := ⟨_, rfl⟩
    rw [hwn] at k6 hst ⊢
    clear hwn
    replace HZZ := Lib.hid (below_aside HZZ.out hst (fun k hk => ⟨Nat.lt_of_lt_of_le hk HWS.out, by have := HB9.out; omega⟩))
    replace HWS := Lib.hid (Nat.le_trans HWS.out hst.size)
    replace HR1 := Lib.hid (show OwnQn _ _ _ _ from row_aside HR1.out hst fun k hk hg => HD19.out k hk hg)
    replace HR2 := Lib.hid (show OwnQn _ _ _ _ from row_aside HR2.out hst fun k hk hg => HD29.out k hk hg)
    replace HZ9 := Lib.hid k6
    replace HZ8 := Lib.hid (HZ8.out.aside (by simp) hst (by have := HDD.out; omega))
    clear k6 hst
    obtain ⟨wc, hwc⟩ : ∃ X, wn = X := ⟨_, rfl⟩
    rw [hwc] at HZZ HWS HR1 HR2 HZ8 HZ9 ⊢
    clear hwc
    refine hK.out _ _ ⟨(cel_z HX.out HZE.out HZZ.out).six, (cel_z HI.out HZE.out HZZ.out).six⟩ (fun hHeld => ?_)
    clear hK K
    try simp only [Act.put, List.setIfInBounds_toArray, List.set_cons_zero, List.set_cons_succ]
    refine wpAnyH_done (by kernel_rfl) ?_ _
    clear hHeld
    rotate_left 1
    go_simp
    have hone := cel_new6 wc (.int .i64 0) (.int .i64 0) (.slice none 0 0) (.slice none 0 0) (.slice none 0 0) (.slice none 0 0) 25
    have hb : Below wc.heap.size wc (wc.alloc (.cells #[.int .i64 0, .int .i64 0, .slice none 0 0, .slice none 0 0, .slice none 0 0, .slice none 0 0] 25)) := (Below.refl _ _).alloc (Nat.le_refl _) _
    obtain ⟨b8, hb8⟩ : ∃ g, wc.heap.size = g := ⟨_, rfl⟩
    have hzz := HWS.out
    rw [hb8] at hzz
    have hlt1 := World.ownsRow.lt HR1.out
    have HD18 := Lib.hid (show ∀ k, (Value.slice a2 lq c2).ownBlock = some k → k ≠ b8 from fun k hk => by have := (hlt1 k hk).2; omega)
    clear hlt1
    obtain ⟨wn, hwn⟩ : ∃ X, wc.alloc (.cells #[.int .i64 0, .int .i64 0, .slice none 0 0, .slice none 0 0, .slice none 0 0, .slice none 0 0] 25) = X := ⟨_, rfl⟩
    rw [hwn, hb8] at hone
    rw [hwn] at hb
    rw [hwn, hb8]
    clear hwn hb8
    replace HZZ := Lib.hid (below_aside HZZ.out (Aside.of_all hb : Aside (fun _ => False) _ _) (fun k hk => ⟨Nat.lt_of_lt_of_le hk HWS.out, id⟩))
    replace HWS := Lib.hid (Nat.le_trans HWS.out hb.size)
    replace HR1 := Lib.hid (show OwnQn _ _ _ _ from row_below HR1.out hb)
    clear hb
    have HZ8 := Lib.hid hone
    have HB8 := Lib.hid hzz
    clear hone hzz
    obtain ⟨wc, hwc⟩ : ∃ X, wn = X := ⟨_, rfl⟩
    rw [hwc] at HZZ HWS HZ8 HR1 ⊢
    clear hwc
    refine hK.out _ _ ⟨(cel_z HX.out HZE.out HZZ.out).six, (cel_z HI.out HZE.out HZZ.out).six⟩ (fun hHeld => ?_)
    clear hK K
    try simp only [Act.put, List.setIfInBounds_toArray, List.set_cons_zero, List.set_cons_succ]
    refine wpAnyH_ready (rs := [5, 7]) (by kernel_rfl) (by simp) ?_
    refine AllReadyH.cons (o := { dst := some 20, op := Op.call { callee := Callee.value (Operand.func 20), args := #[Operand.tmp 18, Operand.tmp 19], argTypes := #[25, 3] }, type := 25, pos := "law.go:49", after := #[{ on := 3, ground := Ground.data }, { on := 4, ground := Ground.data }, { on := 2, ground := Ground.chain }], guard := none }) rfl (fun K hK => ?_) (AllReadyH.cons (o := { dst := some 9, op := Op.alloc 25, type := 0, pos := "law.go:49", after := #[], guard := none }) rfl (fun K hK => ?_) (AllReadyH.nil))
    go_simp
    obtain ⟨s1, hs1⟩ : ∃ g, wc.heap.size = g := ⟨_, rfl⟩
    have hsz := HWS.out
    rw [hs1] at hsz
    have hz8 := HZ8.out.lt (by simp)
    rw [hs1] at hz8
    refine (replyR_any c (mg_z HM.out HZE.out HZZ.out) HWS.out (by rw [HLQ.out]; omega) (fun x hx => Nat.le_trans (HNM.out x hx) (by decide))).mono ?_; rintro e0 wc ⟨qv, rfl, ho, hb⟩
    rw [HI0.out, HF0.out, HFL.out]
    obtain ⟨a5, c5, rfl⟩ := row_shape ho
    rw [HLQ.out]
    rw [HLQ.out, hs1] at ho
    have hlt := World.ownsRow.lt ho
    have HD28 := Lib.hid (show ∀ k, (Value.slice a5 lq c5).ownBlock = some k → k ≠ b8 from fun k hk => by have := (hlt k hk).1; omega)
    clear hz8
    replace HZZ := Lib.hid (below_aside HZZ.out (Aside.of_all hb : Aside (fun _ => False) _ _) (fun k hk => ⟨Nat.lt_of_lt_of_le hk HWS.out, id⟩))
    replace HWS := Lib.hid (Nat.le_trans HWS.out hb.size)
    replace HR1 := Lib.hid (show OwnQn _ _ _ _ from row_below HR1.out hb)
    replace HZ8 := Lib.hid (HZ8.out.below (by simp) hb)
    clear hb
    have HR2 := Lib.hid (show OwnQn _ Z (.slice a5 lq c5) m.q from row_base ho hsz)
    clear ho hlt hs1 hsz
    focus (try go_wp2_with fail)
    refine hK.out _ _ ⟨(cel_z HX.out HZE.out HZZ.out).six, (cel_z HI.out HZE.out HZZ.out).six⟩ (fun hHeld => ?_)
    clear hK K
    try simp only [Act.put, List.setIfInBounds_toArray, List.set_cons_zero, List.set_cons_succ]
    refine wpAnyH_ready (rs := [7]) (by kernel_rfl) (by simp) ?_
    refine AllReadyH.cons (o := { dst := some 9, op := Op.alloc 25, type := 0, pos := "law.go:49", after := #[], guard := none }) rfl (fun K hK => ?_) (AllReadyH.nil)
    go_simp
    have hone := cel_new6 wc (.int .i64 0) (.int .i64 0) (.slice none 0 0) (.slice none 0 0) (.slice none 0 0) (.slice none 0 0) 25
    have hb : Below wc.heap.size wc (wc.alloc (.cells #[.int .i64 0, .int .i64 0, .slice none 0 0, .slice none 0 0, .slice none 0 0, .slice none 0 0] 25)) := (Below.refl _ _).alloc (Nat.le_refl _) _
    obtain ⟨b9, hb9⟩ : ∃ g, wc.heap.size = g := ⟨_, rfl⟩
    have hzz := HWS.out
    rw [hb9] at hzz
    have hlt1 := World.ownsRow.lt HR1.out
    have HD19 := Lib.hid (show ∀ k, (Value.slice a2 lq c2).ownBlock = some k → k ≠ b9 from fun k hk => by have := (hlt1 k hk).2; omega)
    clear hlt1
    have hlt2 := World.ownsRow.lt HR2.out
    have HD29 := Lib.hid (show ∀ k, (Value.slice a5 lq c5).ownBlock = some k → k ≠ b9 from fun k hk => by have := (hlt2 k hk).2; omega)
    clear hlt2
    have HDD := Lib.hid (show b8 < b9 by have := HZ8.out.lt (by simp); omega)
    obtain ⟨wn, hwn⟩ : ∃ X, wc.alloc (.cells #[.int .i64 0, .int .i64 0, .slice none 0 0, .slice none 0 0, .slice none 0 0, .slice none 0 0] 25) = X := ⟨_, rfl⟩
    rw [hwn, hb9] at hone
    rw [hwn] at hb
    rw [hwn, hb9]
    clear hwn hb9
    replace HZZ := Lib.hid (below_aside HZZ.out (Aside.of_all hb : Aside (fun _ => False) _ _) (fun k hk => ⟨Nat.lt_of_lt_of_le hk HWS.out, id⟩))
    replace HWS := Lib.hid (Nat.le_trans HWS.out hb.size)
    replace HR1 := Lib.hid (show OwnQn _ _ _ _ from row_below HR1.out hb)
    replace HR2 := Lib.hid (show OwnQn _ _ _ _ from row_below HR2.out hb)
    replace HZ8 := Lib.hid (HZ8.out.below (by simp) hb)
    clear hb
    have HZ9 := Lib.hid hone
    have HB9 := Lib.hid hzz
    clear hone hzz
    obtain ⟨wc, hwc⟩ : ∃ X, wn = X := ⟨_, rfl⟩
    rw [hwc] at HZZ HWS HZ9 HR1 HR2 HZ8 ⊢
    clear hwc
    refine hK.out _ _ ⟨(cel_z HX.out HZE.out HZZ.out).six, (cel_z HI.out HZE.out HZZ.out).six⟩ (fun hHeld => ?_)
    clear hK K
    try simp only [Act.put, List.setIfInBounds_toArray, List.set_cons_zero, List.set_cons_succ]
    refine wpAnyH_ready (rs := [8]) (by kernel_rfl) (by simp) ?_
    refine AllReadyH.cons (o := { dst := none, op := Op.store 25 (Operand.tmp 8) (Operand.tmp 17), type := 0, pos := "law.go:49", after := #[{ on := 6, ground := Ground.data }, { on := 2, ground := Ground.data }, { on := 5, ground := Ground.chain }, { on := 0, ground := Ground.phase }, { on := 1, ground := Ground.phase }, { on := 2, ground := Ground.phase }, { on := 3, ground := Ground.textOnly Departure.lateStores }, { on := 4, ground := Ground.textOnly Departure.lateStores }, { on := 5, ground := Ground.textOnly Departure.lateStoresUnsure }, { on := 6, ground := Ground.phase }, { on := 7, ground := Ground.phase }], guard := none }) rfl (fun K hK => ?_) (AllReadyH.nil)
    obtain ⟨z0, z1, z2, z3, z4, z5⟩ := HZ8.out.six
    have fz := HZ8.out.fz
    go_simp
    clear z0 z1 z2 z3 z4 z5 fz
    have k6 := cel_put6 HZ8.out (.int .i64 i0) (.int .i64 fl) (.slice a2 lq c2) (.slice none 0 0) (.slice none 0 0) (.slice none 0 0)
    have hst := aside_put6 wc b8 (.int .i64 i0) (.int .i64 fl) (.slice a2 lq c2) (.slice none 0 0) (.slice none 0 0) (.slice none 0 0)
    unfold put6 at k6 hst
    obtain ⟨wn, hwn⟩ : ∃ X, (((((wc.setCell ⟨b8, 0, none⟩ (.int .i64 i0)).setCell ⟨b8, 1, none⟩ (.int .i64 fl)).setCell ⟨b8, 2, none⟩ (.slice a2 lq c2)).setCell ⟨b8, 3, none⟩ (.slice none 0 0)).setCell ⟨b8, 4, none⟩ (.slice none 0 0)).setCell ⟨b8, 5, none⟩ (.slice none 0 0) = X := ⟨_, rfl⟩
    rw [hwn] at k6 hst ⊢
    clear hwn
    replace HZZ := Lib.hid (below_aside HZZ.out hst (fun k hk => ⟨Nat.lt_of_lt_of_le hk HWS.out, by have := HB8.out; omega⟩))
    replace HWS := Lib.hid (Nat.le_trans HWS.out hst.size)
    replace HR1 := Lib.hid (show OwnQn _ _ _ _ from row_aside HR1.out hst fun k hk hg => HD18.out k hk hg)
    replace HR2 := Lib.hid (show OwnQn _ _ _ _ from row_aside HR2.out hst fun k hk hg => HD28.out k hk hg)
    replace HZ8 := Lib.hid k6
    replace HZ9 := Lib.hid (HZ9.out.aside (by simp) hst (by have := HDD.out; omega))
    clear k6 hst
    obtain ⟨wc, hwc⟩ : ∃ X, wn = X := ⟨_, rfl⟩
    rw [hwc] at HZZ HWS HR1 HR2 HZ8 HZ9 ⊢
    clear hwc
    refine hK.out _ _ ⟨(cel_z HX.out HZE.out HZZ.out).six, (cel_z HI.out HZE.out HZZ.out).six⟩ (fun hHeld => ?_)
    clear hK K
    try simp only [Act.put, List.setIfInBounds_toArray, List.set_cons_zero, List.set_cons_succ]
    refine wpAnyH_ready (rs := [9]) (by kernel_rfl) (by simp) ?_
    refine AllReadyH.cons (o := { dst := none, op := Op.store 25 (Operand.tmp 9) (Operand.tmp 20), type := 0, pos := "law.go:49", after := #[{ on := 7, ground := Ground.data }, { on := 5, ground := Ground.data }, { on := 8, ground := Ground.chain }, { on := 0, ground := Ground.phase }, { on := 1, ground := Ground.phase }, { on := 2, ground := Ground.phase }, { on := 3, ground := Ground.phase }, { on := 4, ground := Ground.phase }, { on := 5, ground := Ground.phase }, { on := 6, ground := Ground.phase }, { on := 7, ground := Ground.phase }, { on := 8, ground := Ground.phase }], guard := none }) rfl (fun K hK => ?_) (AllReadyH.nil)
    obtain ⟨z0, z1, z2, z3, z4, z5⟩ := HZ9.out.six
    have fz := HZ9.out.fz
    go_simp
    clear z0 z1 z2 z3 z4 z5 fz
    have k6 := cel_put6 HZ9.out (.int .i64 i0) (.int .i64 fl) (.slice a5 lq c5) (.slice none 0 0) (.slice none 0 0) (.slice none 0 0)
    have hst := aside_put6 wc b9 (.int .i64 i0) (.int .i64 fl) (.slice a5 lq c5) (.slice none 0 0) (.slice none 0 0) (.slice none 0 0)
    unfold put6 at k6 hst
    obtain ⟨wn, hwn⟩ : ∃ X, (((((wc.setCell ⟨b9, 0, none⟩ (.int .i64 i0)).setCell ⟨b9, 1, none⟩ (.int .i64 fl)).setCell ⟨b9, 2, none⟩ (.slice a5 lq c5)).setCell ⟨b9, 3, none⟩ (.slice none 0 0)).setCell ⟨b9, 4, none⟩ (.slice none 0 0)).setCell ⟨b9, 5, none⟩ (.slice none 0 0) = X := ⟨_, rfl⟩
    rw [hwn] at k6 hst ⊢
    clear hwn
    replace HZZ := Lib.hid (below_aside HZZ.out hst (fun k hk => ⟨Nat.lt_of_lt_of_le hk HWS.out, by have := HB9.out; omega⟩))
    replace HWS := Lib.hid (Nat.le_trans HWS.out hst.size)
    replace HR1 := Lib.hid (show OwnQn _ _ _ _ from row_aside HR1.out hst fun k hk hg => HD19.out k hk hg)
    replace HR2 := Lib.hid (show OwnQn _ _ _ _ from row_aside HR2.out hst fun k hk hg => HD29.out k hk hg)
    replace HZ9 := Lib.hid k6
    replace HZ8 := Lib.hid (HZ8.out.aside (by simp) hst (by have := HDD.out; omega))
    clear k6 hst
    obtain ⟨wc, hwc⟩ : ∃ X, wn = X := ⟨_, rfl⟩
    rw [hwc] at HZZ HWS HR1 HR2 HZ8 HZ9 ⊢
    clear hwc
    refine hK.out _ _ ⟨(cel_z HX.out HZE.out HZZ.out).six, (cel_z HI.out HZE.out HZZ.out).six⟩ (fun hHeld => ?_)
    clear hK K
    try simp only [Act.put, List.setIfInBounds_toArray, List.set_cons_zero, List.set_cons_succ]
    refine wpAnyH_done (by kernel_rfl) ?_ _
    clear hHeld
    rotate_left 1
    go_simp
    have hone := cel_new6 wc (.int .i64 0) (.int .i64 0) (.slice none 0 0) (.slice none 0 0) (.slice none 0 0) (.slice none 0 0) 25
    have hb : Below wc.heap.size wc (wc.alloc (.cells #[.int .i64 0, .int .i64 0, .slice none 0 0, .slice none 0 0, .slice none 0 0, .slice none 0 0] 25)) := (Below.refl _ _).alloc (Nat.le_refl _) _
    obtain ⟨b9, hb9⟩ : ∃ g, wc.heap.size = g := ⟨_, rfl⟩
    have hzz := HWS.out
    rw [hb9] at hzz
    have hlt1 := World.ownsRow.lt HR1.out
    have HD19 := Lib.hid (show ∀ k, (Value.slice a2 lq c2).ownBlock = some k → k ≠ b9 from fun k hk => by have := (hlt1 k hk).2; omega)
    clear hlt1
    have HDD := Lib.hid (show b8 < b9 by have := HZ8.out.lt (by simp); omega)
    obtain ⟨wn, hwn⟩ : ∃ X, wc.alloc (.cells #[.int .i64 0, .int .i64 0, .slice none 0 0, .slice none 0 0, .slice none 0 0, .slice none 0 0] 25) = X := ⟨_, rfl⟩
    rw [hwn, hb9] at hone
    rw [hwn] at hb
    rw [hwn, hb9]
    clear hwn hb9
    replace HZZ := Lib.hid (below_aside HZZ.out (Aside.of_all hb : Aside (fun _ => False) _ _) (fun k hk => ⟨Nat.lt_of_lt_of_le hk HWS.out, id⟩))
    replace HWS := Lib.hid (Nat.le_trans HWS.out hb.size)
    replace HR1 := Lib.hid (show OwnQn _ _ _ _ from row_below HR1.out hb)
    replace HZ8 := Lib.hid (HZ8.out.below (by simp) hb)
    clear hb
    have HZ9 := Lib.hid hone
    have HB9 := Lib.hid hzz
    clear hone hzz
    obtain ⟨wc, hwc⟩ : ∃ X, wn = X := ⟨_, rfl⟩
    rw [hwc] at HZZ HWS HZ9 HR1 HZ8 ⊢
    clear hwc
    refine hK.out _ _ ⟨(cel_z HX.out HZE.out HZZ.out).six, (cel_z HI.out HZE.out HZZ.out).six⟩ (fun hHeld => ?_)
    clear hK K
    try simp only [Act.put, List.setIfInBounds_toArray, List.set_cons_zero, List.set_cons_succ]
    refine wpAnyH_ready (rs := [5]) (by kernel_rfl) (by simp) ?_
    refine AllReadyH.cons (o := { dst := some 20, op := Op.call { callee := Callee.value (Operand.func 20), args := #[Operand.tmp 18, Operand.tmp 19], argTypes := #[25, 3] }, type := 25, pos := "law.go:49", after := #[{ on := 3, ground := Ground.data }, { on := 4, ground := Ground.data }, { on := 2, ground := Ground.chain }], guard := none }) rfl (fun K hK => ?_) (AllReadyH.nil)
    go_simp
    obtain ⟨s1, hs1⟩ : ∃ g, wc.heap.size = g := ⟨_, rfl⟩
    have hsz := HWS.out
    rw [hs1] at hsz
    have hz8 := HZ8.out.lt (by simp)
    rw [hs1] at hz8
    have hz9 := HZ9.out.lt (by simp)
    rw [hs1] at hz9
    refine (replyR_any c (mg_z HM.out HZE.out HZZ.out) HWS.out (by rw [HLQ.out]; omega) (fun x hx => Nat.le_trans (HNM.out x hx) (by decide))).mono ?_; rintro e0 wc ⟨qv, rfl, ho, hb⟩
    rw [HI0.out, HF0.out, HFL.out]
    obtain ⟨a5, c5, rfl⟩ := row_shape ho
    rw [HLQ.out]
    rw [HLQ.out, hs1] at ho
    have hlt := World.ownsRow.lt ho
    have HD28 := Lib.hid (show ∀ k, (Value.slice a5 lq c5).ownBlock = some k → k ≠ b8 from fun k hk => by have := (hlt k hk).1; omega)
    clear hz8
    have HD29 := Lib.hid (show ∀ k, (Value.slice a5 lq c5).ownBlock = some k → k ≠ b9 from fun k hk => by have := (hlt k hk).1; omega)
    clear hz9
    replace HZZ := Lib.hid (below_aside HZZ.out (Aside.of_all hb : Aside (fun _ => False) _ _) (fun k hk => ⟨Nat.lt_of_lt_of_le hk HWS.out, id⟩))
    replace HWS := Lib.hid (Nat.le_trans HWS.out hb.size)
    replace HR1 := Lib.hid (show OwnQn _ _ _ _ from row_below HR1.out hb)
    replace HZ8 := Lib.hid (HZ8.out.below (by simp) hb)
    replace HZ9 := Lib.hid (HZ9.out.below (by simp) hb)
    clear hb
    have HR2 := Lib.hid (show OwnQn _ Z (.slice a5 lq c5) m.q from row_base ho hsz)
    clear ho hlt hs1 hsz
    focus (try go_wp2_with fail)
    refine hK.out _ _ ⟨(cel_z HX.out HZE.out HZZ.out).six, (cel_z HI.out HZE.out HZZ.out).six⟩ (fun hHeld => ?_)
    clear hK K
    try simp only [Act.put, List.setIfInBounds_toArray, List.set_cons_zero, List.set_cons_succ]
    refine wpAnyH_ready (rs := [8]) (by kernel_rfl) (by simp) ?_
    refine AllReadyH.cons (o := { dst := none, op := Op.store 25 (Operand.tmp 8) (Operand.tmp 17), type := 0, pos := "law.go:49", after := #[{ on := 6, ground := Ground.data }, { on := 2, ground := Ground.data }, { on := 5, ground := Ground.chain }, { on := 0, ground := Ground.phase }, { on := 1, ground := Ground.phase }, { on := 2, ground := Ground.phase }, { on := 3, ground := Ground.textOnly Departure.lateStores }, { on := 4, ground := Ground.textOnly Departure.lateStores }, { on := 5, ground := Ground.textOnly Departure.lateStoresUnsure }, { on := 6, ground := Ground.phase }, { on := 7, ground := Ground.phase }], guard := none }) rfl (fun K hK => ?_) (AllReadyH.nil)
    obtain ⟨z0, z1, z2, z3, z4, z5⟩ := HZ8.out.six
    have fz := HZ8.out.fz
    go_simp
    clear z0 z1 z2 z3 z4 z5 fz
    have k6 := cel_put6 HZ8.out (.int .i64 i0) (.int .i64 fl) (.slice a2 lq c2) (.slice none 0 0) (.slice none 0 0) (.slice none 0 0)
    have hst := aside_put6 wc b8 (.int .i64 i0) (.int .i64 fl) (.slice a2 lq c2) (.slice none 0 0) (.slice none 0 0) (.slice none 0 0)
    unfold put6 at k6 hst
    obtain ⟨wn, hwn⟩ : ∃ X, (((((wc.setCell ⟨b8, 0, none⟩ (.int .i64 i0)).setCell ⟨b8, 1, none⟩ (.int .i64 fl)).setCell ⟨b8, 2, none⟩ (.slice a2 lq c2)).setCell ⟨b8, 3, none⟩ (.slice none 0 0)).setCell ⟨b8, 4, none⟩ (.slice none 0 0)).setCell ⟨b8, 5, none⟩ (.slice none 0 0) = X := ⟨_, rfl⟩
    rw [hwn] at k6 hst ⊢
    clear hwn
    replace HZZ := Lib.hid (below_aside HZZ.out hst (fun k hk => ⟨Nat.lt_of_lt_of_le hk HWS.out, by have := HB8.out; omega⟩))
    replace HWS := Lib.hid (Nat.le_trans HWS.out hst.size)
    replace HR1 := Lib.hid (show OwnQn _ _ _ _ from row_aside HR1.out hst fun k hk hg => HD18.out k hk hg)
    replace HR2 := Lib.hid (show OwnQn _ _ _ _ from row_aside HR2.out hst fun k hk hg => HD28.out k hk hg)
    replace HZ8 := Lib.hid k6
    replace HZ9 := Lib.hid (HZ9.out.aside (by simp) hst (by have := HDD.out; omega))
    clear k6 hst
    obtain ⟨wc, hwc⟩ : ∃ X, wn = X := ⟨_, rfl⟩
    rw [hwc] at HZZ HWS HR1 HR2 HZ8 HZ9 ⊢
    clear hwc
    refine hK.out _ _ ⟨(cel_z HX.out HZE.out HZZ.out).six, (cel_z HI.out HZE.out HZZ.out).six⟩ (fun hHeld => ?_)
    clear hK K
    try simp only [Act.put, List.setIfInBounds_toArray, List.set_cons_zero, List.set_cons_succ]
    refine wpAnyH_ready (rs := [9]) (by kernel_rfl) (by simp) ?_
    refine AllReadyH.cons (o := { dst := none, op := Op.store 25 (Operand.tmp 9) (Operand.tmp 20), type := 0, pos := "law.go:49", after := #[{ on := 7, ground := Ground.data }, { on := 5, ground := Ground.data }, { on := 8, ground := Ground.chain }, { on := 0, ground := Ground.phase }, { on := 1, ground := Ground.phase }, { on := 2, ground := Ground.phase }, { on := 3, ground := Ground.phase }, { on := 4, ground := Ground.phase }, { on := 5, ground := Ground.phase }, { on := 6, ground := Ground.phase }, { on := 7, ground := Ground.phase }, { on := 8, ground := Ground.phase }], guard := none }) rfl (fun K hK => ?_) (AllReadyH.nil)
    obtain ⟨z0, z1, z2, z3, z4, z5⟩ := HZ9.out.six
    have fz := HZ9.out.fz
    go_simp
    clear z0 z1 z2 z3 z4 z5 fz
    have k6 := cel_put6 HZ9.out (.int .i64 i0) (.int .i64 fl) (.slice a5 lq c5) (.slice none 0 0) (.slice none 0 0) (.slice none 0 0)
    have hst := aside_put6 wc b9 (.int .i64 i0) (.int .i64 fl) (.slice a5 lq c5) (.slice none 0 0) (.slice none 0 0) (.slice none 0 0)
    unfold put6 at k6 hst
    obtain ⟨wn, hwn⟩ : ∃ X, (((((wc.setCell ⟨b9, 0, none⟩ (.int .i64 i0)).setCell ⟨b9, 1, none⟩ (.int .i64 fl)).setCell ⟨b9, 2, none⟩ (.slice a5 lq c5)).setCell ⟨b9, 3, none⟩ (.slice none 0 0)).setCell ⟨b9, 4, none⟩ (.slice none 0 0)).setCell ⟨b9, 5, none⟩ (.slice none 0 0) = X := ⟨_, rfl⟩
    rw [hwn] at k6 hst ⊢
    clear hwn
    replace HZZ := Lib.hid (below_aside HZZ.out hst (fun k hk => ⟨Nat.lt_of_lt_of_le hk HWS.out, by have := HB9.out; omega⟩))
    replace HWS := Lib.hid (Nat.le_trans HWS.out hst.size)
    replace HR1 := Lib.hid (show OwnQn _ _ _ _ from row_aside HR1.out hst fun k hk hg => HD19.out k hk hg)
    replace HR2 := Lib.hid (show OwnQn _ _ _ _ from row_aside HR2.out hst fun k hk hg => HD29.out k hk hg)
    replace HZ9 := Lib.hid k6
    replace HZ8 := Lib.hid (HZ8.out.aside (by simp) hst (by have := HDD.out; omega))
    clear k6 hst
    obtain ⟨wc, hwc⟩ : ∃ X, wn = X := ⟨_, rfl⟩
    rw [hwc] at HZZ HWS HR1 HR2 HZ8 HZ9 ⊢
    clear hwc
    refine hK.out _ _ ⟨(cel_z HX.out HZE.out HZZ.out).six, (cel_z HI.out HZE.out HZZ.out).six⟩ (fun hHeld => ?_)
    clear hK K
    try simp only [Act.put, List.setIfInBounds_toArray, List.set_cons_zero, List.set_cons_succ]
    refine wpAnyH_done (by kernel_rfl) ?_ _
    clear hHeld
    rotate_left 1
    go_simp
    have hone := cel_new6 wc (.int .i64 0) (.int .i64 0) (.slice none 0 0) (.slice none 0 0) (.slice none 0 0) (.slice none 0 0) 25
    have hb : Below wc.heap.size wc (wc.alloc (.cells #[.int .i64 0, .int .i64 0, .slice none 0 0, .slice none 0 0, .slice none 0 0, .slice none 0 0] 25)) := (Below.refl _ _).alloc (Nat.le_refl _) _
    obtain ⟨b9, hb9⟩ : ∃ g, wc.heap.size = g := ⟨_, rfl⟩
    have hzz := HWS.out
    rw [hb9] at hzz
    have hlt1 := World.ownsRow.lt HR1.out
    have HD19 := Lib.hid (show ∀ k, (Value.slice a2 lq c2).ownBlock = some k → k ≠ b9 from fun k hk => by have := (hlt1 k hk).2; omega)
    clear hlt1
    obtain ⟨wn, hwn⟩ : ∃ X, wc.alloc (.cells #[.int .i64 0, .int .i64 0, .slice none 0 0, .slice none 0 0, .slice none 0 0, .slice none 0 0] 25) = X := ⟨_, rfl⟩
    rw [hwn, hb9] at hone
    rw [hwn] at hb
    rw [hwn, hb9]
    clear hwn hb9
    replace HZZ := Lib.hid (below_aside HZZ.out (Aside.of_all hb : Aside (fun _ => False) _ _) (fun k hk => ⟨Nat.lt_of_lt_of_le hk HWS.out, id⟩))
    replace HWS := Lib.hid (Nat.le_trans HWS.out hb.size)
    replace HR1 := Lib.hid (show OwnQn _ _ _ _ from row_below HR1.out hb)
    clear hb
    have HZ9 := Lib.hid hone
    have HB9 := Lib.hid hzz
    clear hone hzz
    obtain ⟨wc, hwc⟩ : ∃ X, wn = X := ⟨_, rfl⟩
    rw [hwc] at HZZ HWS HZ9 HR1 ⊢
    clear hwc
    refine hK.out _ _ ⟨(cel_z HX.out HZE.out HZZ.out).six, (cel_z HI.out HZE.out HZZ.out).six⟩ (fun hHeld => ?_)
    clear hK K
    try simp only [Act.put, List.setIfInBounds_toArray, List.set_cons_zero, List.set_cons_succ]
    refine wpAnyH_ready (rs := [5, 6]) (by kernel_rfl) (by simp) ?_
    refine AllReadyH.cons (o := { dst := some 20, op := Op.call { callee := Callee.value (Operand.func 20), args := #[Operand.tmp 18, Operand.tmp 19], argTypes := #[25, 3] }, type := 25, pos := "law.go:49", after := #[{ on := 3, ground := Ground.data }, { on := 4, ground := Ground.data }, { on := 2, ground := Ground.chain }], guard := none }) rfl (fun K hK => ?_) (AllReadyH.cons (o := { dst := some 8, op := Op.alloc 25, type := 0, pos := "law.go:49", after := #[], guard := none }) rfl (fun K hK => ?_) (AllReadyH.nil))
    go_simp
    obtain ⟨s1, hs1⟩ : ∃ g, wc.heap.size = g := ⟨_, rfl⟩
    have hsz := HWS.out
    rw [hs1] at hsz
    have hz9 := HZ9.out.lt (by simp)
    rw [hs1] at hz9
    refine (replyR_any c (mg_z HM.out HZE.out HZZ.out) HWS.out (by rw [HLQ.out]; omega) (fun x hx => Nat.le_trans (HNM.out x hx) (by decide))).mono ?_; rintro e0 wc ⟨qv, rfl, ho, hb⟩
    rw [HI0.out, HF0.out, HFL.out]
    obtain ⟨a5, c5, rfl⟩ := row_shape ho
    rw [HLQ.out]
    rw [HLQ.out, hs1] at ho
    have hlt := World.ownsRow.lt ho
    have HD29 := Lib.hid (show ∀ k, (Value.slice a5 lq c5).ownBlock = some k → k ≠ b9 from fun k hk => by have := (hlt k hk).1; omega)
    clear hz9
    replace HZZ := Lib.hid (below_aside HZZ.out (Aside.of_all hb : Aside (fun _ => False) _ _) (fun k hk => ⟨Nat.lt_of_lt_of_le hk HWS.out, id⟩))
    replace HWS := Lib.hid (Nat.le_trans HWS.out hb.size)
    replace HR1 := Lib.hid (show OwnQn _ _ _ _ from row_below HR1.out hb)
    replace HZ9 := Lib.hid (HZ9.out.below (by simp) hb)
    clear hb
    have HR2 := Lib.hid (show OwnQn _ Z (.slice a5 lq c5) m.q from row_base ho hsz)
    clear ho hlt hs1 hsz
    focus (try go_wp2_with fail)
    refine hK.out _ _ ⟨(cel_z HX.out HZE.out HZZ.out).six, (cel_z HI.out HZE.out HZZ.out).six⟩ (fun hHeld => ?_)
    clear hK K
    try simp only [Act.put, List.setIfInBounds_toArray, List.set_cons_zero, List.set_cons_succ]
    refine wpAnyH_ready (rs := [6]) (by kernel_rfl) (by simp) ?_
    refine AllReadyH.cons (o := { dst := some 8, op := Op.alloc 25, type := 0, pos := "law.go:49", after := #[], guard := none }) rfl (fun K hK => ?_) (AllReadyH.nil)
    go_simp
    have hone := cel_new6 wc (.int .i64 0) (.int .i64 0) (.slice none 0 0) (.slice none 0 0) (.slice none 0 0) (.slice none 0 0) 25
    have hb : Below wc.heap.size wc (wc.alloc (.cells #[.int .i64 0, .int .i64 0, .slice none 0 0, .slice none 0 0, .slice none 0 0, .slice none 0 0] 25)) := (Below.refl _ _).alloc (Nat.le_refl _) _
    obtain ⟨b8, hb8⟩ : ∃ g, wc.heap.size = g := ⟨_, rfl⟩
    have hzz := HWS.out
    rw [hb8] at hzz
    have hlt1 := World.ownsRow.lt HR1.out
    have HD18 := Lib.hid (show ∀ k, (Value.slice a2 lq c2).ownBlock = some k → k ≠ b8 from fun k hk => by have := (hlt1 k hk).2; omega)
    clear hlt1
    have hlt2 := World.ownsRow.lt HR2.out
    have HD28 := Lib.hid (show ∀ k, (Value.slice a5 lq c5).ownBlock = some k → k ≠ b8 from fun k hk => by have := (hlt2 k hk).2; omega)
    clear hlt2
    have HDD := Lib.hid (show b9 < b8 by have := HZ9.out.lt (by simp); omega)
    obtain ⟨wn, hwn⟩ : ∃ X, wc.alloc (.cells #[.int .i64 0, .int .i64 0, .slice none 0 0, .slice none 0 0, .slice none 0 0, .slice none 0 0] 25) = X := ⟨_, rfl⟩
    rw [hwn, hb8] at hone
    rw [hwn] at hb
    rw [hwn, hb8]
    clear hwn hb8
    replace HZZ := Lib.hid (below_aside HZZ.out (Aside.of_all hb : Aside (fun _ => False) _ _) (fun k hk => ⟨Nat.lt_of_lt_of_le hk HWS.out, id⟩))
    replace HWS := Lib.hid (Nat.le_trans HWS.out hb.size)
    replace HR1 := Lib.hid (show OwnQn _ _ _ _ from row_below HR1.out hb)
    replace HR2 := Lib.hid (show OwnQn _ _ _ _ from row_below HR2.out hb)
    replace HZ9 := Lib.hid (HZ9.out.below (by simp) hb)
    clear hb
    have HZ8 := Lib.hid hone
    have HB8 := Lib.hid hzz
    clear hone hzz
    obtain ⟨wc, hwc⟩ : ∃ X, wn = X := ⟨_, rfl⟩
    rw [hwc] at HZZ HWS HZ8 HR1 HR2 HZ9 ⊢
    clear hwc
    refine hK.out _ _ ⟨(cel_z HX.out HZE.out HZZ.out).six, (cel_z HI.out HZE.out HZZ.out).six⟩ (fun hHeld => ?_)
    clear hK K
    try simp only [Act.put, List.setIfInBounds_toArray, List.set_cons_zero, List.set_cons_succ]
    refine wpAnyH_ready (rs := [8]) (by kernel_rfl) (by simp) ?_
    refine AllReadyH.cons (o := { dst := none, op := Op.store 25 (Operand.tmp 8) (Operand.tmp 17), type := 0, pos := "law.go:49", after := #[{ on := 6, ground := Ground.data }, { on := 2, ground := Ground.data }, { on := 5, ground := Ground.chain }, { on := 0, ground := Ground.phase }, { on := 1, ground := Ground.phase }, { on := 2, ground := Ground.phase }, { on := 3, ground := Ground.textOnly Departure.lateStores }, { on := 4, ground := Ground.textOnly Departure.lateStores }, { on := 5, ground := Ground.textOnly Departure.lateStoresUnsure }, { on := 6, ground := Ground.phase }, { on := 7, ground := Ground.phase }], guard := none }) rfl (fun K hK => ?_) (AllReadyH.nil)
    obtain ⟨z0, z1, z2, z3, z4, z5⟩ := HZ8.out.six
    have fz := HZ8.out.fz
    go_simp
    clear z0 z1 z2 z3 z4 z5 fz
    have k6 := cel_put6 HZ8.out (.int .i64 i0) (.int .i64 fl) (.slice a2 lq c2) (.slice none 0 0) (.slice none 0 0) (.slice none 0 0)
    have hst := aside_put6 wc b8 (.int .i64 i0) (.int .i64 fl) (.slice a2 lq c2) (.slice none 0 0) (.slice none 0 0) (.slice none 0 0)
    unfold put6 at k6 hst
    obtain ⟨wn, hwn⟩ : ∃ X, (((((wc.setCell ⟨b8, 0, none⟩ (.int .i64 i0)).setCell ⟨b8, 1, none⟩ (.int .i64 fl)).setCell ⟨b8, 2, none⟩ (.slice a2 lq c2)).setCell ⟨b8, 3, none⟩ (.slice none 0 0)).setCell ⟨b8, 4, none⟩ (.slice none 0 0)).setCell ⟨b8, 5, none⟩ (.slice none 0 0) = X := ⟨_, rfl⟩
    rw [hwn] at k6 hst ⊢
    clear hwn
    replace HZZ := Lib.hid (below_aside HZZ.out hst (fun k hk => ⟨Nat.lt_of_lt_of_le hk HWS.out, by have := HB8.out; omega⟩))
    replace HWS := Lib.hid (Nat.le_trans HWS.out hst.size)
    replace HR1 := Lib.hid (show OwnQn _ _ _ _ from row_aside HR1.out hst fun k hk hg => HD18.out k hk hg)
    replace HR2 := Lib.hid (show OwnQn _ _ _ _ from row_aside HR2.out hst fun k hk hg => HD28.out k hk hg)
    replace HZ8 := Lib.hid k6
    replace HZ9 := Lib.hid (HZ9.out.aside (by simp) hst (by have := HDD.out; omega))
    clear k6 hst
    obtain ⟨wc, hwc⟩ : ∃ X, wn = X := ⟨_, rfl⟩
    rw [hwc] at HZZ HWS HR1 HR2 HZ8 HZ9 ⊢
    clear hwc
    refine hK.out _ _ ⟨(cel_z HX.out HZE.out HZZ.out).six, (cel_z HI.out HZE.out HZZ.out).six⟩ (fun hHeld => ?_)
    clear hK K
    try simp only [Act.put, List.setIfInBounds_toArray, List.set_cons_zero, List.set_cons_succ]
    refine wpAnyH_ready (rs := [9]) (by kernel_rfl) (by simp) ?_
    refine AllReadyH.cons (o := { dst := none, op := Op.store 25 (Operand.tmp 9) (Operand.tmp 20), type := 0, pos := "law.go:49", after := #[{ on := 7, ground := Ground.data }, { on := 5, ground := Ground.data }, { on := 8, ground := Ground.chain }, { on := 0, ground := Ground.phase }, { on := 1, ground := Ground.phase }, { on := 2, ground := Ground.phase }, { on := 3, ground := Ground.phase }, { on := 4, ground := Ground.phase }, { on := 5, ground := Ground.phase }, { on := 6, ground := Ground.phase }, { on := 7, ground := Ground.phase }, { on := 8, ground := Ground.phase }], guard := none }) rfl (fun K hK => ?_) (AllReadyH.nil)
    obtain ⟨z0, z1, z2, z3, z4, z5⟩ := HZ9.out.six
    have fz := HZ9.out.fz
    go_simp
    clear z0 z1 z2 z3 z4 z5 fz
    have k6 := cel_put6 HZ9.out (.int .i64 i0) (.int .i64 fl) (.slice a5 lq c5) (.slice none 0 0) (.slice none 0 0) (.slice none 0 0)
    have hst := aside_put6 wc b9 (.int .i64 i0) (.int .i64 fl) (.slice a5 lq c5) (.slice none 0 0) (.slice none 0 0) (.slice none 0 0)
    unfold put6 at k6 hst
    obtain ⟨wn, hwn⟩ : ∃ X, (((((wc.setCell ⟨b9, 0, none⟩ (.int .i64 i0)).setCell ⟨b9, 1, none⟩ (.int .i64 fl)).setCell ⟨b9, 2, none⟩ (.slice a5 lq c5)).setCell ⟨b9, 3, none⟩ (.slice none 0 0)).setCell ⟨b9, 4, none⟩ (.slice none 0 0)).setCell ⟨b9, 5, none⟩ (.slice none 0 0) = X := ⟨_, rfl⟩
    rw [hwn] at k6 hst ⊢
    clear hwn
    replace HZZ := Lib.hid (below_aside HZZ.out hst (fun k hk => ⟨Nat.lt_of_lt_of_le hk HWS.out, by have := HB9.out; omega⟩))
    replace HWS := Lib.hid (Nat.le_trans HWS.out hst.size)
    replace HR1 := Lib.hid (show OwnQn _ _ _ _ from row_aside HR1.out hst fun k hk hg => HD19.out k hk hg)
    replace HR2 := Lib.hid (show OwnQn _ _ _ _ from row_aside HR2.out hst fun k hk hg => HD29.out k hk hg)
    replace HZ9 := Lib.hid k6
    replace HZ8 := Lib.hid (HZ8.out.aside (by simp) hst (by have := HDD.out; omega))
    clear k6 hst
    obtain ⟨wc, hwc⟩ : ∃ X, wn = X := ⟨_, rfl⟩
    rw [hwc] at HZZ HWS HR1 HR2 HZ8 HZ9 ⊢
    clear hwc
    refine hK.out _ _ ⟨(cel_z HX.out HZE.out HZZ.out).six, (cel_z HI.out HZE.out HZZ.out).six⟩ (fun hHeld => ?_)
    clear hK K
    try simp only [Act.put, List.setIfInBounds_toArray, List.set_cons_zero, List.set_cons_succ]
    refine wpAnyH_done (by kernel_rfl) ?_ _
    clear hHeld
    rotate_left 1
    go_simp
    have hone := cel_new6 wc (.int .i64 0) (.int .i64 0) (.slice none 0 0) (.slice none 0 0) (.slice none 0 0) (.slice none 0 0) 25
    have hb : Below wc.heap.size wc (wc.alloc (.cells #[.int .i64 0, .int .i64 0, .slice none 0 0, .slice none 0 0, .slice none 0 0, .slice none 0 0] 25)) := (Below.refl _ _).alloc (Nat.le_refl _) _
    obtain ⟨b8, hb8⟩ : ∃ g, wc.heap.size = g := ⟨_, rfl⟩
    have hzz := HWS.out
    rw [hb8] at hzz
    have hlt1 := World.ownsRow.lt HR1.out
    have HD18 := Lib.hid (show ∀ k, (Value.slice a2 lq c2).ownBlock = some k → k ≠ b8 from fun k hk => by have := (hlt1 k hk).2; omega)
    clear hlt1
    have HDD := Lib.hid (show b9 < b8 by have := HZ9.out.lt (by simp); omega)
    obtain ⟨wn, hwn⟩ : ∃ X, wc.alloc (.cells #[.int .i64 0, .int .i64 0, .slice none 0 0, .slice none 0 0, .slice none 0 0, .slice none 0 0] 25) = X := ⟨_, rfl⟩
    rw [hwn, hb8] at hone
    rw [hwn] at hb
    rw [hwn, hb8]
    clear hwn hb8
    replace HZZ := Lib.hid (below_aside HZZ.out (Aside.of_all hb : Aside (fun _ => False) _ _) (fun k hk => ⟨Nat.lt_of_lt_of_le hk HWS.out, id⟩))
    replace HWS := Lib.hid (Nat.le_trans HWS.out hb.size)
    replace HR1 := Lib.hid (show OwnQn _ _ _ _ from row_below HR1.out hb)
    replace HZ9 := Lib.hid (HZ9.out.below (by simp) hb)
    clear hb
    have HZ8 := Lib.hid hone
    have HB8 := Lib.hid hzz
    clear hone hzz
    obtain ⟨wc, hwc⟩ : ∃ X, wn = X := ⟨_, rfl⟩
    rw [hwc] at HZZ HWS HZ8 HR1 HZ9 ⊢
    clear hwc
    refine hK.out _ _ ⟨(cel_z HX.out HZE.out HZZ.out).six, (cel_z HI.out HZE.out HZZ.out).six⟩ (fun hHeld => ?_)
    clear hK K
    try simp only [Act.put, List.setIfInBounds_toArray, List.set_cons_zero, List.set_cons_succ]
    refine wpAnyH_ready (rs := [5]) (by kernel_rfl) (by simp) ?_
    refine AllReadyH.cons (o := { dst := some 20, op := Op.call { callee := Callee.value (Operand.func 20), args := #[Operand.tmp 18, Operand.tmp 19], argTypes := #[25, 3] }, type := 25, pos := "law.go:49", after := #[{ on := 3, ground := Ground.data }, { on := 4, ground := Ground.data }, { on := 2, ground := Ground.chain }], guard := none }) rfl (fun K hK => ?_) (AllReadyH.nil)
    go_simp
    obtain ⟨s1, hs1⟩ : ∃ g, wc.heap.size = g := ⟨_, rfl⟩
    have hsz := HWS.out
    rw [hs1] at hsz
    have hz8 := HZ8.out.lt (by simp)
    rw [hs1] at hz8
    have hz9 := HZ9.out.lt (by simp)
    rw [hs1] at hz9
    refine (replyR_any c (mg_z HM.out HZE.out HZZ.out) HWS.out (by rw [HLQ.out]; omega) (fun x hx => Nat.le_trans (HNM.out x hx) (by decide))).mono ?_; rintro e0 wc ⟨qv, rfl, ho, hb⟩
    rw [HI0.out, HF0.out, HFL.out]
    obtain ⟨a5, c5, rfl⟩ := row_shape ho
    rw [HLQ.out]
    rw [HLQ.out, hs1] at ho
    have hlt := World.ownsRow.lt ho
    have HD28 := Lib.hid (show ∀ k, (Value.slice a5 lq c5).ownBlock = some k → k ≠ b8 from fun k hk => by have := (hlt k hk).1; omega)
    clear hz8
    have HD29 := Lib.hid (show ∀ k, (Value.slice a5 lq c5).ownBlock = some k → k ≠ b9 from fun k hk => by have := (hlt k hk).1; omega)
    clear hz9
    replace HZZ := Lib.hid (below_aside HZZ.out (Aside.of_all hb : Aside (fun _ => False) _ _) (fun k hk => ⟨Nat.lt_of_lt_of_le hk HWS.out, id⟩))
    replace HWS := Lib.hid (Nat.le_trans HWS.out hb.size)
    replace HR1 := Lib.hid (show OwnQn _ _ _ _ from row_below HR1.out hb)
    replace HZ8 := Lib.hid (HZ8.out.below (by simp) hb)
    replace HZ9 := Lib.hid (HZ9.out.below (by simp) hb)
    clear hb
    have HR2 := Lib.hid (show OwnQn _ Z (.slice a5 lq c5) m.q from row_base ho hsz)
    clear ho hlt hs1 hsz
    focus (try go_wp2_with fail)
    refine hK.out _ _ ⟨(cel_z HX.out HZE.out HZZ.out).six, (cel_z HI.out HZE.out HZZ.out).six⟩ (fun hHeld => ?_)
    clear hK K
    try simp only [Act.put, List.setIfInBounds_toArray, List.set_cons_zero, List.set_cons_succ]
    refine wpAnyH_ready (rs := [8]) (by kernel_rfl) (by simp) ?_
    refine AllReadyH.cons (o := { dst := none, op := Op.store 25 (Operand.tmp 8) (Operand.tmp 17), type := 0, pos := "law.go:49", after := #[{ on := 6, ground := Ground.data }, { on := 2, ground := Ground.data }, { on := 5, ground := Ground.chain }, { on := 0, ground := Ground.phase }, { on := 1, ground := Ground.phase }, { on := 2, ground := Ground.phase }, { on := 3, ground := Ground.textOnly Departure.lateStores }, { on := 4, ground := Ground.textOnly Departure.lateStores }, { on := 5, ground := Ground.textOnly Departure.lateStoresUnsure }, { on := 6, ground := Ground.phase }, { on := 7, ground := Ground.phase }], guard := none }) rfl (fun K hK => ?_) (AllReadyH.nil)
    obtain ⟨z0, z1, z2, z3, z4, z5⟩ := HZ8.out.six
    have fz := HZ8.out.fz
    go_simp
    clear z0 z1 z2 z3 z4 z5 fz
    have k6 := cel_put6 HZ8.out (.int .i64 i0) (.int .i64 fl) (.slice a2 lq c2) (.slice none 0 0) (.slice none 0 0) (.slice none 0 0)
    have hst := aside_put6 wc b8 (.int .i64 i0) (.int .i64 fl) (.slice a2 lq c2) (.slice none 0 0) (.slice none 0 0) (.slice none 0 0)
    unfold put6 at k6 hst
    obtain ⟨wn, hwn⟩ : ∃ X, (((((wc.setCell ⟨b8, 0, none⟩ (.int .i64 i0)).setCell ⟨b8, 1, none⟩ (.int .i64 fl)).setCell ⟨b8, 2, none⟩ (.slice a2 lq c2)).setCell ⟨b8, 3, none⟩ (.slice none 0 0)).setCell ⟨b8, 4, none⟩ (.slice none 0 0)).setCell ⟨b8, 5, none⟩ (.slice none 0 0) = X := ⟨_, rfl⟩
    rw [hwn] at k6 hst ⊢
    clear hwn
    replace HZZ := Lib.hid (below_aside HZZ.out hst (fun k hk => ⟨Nat.lt_of_lt_of_le hk HWS.out, by have := HB8.out; omega⟩))
    replace HWS := Lib.hid (Nat.le_trans HWS.out hst.size)
    replace HR1 := Lib.hid (show OwnQn _ _ _ _ from row_aside HR1.out hst fun k hk hg => HD18.out k hk hg)
    replace HR2 := Lib.hid (show OwnQn _ _ _ _ from row_aside HR2.out hst fun k hk hg => HD28.out k hk hg)
    replace HZ8 := Lib.hid k6
    replace HZ9 := Lib.hid (HZ9.out.aside (by simp) hst (by have := HDD.out; omega))
    clear k6 hst
    obtain ⟨wc, hwc⟩ : ∃ X, wn = X := ⟨_, rfl⟩
    rw [hwc] at HZZ HWS HR1 HR2 HZ8 HZ9 ⊢
    clear hwc
    refine hK.out _ _ ⟨(cel_z HX.out HZE.out HZZ.out).six, (cel_z HI.out HZE.out HZZ.out).six⟩ (fun hHeld => ?_)
    clear hK K
    try simp only [Act.put, List.setIfInBounds_toArray, List.set_cons_zero, List.set_cons_succ]
    refine wpAnyH_ready (rs := [9]) (by kernel_rfl) (by simp) ?_
    refine AllReadyH.cons (o := { dst := none, op := Op.store 25 (Operand.tmp 9) (Operand.tmp 20), type := 0, pos := "law.go:49", after := #[{ on := 7, ground := Ground.data }, { on := 5, ground := Ground.data }, { on := 8, ground := Ground.chain }, { on := 0, ground := Ground.phase }, { on := 1, ground := Ground.phase }, { on := 2, ground := Ground.phase }, { on := 3, ground := Ground.phase }, { on := 4, ground := Ground.phase }, { on := 5, ground := Ground.phase }, { on := 6, ground := Ground.phase }, { on := 7, ground := Ground.phase }, { on := 8, ground := Ground.phase }], guard := none }) rfl (fun K hK => ?_) (AllReadyH.nil)
    obtain ⟨z0, z1, z2, z3, z4, z5⟩ := HZ9.out.six
    have fz := HZ9.out.fz
    go_simp
    clear z0 z1 z2 z3 z4 z5 fz
    have k6 := cel_put6 HZ9.out (.int .i64 i0) (.int .i64 fl) (.slice a5 lq c5) (.slice none 0 0) (.slice none 0 0) (.slice none 0 0)
    have hst := aside_put6 wc b9 (.int .i64 i0) (.int .i64 fl) (.slice a5 lq c5) (.slice none 0 0) (.slice none 0 0) (.slice none 0 0)
    unfold put6 at k6 hst
    obtain ⟨wn, hwn⟩ : ∃ X, (((((wc.setCell ⟨b9, 0, none⟩ (.int .i64 i0)).setCell ⟨b9, 1, none⟩ (.int .i64 fl)).setCell ⟨b9, 2, none⟩ (.slice a5 lq c5)).setCell ⟨b9, 3, none⟩ (.slice none 0 0)).setCell ⟨b9, 4, none⟩ (.slice none 0 0)).setCell ⟨b9, 5, none⟩ (.slice none 0 0) = X := ⟨_, rfl⟩
    rw [hwn] at k6 hst ⊢
    clear hwn
    replace HZZ := Lib.hid (below_aside HZZ.out hst (fun k hk => ⟨Nat.lt_of_lt_of_le hk HWS.out, by have := HB9.out; omega⟩))
    replace HWS := Lib.hid (Nat.le_trans HWS.out hst.size)
    replace HR1 := Lib.hid (show OwnQn _ _ _ _ from row_aside HR1.out hst fun k hk hg => HD19.out k hk hg)
    replace HR2 := Lib.hid (show OwnQn _ _ _ _ from row_aside HR2.out hst fun k hk hg => HD29.out k hk hg)
    replace HZ9 := Lib.hid k6
    replace HZ8 := Lib.hid (HZ8.out.aside (by simp) hst (by have := HDD.out; omega))
    clear k6 hst
    obtain ⟨wc, hwc⟩ : ∃ X, wn = X := ⟨_, rfl⟩
    rw [hwc] at HZZ HWS HR1 HR2 HZ8 HZ9 ⊢
    clear hwc
    refine hK.out _ _ ⟨(cel_z HX.out HZE.out HZZ.out).six, (cel_z HI.out HZE.out HZZ.out).six⟩ (fun hHeld => ?_)
    clear hK K
    try simp only [Act.put, List.setIfInBounds_toArray, List.set_cons_zero, List.set_cons_succ]
    refine wpAnyH_done (by kernel_rfl) ?_ _
    clear hHeld
    rotate_left 1
    go_simp
    have hone := cel_new6 wc (.int .i64 0) (.int .i64 0) (.slice none 0 0) (.slice none 0 0) (.slice none 0 0) (.slice none 0 0) 25
    have hb : Below wc.heap.size wc (wc.alloc (.cells #[.int .i64 0, .int .i64 0, .slice none 0 0, .slice none 0 0, .slice none 0 0, .slice none 0 0] 25)) := (Below.refl _ _).alloc (Nat.le_refl _) _
    obtain ⟨b8, hb8⟩ : ∃ g, wc.heap.size = g := ⟨_, rfl⟩
    have hzz := HWS.out
    rw [hb8] at hzz
    obtain ⟨wn, hwn⟩ : ∃ X, wc.alloc (.cells #[.int .i64 0, .int .i64 0, .slice none 0 0, .slice none 0 0, .slice none 0 0, .slice none 0 0] 25) = X := ⟨_, rfl⟩
    rw [hwn, hb8] at hone
    rw [hwn] at hb
    rw [hwn, hb8]
    clear hwn hb8
    replace HZZ := Lib.hid (below_aside HZZ.out (Aside.of_all hb : Aside (fun _ => False) _ _) (fun k hk => ⟨Nat.lt_of_lt_of_le hk HWS.out, id⟩))
    replace HWS := Lib.hid (Nat.le_trans HWS.out hb.size)
    clear hb
    have HZ8 := Lib.hid hone
    have HB8 := Lib.hid hzz
    clear hone hzz
    obtain ⟨wc, hwc⟩ : ∃ X, wn = X := ⟨_, rfl⟩
    rw [hwc] at HZZ HWS HZ8 ⊢
    clear hwc
    refine hK.out _ _ ⟨(cel_z HX.out HZE.out HZZ.out).six, (cel_z HI.out HZE.out HZZ.out).six⟩ (fun hHeld => ?_)
    clear hK K
    try simp only [Act.put, List.setIfInBounds_toArray, List.set_cons_zero, List.set_cons_succ]
    refine wpAnyH_ready (rs := [2, 7]) (by kernel_rfl) (by simp) ?_
    refine AllReadyH.cons (o := { dst := some 17, op := Op.call { callee := Callee.value (Operand.func 19), args := #[Operand.tmp 15, Operand.tmp 16], argTypes := #[25, 3] }, type := 25, pos := "law.go:49", after := #[{ on := 0, ground := Ground.data }, { on := 1, ground := Ground.data }], guard := none }) rfl (fun K hK => ?_) (AllReadyH.cons (o := { dst := some 9, op := Op.alloc 25, type := 0, pos := "law.go:49", after := #[], guard := none }) rfl (fun K hK => ?_) (AllReadyH.nil))
    go_simp
    obtain ⟨s1, hs1⟩ : ∃ g, wc.heap.size = g := ⟨_, rfl⟩
    have hsz := HWS.out
    rw [hs1] at hsz
    have hz8 := HZ8.out.lt (by simp)
    rw [hs1] at hz8
    refine (replyM_any c (mg_z (HC.out.mg (Nat.le_trans HTOT.out (by decide))) HZE.out HZZ.out) HWS.out (by rw [HLQ.out]; omega) (fun x hx => Nat.le_trans (HNM.out x hx) (by decide))).mono ?_; rintro e0 wc ⟨qv, rfl, ho, hb⟩
    rw [HI0.out, HF0.out, HFL.out]
    obtain ⟨a2, c2, rfl⟩ := row_shape ho
    rw [HLQ.out]
    rw [HLQ.out, hs1] at ho
    have hlt := World.ownsRow.lt ho
    have HD18 := Lib.hid (show ∀ k, (Value.slice a2 lq c2).ownBlock = some k → k ≠ b8 from fun k hk => by have := (hlt k hk).1; omega)
    clear hz8
    replace HZZ := Lib.hid (below_aside HZZ.out (Aside.of_all hb : Aside (fun _ => False) _ _) (fun k hk => ⟨Nat.lt_of_lt_of_le hk HWS.out, id⟩))
    replace HWS := Lib.hid (Nat.le_trans HWS.out hb.size)
    replace HZ8 := Lib.hid (HZ8.out.below (by simp) hb)
    clear hb
    have HR1 := Lib.hid (show OwnQn _ Z (.slice a2 lq c2) m.q from row_base ho hsz)
    clear ho hlt hs1 hsz
    focus (try go_wp2_with fail)
    refine hK.out _ _ ⟨(cel_z HX.out HZE.out HZZ.out).six, (cel_z HI.out HZE.out HZZ.out).six⟩ (fun hHeld => ?_)
    clear hK K
    try simp only [Act.put, List.setIfInBounds_toArray, List.set_cons_zero, List.set_cons_succ]
    refine wpAnyH_ready (rs := [5, 7]) (by kernel_rfl) (by simp) ?_
    refine AllReadyH.cons (o := { dst := some 20, op := Op.call { callee := Callee.value (Operand.func 20), args := #[Operand.tmp 18, Operand.tmp 19], argTypes := #[25, 3] }, type := 25, pos := "law.go:49", after := #[{ on := 3, ground := Ground.data }, { on := 4, ground := Ground.data }, { on := 2, ground := Ground.chain }], guard := none }) rfl (fun K hK => ?_) (AllReadyH.cons (o := { dst := some 9, op := Op.alloc 25, type := 0, pos := "law.go:49", after := #[], guard := none }) rfl (fun K hK => ?_) (AllReadyH.nil))
    go_simp
    obtain ⟨s1, hs1⟩ : ∃ g, wc.heap.size = g := ⟨_, rfl⟩
    have hsz := HWS.out
    rw [hs1] at hsz
    have hz8 := HZ8.out.lt (by simp)
    rw [hs1] at hz8
    refine (replyR_any c (mg_z HM.out HZE.out HZZ.out) HWS.out (by rw [HLQ.out]; omega) (fun x hx => Nat.le_trans (HNM.out x hx) (by decide))).mono ?_; rintro e0 wc ⟨qv, rfl, ho, hb⟩
    rw [HI0.out, HF0.out, HFL.out]
    obtain ⟨a5, c5, rfl⟩ := row_shape ho
    rw [HLQ.out]
    rw [HLQ.out, hs1] at ho
    have hlt := World.ownsRow.lt ho
    have HD28 := Lib.hid (show ∀ k, (Value.slice a5 lq c5).ownBlock = some k → k ≠ b8 from fun k hk => by have := (hlt k hk).1; omega)
    clear hz8
    replace HZZ := Lib.hid (below_aside HZZ.out (Aside.of_all hb : Aside (fun _ => False) _ _) (fun k hk => ⟨Nat.lt_of_lt_of_le hk HWS.out, id⟩))
    replace HWS := Lib.hid (Nat.le_trans HWS.out hb.size)
    replace HR1 := Lib.hid (show OwnQn _ _ _ _ from row_below HR1.out hb)
    replace HZ8 := Lib.hid (HZ8.out.below (by simp) hb)
    clear hb
    have HR2 := Lib.hid (show OwnQn _ Z (.slice a5 lq c5) m.q from row_base ho hsz)
    clear ho hlt hs1 hsz
    focus (try go_wp2_with fail)
    refine hK.out _ _ ⟨(cel_z HX.out HZE.out HZZ.out).six, (cel_z HI.out HZE.out HZZ.out).six⟩ (fun hHeld => ?_)
    clear hK K
    try simp only [Act.put, List.setIfInBounds_toArray, List.set_cons_zero, List.set_cons_succ]
    refine wpAnyH_ready (rs := [7]) (by kernel_rfl) (by simp) ?_
    refine AllReadyH.cons (o := { dst := some 9, op := Op.alloc 25, type := 0, pos := "law.go:49", after := #[], guard := none }) rfl (fun K hK => ?_) (AllReadyH.nil)
    go_simp
    have hone := cel_new6 wc (.int .i64 0) (.int .i64 0) (.slice none 0 0) (.slice none 0 0) (.slice none 0 0) (.slice none 0 0) 25
    have hb : Below wc.heap.size wc (wc.alloc (.cells #[.int .i64 0, .int .i64 0, .slice none 0 0, .slice none 0 0, .slice none 0 0, .slice none 0 0] 25)) := (Below.refl _ _).alloc (Nat.le_refl _) _
    obtain ⟨b9, hb9⟩ : ∃ g, wc.heap.size = g := ⟨_, rfl⟩
    have hzz := HWS.out
    rw [hb9] at hzz
    have hlt1 := World.ownsRow.lt HR1.out
    have HD19 := Lib.hid (show ∀ k, (Value.slice a2 lq c2).ownBlock = some k → k ≠ b9 from fun k hk => by have := (hlt1 k hk).2; omega)
    clear hlt1
    have hlt2 := World.ownsRow.lt HR2.out
    have HD29 := Lib.hid (show ∀ k, (Value.slice a5 lq c5).ownBlock = some k → k ≠ b9 from fun k hk => by have := (hlt2 k hk).2; omega)
    clear hlt2
    have HDD := Lib.hid (show b8 < b9 by have := HZ8.out.lt (by simp); omega)
    obtain ⟨wn, hwn⟩ : ∃ X, wc.alloc (.cells #[.int .i64 0, .int .i64 0, .slice none 0 0, .slice none 0 0, .slice none 0 0, .slice none 0 0] 25) = X := ⟨_, rfl⟩
    rw [hwn, hb9] at hone
    rw [hwn] at hb
    rw [hwn, hb9]
    clear hwn hb9
    replace HZZ := Lib.hid (below_aside HZZ.out (Aside.of_all hb : Aside (fun _ => False) _ _) (fun k hk => ⟨Nat.lt_of_lt_of_le hk HWS.out, id⟩))
    replace HWS := Lib.hid (Nat.le_trans HWS.out hb.size)
    replace HR1 := Lib.hid (show OwnQn _ _ _ _ from row_below HR1.out hb)
    replace HR2 := Lib.hid (show OwnQn _ _ _ _ from row_below HR2.out hb)
    replace HZ8 := Lib.hid (HZ8.out.below (by simp) hb)
    clear hb
    have HZ9 := Lib.hid hone
    have HB9 := Lib.hid hzz
    clear hone hzz
    obtain ⟨wc, hwc⟩ : ∃ X, wn = X := ⟨_, rfl⟩
    rw [hwc] at HZZ HWS HZ9 HR1 HR2 HZ8 ⊢
    clear hwc
    refine hK.out _ _ ⟨(cel_z HX.out HZE.out HZZ.out).six, (cel_z HI.out HZE.out HZZ.out).six⟩ (fun hHeld => ?_)
    clear hK K
    try simp only [Act.put, List.setIfInBounds_toArray, List.set_cons_zero, List.set_cons_succ]
    refine wpAnyH_ready (rs := [8]) (by kernel_rfl) (by simp) ?_
    refine AllReadyH.cons (o := { dst := none, op := Op.store 25 (Operand.tmp 8) (Operand.tmp 17), type := 0, pos := "law.go:49", after := #[{ on := 6, ground := Ground.data }, { on := 2, ground := Ground.data }, { on := 5, ground := Ground.chain }, { on := 0, ground := Ground.phase }, { on := 1, ground := Ground.phase }, { on := 2, ground := Ground.phase }, { on := 3, ground := Ground.textOnly Departure.lateStores }, { on := 4, ground := Ground.textOnly Departure.lateStores }, { on := 5, ground := Ground.textOnly Departure.lateStoresUnsure }, { on := 6, ground := Ground.phase }, { on := 7, ground := Ground.phase }], guard := none }) rfl (fun K hK => ?_) (AllReadyH.nil)
    obtain ⟨z0, z1, z2, z3, z4, z5⟩ := HZ8.out.six
    have fz := HZ8.out.fz
    go_simp
    clear z0 z1 z2 z3 z4 z5 fz
    have k6 := cel_put6 HZ8.out (.int .i64 i0) (.int .i64 fl) (.slice a2 lq c2) (.slice none 0 0) (.slice none 0 0) (.slice none 0 0)
    have hst := aside_put6 wc b8 (.int .i64 i0) (.int .i64 fl) (.slice a2 lq c2) (.slice none 0 0) (.slice none 0 0) (.slice none 0 0)
    unfold put6 at k6 hst
    obtain ⟨wn, hwn⟩ : ∃ X, (((((wc.setCell ⟨b8, 0, none⟩ (.int .i64 i0)).setCell ⟨b8, 1, none⟩ (.int .i64 fl)).setCell ⟨b8, 2, none⟩ (.slice a2 lq c2)).setCell ⟨b8, 3, none⟩ (.slice none 0 0)).setCell ⟨b8, 4, none⟩ (.slice none 0 0)).setCell ⟨b8, 5, none⟩ (.slice none 0 0) = X := ⟨_, rfl⟩
    rw [hwn] at k6 hst ⊢
    clear hwn
    replace HZZ := Lib.hid (below_aside HZZ.out hst (fun k hk => ⟨Nat.lt_of_lt_of_le hk HWS.out, by have := HB8.out; omega⟩))
    replace HWS := Lib.hid (Nat.le_trans HWS.out hst.size)
    replace HR1 := Lib.hid (show OwnQn _ _ _ _ from row_aside HR1.out hst fun k hk hg => HD18.out k hk hg)
    replace HR2 := Lib.hid (show OwnQn _ _ _ _ from row_aside HR2.out hst fun k hk hg => HD28.out k hk hg)
    replace HZ8 := Lib.hid k6
    replace HZ9 := Lib.hid (HZ9.out.aside (by simp) hst (by have := HDD.out; omega))
    clear k6 hst
    obtain ⟨wc, hwc⟩ : ∃ X, wn = X := ⟨_, rfl⟩
    rw [hwc] at HZZ HWS HR1 HR2 HZ8 HZ9 ⊢
    clear hwc
    refine hK.out _ _ ⟨(cel_z HX.out HZE.out HZZ.out).six, (cel_z HI.out HZE.out HZZ.out).six⟩ (fun hHeld => ?_)
    clear hK K
    try simp only [Act.put, List.setIfInBounds_toArray, List.set_cons_zero, List.set_cons_succ]
    refine wpAnyH_ready (rs := [9]) (by kernel_rfl) (by simp) ?_
    refine AllReadyH.cons (o := { dst := none, op := Op.store 25 (Operand.tmp 9) (Operand.tmp 20), type := 0, pos := "law.go:49", after := #[{ on := 7, ground := Ground.data }, { on := 5, ground := Ground.data }, { on := 8, ground := Ground.chain }, { on := 0, ground := Ground.phase }, { on := 1, ground := Ground.phase }, { on := 2, ground := Ground.phase }, { on := 3, ground := Ground.phase }, { on := 4, ground := Ground.phase }, { on := 5, ground := Ground.phase }, { on := 6, ground := Ground.phase }, { on := 7, ground := Ground.phase }, { on := 8, ground := Ground.phase }], guard := none }) rfl (fun K hK => ?_) (AllReadyH.nil)
    obtain ⟨z0, z1, z2, z3, z4, z5⟩ := HZ9.out.six
    have fz := HZ9.out.fz
    go_simp
    clear z0 z1 z2 z3 z4 z5 fz
    have k6 := cel_put6 HZ9.out (.int .i64 i0) (.int .i64 fl) (.slice a5 lq c5) (.slice none 0 0) (.slice none 0 0) (.slice none 0 0)
    have hst := aside_put6 wc b9 (.int .i64 i0) (.int .i64 fl) (.slice a5 lq c5) (.slice none 0 0) (.slice none 0 0) (.slice none 0 0)
    unfold put6 at k6 hst
    obtain ⟨wn, hwn⟩ : ∃ X, (((((wc.setCell ⟨b9, 0, none⟩ (.int .i64 i0)).setCell ⟨b9, 1, none⟩ (.int .i64 fl)).setCell ⟨b9, 2, none⟩ (.slice a5 lq c5)).setCell ⟨b9, 3, none⟩ (.slice none 0 0)).setCell ⟨b9, 4, none⟩ (.slice none 0 0)).setCell ⟨b9, 5, none⟩ (.slice none 0 0) = X := ⟨_, rfl⟩
    rw [hwn] at k6 hst ⊢
    clear hwn
    replace HZZ := Lib.hid (below_aside HZZ.out hst (fun k hk => ⟨Nat.lt_of_lt_of_le hk HWS.out, by have := HB9.out; omega⟩))
    replace HWS := Lib.hid (Nat.le_trans HWS.out hst.size)
    replace HR1 := Lib.hid (show OwnQn _ _ _ _ from row_aside HR1.out hst fun k hk hg => HD19.out k hk hg)
    replace HR2 := Lib.hid (show OwnQn _ _ _ _ from row_aside HR2.out hst fun k hk hg => HD29.out k hk hg)
    replace HZ9 := Lib.hid k6
    replace HZ8 := Lib.hid (HZ8.out.aside (by simp) hst (by have := HDD.out; omega))
    clear k6 hst
    obtain ⟨wc, hwc⟩ : ∃ X, wn = X := ⟨_, rfl⟩
    rw [hwc] at HZZ HWS HR1 HR2 HZ8 HZ9 ⊢
    clear hwc
    refine hK.out _ _ ⟨(cel_z HX.out HZE.out HZZ.out).six, (cel_z HI.out HZE.out HZZ.out).six⟩ (fun hHeld => ?_)
    clear hK K
    try simp only [Act.put, List.setIfInBounds_toArray, List.set_cons_zero, List.set_cons_succ]
    refine wpAnyH_done (by kernel_rfl) ?_ _
    clear hHeld
    rotate_left 1
    go_simp
    have hone := cel_new6 wc (.int .i64 0) (.int .i64 0) (.slice none 0 0) (.slice none 0 0) (.slice none 0 0) (.slice none 0 0) 25
    have hb : Below wc.heap.size wc (wc.alloc (.cells #[.int .i64 0, .int .i64 0, .slice none 0 0, .slice none 0 0, .slice none 0 0, .slice none 0 0] 25)) := (Below.refl _ _).alloc (Nat.le_refl _) _
    obtain ⟨b9, hb9⟩ : ∃ g, wc.heap.size = g := ⟨_, rfl⟩
    have hzz := HWS.out
    rw [hb9] at hzz
    have hlt1 := World.ownsRow.lt HR1.out
    have HD19 := Lib.hid (show ∀ k, (Value.slice a2 lq c2).ownBlock = some k → k ≠ b9 from fun k hk => by have := (hlt1 k hk).2; omega)
    clear hlt1
    have HDD := Lib.hid (show b8 < b9 by have := HZ8.out.lt (by simp); omega)
    obtain ⟨wn, hwn⟩ : ∃ X, wc.alloc (.cells #[.int .i64 0, .int .i64 0, .slice none 0 0, .slice none 0 0, .slice none 0 0, .slice none 0 0] 25) = X := ⟨_, rfl⟩
    rw [hwn, hb9] at hone
    rw [hwn] at hb
    rw [hwn, hb9]
    clear hwn hb9
    replace HZZ := Lib.hid (below_aside HZZ.out (Aside.of_all hb : Aside (fun _ => False) _ _) (fun k hk => ⟨Nat.lt_of_lt_of_le hk HWS.out, id⟩))
    replace HWS := Lib.hid (Nat.le_trans HWS.out hb.size)
    replace HR1 := Lib.hid (show OwnQn _ _ _ _ from row_below HR1.out hb)
    replace HZ8 := Lib.hid (HZ8.out.below (by simp) hb)
    clear hb
    have HZ9 := Lib.hid hone
    have HB9 := Lib.hid hzz
    clear hone hzz
    obtain ⟨wc, hwc⟩ : ∃ X, wn = X := ⟨_, rfl⟩
    rw [hwc] at HZZ HWS HZ9 HR1 HZ8 ⊢
    clear hwc
    refine hK.out _ _ ⟨(cel_z HX.out HZE.out HZZ.out).six, (cel_z HI.out HZE.out HZZ.out).six⟩ (fun hHeld => ?_)
    clear hK K
    try simp only [Act.put, List.setIfInBounds_toArray, List.set_cons_zero, List.set_cons_succ]
    refine wpAnyH_ready (rs := [5]) (by kernel_rfl) (by simp) ?_
    refine AllReadyH.cons (o := { dst := some 20, op := Op.call { callee := Callee.value (Operand.func 20), args := #[Operand.tmp 18, Operand.tmp 19], argTypes := #[25, 3] }, type := 25, pos := "law.go:49", after := #[{ on := 3, ground := Ground.data }, { on := 4, ground := Ground.data }, { on := 2, ground := Ground.chain }], guard := none }) rfl (fun K hK => ?_) (AllReadyH.nil)
    go_simp
    obtain ⟨s1, hs1⟩ : ∃ g, wc.heap.size = g := ⟨_, rfl⟩
    have hsz := HWS.out
    rw [hs1] at hsz
    have hz8 := HZ8.out.lt (by simp)
    rw [hs1] at hz8
    have hz9 := HZ9.out.lt (by simp)
    rw [hs1] at hz9
    refine (replyR_any c (mg_z HM.out HZE.out HZZ.out) HWS.out (by rw [HLQ.out]; omega) (fun x hx => Nat.le_trans (HNM.out x hx) (by decide))).mono ?_; rintro e0 wc ⟨qv, rfl, ho, hb⟩
    rw [HI0.out, HF0.out, HFL.out]
    obtain ⟨a5, c5, rfl⟩ := row_shape ho
    rw [HLQ.out]
    rw [HLQ.out, hs1] at ho
    have hlt := World.ownsRow.lt ho
    have HD28 := Lib.hid (show ∀ k, (Value.slice a5 lq c5).ownBlock = some k → k ≠ b8 from fun k hk => by have := (hlt k hk).1; omega)
    clear hz8
    have HD29 := Lib.hid (show ∀ k, (Value.slice a5 lq c5).ownBlock = some k → k ≠ b9 from fun k hk => by have := (hlt k hk).1; omega)
    clear hz9
    replace HZZ := Lib.hid (below_aside HZZ.out (Aside.of_all hb : Aside (fun _ => False) _ _) (fun k hk => ⟨Nat.lt_of_lt_of_le hk HWS.out, id⟩))
    replace HWS := Lib.hid (Nat.le_trans HWS.out hb.size)
    replace HR1 := Lib.hid (show OwnQn _ _ _ _ from row_below HR1.out hb)
    replace HZ8 := Lib.hid (HZ8.out.below (by simp) hb)
    replace HZ9 := Lib.hid (HZ9.out.below (by simp) hb)
    clear hb
    have HR2 := Lib.hid (show OwnQn _ Z (.slice a5 lq c5) m.q from row_base ho hsz)
    clear ho hlt hs1 hsz
    focus (try go_wp2_with fail)
    refine hK.out _ _ ⟨(cel_z HX.out HZE.out HZZ.out).six, (cel_z HI.out HZE.out HZZ.out).six⟩ (fun hHeld => ?_)
    clear hK K
    try simp only [Act.put, List.setIfInBounds_toArray, List.set_cons_zero, List.set_cons_succ]
    refine wpAnyH_ready (rs := [8]) (by kernel_rfl) (by simp) ?_
    refine AllReadyH.cons (o := { dst := none, op := Op.store 25 (Operand.tmp 8) (Operand.tmp 17), type := 0, pos := "law.go:49", after := #[{ on := 6, ground := Ground.data }, { on := 2, ground := Ground.data }, { on := 5, ground := Ground.chain }, { on := 0, ground := Ground.phase }, { on := 1, ground := Ground.phase }, { on := 2, ground := Ground.phase }, { on := 3, ground := Ground.textOnly Departure.lateStores }, { on := 4, ground := Ground.textOnly Departure.lateStores }, { on := 5, ground := Ground.textOnly Departure.lateStoresUnsure }, { on := 6, ground := Ground.phase }, { on := 7, ground := Ground.phase }], guard := none }) rfl (fun K hK => ?_) (AllReadyH.nil)
    obtain ⟨z0, z1, z2, z3, z4, z5⟩ := HZ8.out.six
    have fz := HZ8.out.fz
    go_simp
    clear z0 z1 z2 z3 z4 z5 fz
    have k6 := cel_put6 HZ8.out (.int .i64 i0) (.int .i64 fl) (.slice a2 lq c2) (.slice none 0 0) (.slice none 0 0) (.slice none 0 0)
    have hst := aside_put6 wc b8 (.int .i64 i0) (.int .i64 fl) (.slice a2 lq c2) (.slice none 0 0) (.slice none 0 0) (.slice none 0 0)
    unfold put6 at k6 hst
    obtain ⟨wn, hwn⟩ : ∃ X, (((((wc.setCell ⟨b8, 0, none⟩ (.int .i64 i0)).setCell ⟨b8, 1, none⟩ (.int .i64 fl)).setCell ⟨b8, 2, none⟩ (.slice a2 lq c2)).setCell ⟨b8, 3, none⟩ (.slice none 0 0)).setCell ⟨b8, 4, none⟩ (.slice none 0 0)).setCell ⟨b8, 5, none⟩ (.slice none 0 0) = X := ⟨_, rfl⟩
    rw [hwn] at k6 hst ⊢
    clear hwn
    replace HZZ := Lib.hid (below_aside HZZ.out hst (fun k hk => ⟨Nat.lt_of_lt_of_le hk HWS.out, by have := HB8.out; omega⟩))
    replace HWS := Lib.hid (Nat.le_trans HWS.out hst.size)
    replace HR1 := Lib.hid (show OwnQn _ _ _ _ from row_aside HR1.out hst fun k hk hg => HD18.out k hk hg)
    replace HR2 := Lib.hid (show OwnQn _ _ _ _ from row_aside HR2.out hst fun k hk hg => HD28.out k hk hg)
    replace HZ8 := Lib.hid k6
    replace HZ9 := Lib.hid (HZ9.out.aside (by simp) hst (by have := HDD.out; omega))
    clear k6 hst
    obtain ⟨wc, hwc⟩ : ∃ X, wn = X := ⟨_, rfl⟩
    rw [hwc] at HZZ HWS HR1 HR2 HZ8 HZ9 ⊢
    clear hwc
    refine hK.out _ _ ⟨(cel_z HX.out HZE.out HZZ.out).six, (cel_z HI.out HZE.out HZZ.out).six⟩ (fun hHeld => ?_)
    clear hK K
    try simp only [Act.put, List.setIfInBounds_toArray, List.set_cons_zero, List.set_cons_succ]
    refine wpAnyH_ready (rs := [9]) (by kernel_rfl) (by simp) ?_
    refine AllReadyH.cons (o := { dst := none, op := Op.store 25 (Operand.tmp 9) (Operand.tmp 20), type := 0, pos := "law.go:49", after := #[{ on := 7, ground := Ground.data }, { on := 5, ground := Ground.data }, { on := 8, ground := Ground.chain }, { on := 0, ground := Ground.phase }, { on := 1, ground := Ground.phase }, { on := 2, ground := Ground.phase }, { on := 3, ground := Ground.phase }, { on := 4, ground := Ground.phase }, { on := 5, ground := Ground.phase }, { on := 6, ground := Ground.phase }, { on := 7, ground := Ground.phase }, { on := 8, ground := Ground.phase }], guard := none }) rfl (fun K hK => ?_) (AllReadyH.nil)
    obtain ⟨z0, z1, z2, z3, z4, z5⟩ := HZ9.out.six
    have fz := HZ9.out.fz
    go_simp
    clear z0 z1 z2 z3 z4 z5 fz
    have k6 := cel_put6 HZ9.out (.int .i64 i0) (.int .i64 fl) (.slice a5 lq c5) (.slice none 0 0) (.slice none 0 0) (.slice none 0 0)
    have hst := aside_put6 wc b9 (.int .i64 i0) (.int .i64 fl) (.slice a5 lq c5) (.slice none 0 0) (.slice none 0 0) (.slice none 0 0)
    unfold put6 at k6 hst
    obtain ⟨wn, hwn⟩ : ∃ X, (((((wc.setCell ⟨b9, 0, none⟩ (.int .i64 i0)).setCell ⟨b9, 1, none⟩ (.int .i64 fl)).setCell ⟨b9, 2, none⟩ (.slice a5 lq c5)).setCell ⟨b9, 3, none⟩ (.slice none 0 0)).setCell ⟨b9, 4, none⟩ (.slice none 0 0)).setCell ⟨b9, 5, none⟩ (.slice none 0 0) = X := ⟨_, rfl⟩
    rw [hwn] at k6 hst ⊢
    clear hwn
    replace HZZ := Lib.hid (below_aside HZZ.out hst (fun k hk => ⟨Nat.lt_of_lt_of_le hk HWS.out, by have := HB9.out; omega⟩))
    replace HWS := Lib.hid (Nat.le_trans HWS.out hst.size)
    replace HR1 := Lib.hid (show OwnQn _ _ _ _ from row_aside HR1.out hst fun k hk hg => HD19.out k hk hg)
    replace HR2 := Lib.hid (show OwnQn _ _ _ _ from row_aside HR2.out hst fun k hk hg => HD29.out k hk hg)
    replace HZ9 := Lib.hid k6
    replace HZ8 := Lib.hid (HZ8.out.aside (by simp) hst (by have := HDD.out; omega))
    clear k6 hst
    obtain ⟨wc, hwc⟩ : ∃ X, wn = X := ⟨_, rfl⟩
    rw [hwc] at HZZ HWS HR1 HR2 HZ8 HZ9 ⊢
    clear hwc
    refine hK.out _ _ ⟨(cel_z HX.out HZE.out HZZ.out).six, (cel_z HI.out HZE.out HZZ.out).six⟩ (fun hHeld => ?_)
    clear hK K
    try simp only [Act.put, List.setIfInBounds_toArray, List.set_cons_zero, List.set_cons_succ]
    refine wpAnyH_done (by kernel_rfl) ?_ _
    clear hHeld
    rotate_left 1
    go_simp
    have hone := cel_new6 wc (.int .i64 0) (.int .i64 0) (.slice none 0 0) (.slice none 0 0) (.slice none 0 0) (.slice none 0 0) 25
    have hb : Below wc.heap.size wc (wc.alloc (.cells #[.int .i64 0, .int .i64 0, .slice none 0 0, .slice none 0 0, .slice none 0 0, .slice none 0 0] 25)) := (Below.refl _ _).alloc (Nat.le_refl _) _
    obtain ⟨b9, hb9⟩ : ∃ g, wc.heap.size = g := ⟨_, rfl⟩
    have hzz := HWS.out
    rw [hb9] at hzz
    have HDD := Lib.hid (show b8 < b9 by have := HZ8.out.lt (by simp); omega)
    obtain ⟨wn, hwn⟩ : ∃ X, wc.alloc (.cells #[.int .i64 0, .int .i64 0, .slice none 0 0, .slice none 0 0, .slice none 0 0, .slice none 0 0] 25) = X := ⟨_, rfl⟩
    rw [hwn, hb9] at hone
    rw [hwn] at hb
    rw [hwn, hb9]
    clear hwn hb9
    replace HZZ := Lib.hid (below_aside HZZ.out (Aside.of_all hb : Aside (fun _ => False) _ _) (fun k hk => ⟨Nat.lt_of_lt_of_le hk HWS.out, id⟩))
    replace HWS := Lib.hid (Nat.le_trans HWS.out hb.size)
    replace HZ8 := Lib.hid (HZ8.out.below (by simp) hb)
    clear hb
    have HZ9 := Lib.hid hone
    have HB9 := Lib.hid hzz
    clear hone hzz
    obtain ⟨wc, hwc⟩ : ∃ X, wn = X := ⟨_, rfl⟩
    rw [hwc] at HZZ HWS HZ9 HZ8 ⊢
    clear hwc
    refine hK.out _ _ ⟨(cel_z HX.out HZE.out HZZ.out).six, (cel_z HI.out HZE.out HZZ.out).six⟩ (fun hHeld => ?_)
    clear hK K
    try simp only [Act.put, List.setIfInBounds_toArray, List.set_cons_zero, List.set_cons_succ]
    refine wpAnyH_ready (rs := [2]) (by kernel_rfl) (by simp) ?_
    refine AllReadyH.cons (o := { dst := some 17, op := Op.call { callee := Callee.value (Operand.func 19), args := #[Operand.tmp 15, Operand.tmp 16], argTypes := #[25, 3] }, type := 25, pos := "law.go:49", after := #[{ on := 0, ground := Ground.data }, { on := 1, ground := Ground.data }], guard := none }) rfl (fun K hK => ?_) (AllReadyH.nil)
    go_simp
    obtain ⟨s1, hs1⟩ : ∃ g, wc.heap.size = g := ⟨_, rfl⟩
    have hsz := HWS.out
    rw [hs1] at hsz
    have hz8 := HZ8.out.lt (by simp)
    rw [hs1] at hz8
    have hz9 := HZ9.out.lt (by simp)
    rw [hs1] at hz9
    refine (replyM_any c (mg_z (HC.out.mg (Nat.le_trans HTOT.out (by decide))) HZE.out HZZ.out) HWS.out (by rw [HLQ.out]; omega) (fun x hx => Nat.le_trans (HNM.out x hx) (by decide))).mono ?_; rintro e0 wc ⟨qv, rfl, ho, hb⟩
    rw [HI0.out, HF0.out, HFL.out]
    obtain ⟨a2, c2, rfl⟩ := row_shape ho
    rw [HLQ.out]
    rw [HLQ.out, hs1] at ho
    have hlt := World.ownsRow.lt ho
    have HD18 := Lib.hid (show ∀ k, (Value.slice a2 lq c2).ownBlock = some k → k ≠ b8 from fun k hk => by have := (hlt k hk).1; omega)
    clear hz8
    have HD19 := Lib.hid (show ∀ k, (Value.slice a2 lq c2).ownBlock = some k → k ≠ b9 from fun k hk => by have := (hlt k hk).1; omega)
    clear hz9
    replace HZZ := Lib.hid (below_aside HZZ.out (Aside.of_all hb : Aside (fun _ => False) _ _) (fun k hk => ⟨Nat.lt_of_lt_of_le hk HWS.out, id⟩))
    replace HWS := Lib.hid (Nat.le_trans HWS.out hb.size)
    replace HZ8 := Lib.hid (HZ8.out.below (by simp) hb)
    replace HZ9 := Lib.hid (HZ9.out.below (by simp) hb)
    clear hb
    have HR1 := Lib.hid (show OwnQn _ Z (.slice a2 lq c2) m.q from row_base ho hsz)
    clear ho hlt hs1 hsz
    focus (try go_wp2_with fail)
    refine hK.out _ _ ⟨(cel_z HX.out HZE.out HZZ.out).six, (cel_z HI.out HZE.out HZZ.out).six⟩ (fun hHeld => ?_)
    clear hK K
    try simp only [Act.put, List.setIfInBounds_toArray, List.set_cons_zero, List.set_cons_succ]
    refine wpAnyH_ready (rs := [5]) (by kernel_rfl) (by simp) ?_
    refine AllReadyH.cons (o := { dst := some 20, op := Op.call { callee := Callee.value (Operand.func 20), args := #[Operand.tmp 18, Operand.tmp 19], argTypes := #[25, 3] }, type := 25, pos := "law.go:49", after := #[{ on := 3, ground := Ground.data }, { on := 4, ground := Ground.data }, { on := 2, ground := Ground.chain }], guard := none }) rfl (fun K hK => ?_) (AllReadyH.nil)
    go_simp
    obtain ⟨s1, hs1⟩ : ∃ g, wc.heap.size = g := ⟨_, rfl⟩
    have hsz := HWS.out
    rw [hs1] at hsz
    have hz8 := HZ8.out.lt (by simp)
    rw [hs1] at hz8
    have hz9 := HZ9.out.lt (by simp)
    rw [hs1] at hz9
    refine (replyR_any c (mg_z HM.out HZE.out HZZ.out) HWS.out (by rw [HLQ.out]; omega) (fun x hx => Nat.le_trans (HNM.out x hx) (by decide))).mono ?_; rintro e0 wc ⟨qv, rfl, ho, hb⟩
    rw [HI0.out, HF0.out, HFL.out]
    obtain ⟨a5, c5, rfl⟩ := row_shape ho
    rw [HLQ.out]
    rw [HLQ.out, hs1] at ho
    have hlt := World.ownsRow.lt ho
    have HD28 := Lib.hid (show ∀ k, (Value.slice a5 lq c5).ownBlock = some k → k ≠ b8 from fun k hk => by have := (hlt k hk).1; omega)
    clear hz8
    have HD29 := Lib.hid (show ∀ k, (Value.slice a5 lq c5).ownBlock = some k → k ≠ b9 from fun k hk => by have := (hlt k hk).1; omega)
    clear hz9
    replace HZZ := Lib.hid (below_aside HZZ.out (Aside.of_all hb : Aside (fun _ => False) _ _) (fun k hk => ⟨Nat.lt_of_lt_of_le hk HWS.out, id⟩))
    replace HWS := Lib.hid (Nat.le_trans HWS.out hb.size)
    replace HR1 := Lib.hid (show OwnQn _ _ _ _ from row_below HR1.out hb)
    replace HZ8 := Lib.hid (HZ8.out.below (by simp) hb)
    replace HZ9 := Lib.hid (HZ9.out.below (by simp) hb)
    clear hb
    have HR2 := Lib.hid (show OwnQn _ Z (.slice a5 lq c5) m.q from row_base ho hsz)
    clear ho hlt hs1 hsz
    focus (try go_wp2_with fail)
    refine hK.out _ _ ⟨(cel_z HX.out HZE.out HZZ.out).six, (cel_z HI.out HZE.out HZZ.out).six⟩ (fun hHeld => ?_)
    clear hK K
    try simp only [Act.put, List.setIfInBounds_toArray, List.set_cons_zero, List.set_cons_succ]
    refine wpAnyH_ready (rs := [8]) (by kernel_rfl) (by simp) ?_
    refine AllReadyH.cons (o := { dst := none, op := Op.store 25 (Operand.tmp 8) (Operand.tmp 17), type := 0, pos := "law.go:49", after := #[{ on := 6, ground := Ground.data }, { on := 2, ground := Ground.data }, { on := 5, ground := Ground.chain }, { on := 0, ground := Ground.phase }, { on := 1, ground := Ground.phase }, { on := 2, ground := Ground.phase }, { on := 3, ground := Ground.textOnly Departure.lateStores }, { on := 4, ground := Ground.textOnly Departure.lateStores }, { on := 5, ground := Ground.textOnly Departure.lateStoresUnsure }, { on := 6, ground := Ground.phase }, { on := 7, ground := Ground.phase }], guard := none }) rfl (fun K hK => ?_) (AllReadyH.nil)
    obtain ⟨z0, z1, z2, z3, z4, z5⟩ := HZ8.out.six
    have fz := HZ8.out.fz
    go_simp
    clear z0 z1 z2 z3 z4 z5 fz
    have k6 := cel_put6 HZ8.out (.int .i64 i0) (.int .i64 fl) (.slice a2 lq c2) (.slice none 0 0) (.slice none 0 0) (.slice none 0 0)
    have hst := aside_put6 wc b8 (.int .i64 i0) (.int .i64 fl) (.slice a2 lq c2) (.slice none 0 0) (.slice none 0 0) (.slice none 0 0)
    unfold put6 at k6 hst
    obtain ⟨wn, hwn⟩ : ∃ X, (((((wc.setCell ⟨b8, 0, none⟩ (.int .i64 i0)).setCell ⟨b8, 1, none⟩ (.int .i64 fl)).setCell ⟨b8, 2, none⟩ (.slice a2 lq c2)).setCell ⟨b8, 3, none⟩ (.slice none 0 0)).setCell ⟨b8, 4, none⟩ (.slice none 0 0)).setCell ⟨b8, 5, none⟩ (.slice none 0 0) = X := ⟨_, rfl⟩
    rw [hwn] at k6 hst ⊢
    clear hwn
    replace HZZ := Lib.hid (below_aside HZZ.out hst (fun k hk => ⟨Nat.lt_of_lt_of_le hk HWS.out, by have := HB8.out; omega⟩))
    replace HWS := Lib.hid (Nat.le_trans HWS.out hst.size)
    replace HR1 := Lib.hid (show OwnQn _ _ _ _ from row_aside HR1.out hst fun k hk hg => HD18.out k hk hg)
    replace HR2 := Lib.hid (show OwnQn _ _ _ _ from row_aside HR2.out hst fun k hk hg => HD28.out k hk hg)
    replace HZ8 := Lib.hid k6
    replace HZ9 := Lib.hid (HZ9.out.aside (by simp) hst (by have := HDD.out; omega))
    clear k6 hst
    obtain ⟨wc, hwc⟩ : ∃ X, wn = X := ⟨_, rfl⟩
    rw [hwc] at HZZ HWS HR1 HR2 HZ8 HZ9 ⊢
    clear hwc
    refine hK.out _ _ ⟨(cel_z HX.out HZE.out HZZ.out).six, (cel_z HI.out HZE.out HZZ.out).six⟩ (fun hHeld => ?_)
    clear hK K
    try simp only [Act.put, List.setIfInBounds_toArray, List.set_cons_zero, List.set_cons_succ]
    refine wpAnyH_ready (rs := [9]) (by kernel_rfl) (by simp) ?_
    refine AllReadyH.cons (o := { dst := none, op := Op.store 25 (Operand.tmp 9) (Operand.tmp 20), type := 0, pos := "law.go:49", after := #[{ on := 7, ground := Ground.data }, { on := 5, ground := Ground.data }, { on := 8, ground := Ground.chain }, { on := 0, ground := Ground.phase }, { on := 1, ground := Ground.phase }, { on := 2, ground := Ground.phase }, { on := 3, ground := Ground.phase }, { on := 4, ground := Ground.phase }, { on := 5, ground := Ground.phase }, { on := 6, ground := Ground.phase }, { on := 7, ground := Ground.phase }, { on := 8, ground := Ground.phase }], guard := none }) rfl (fun K hK => ?_) (AllReadyH.nil)
    obtain ⟨z0, z1, z2, z3, z4, z5⟩ := HZ9.out.six
    have fz := HZ9.out.fz
    go_simp
    clear z0 z1 z2 z3 z4 z5 fz
    have k6 := cel_put6 HZ9.out (.int .i64 i0) (.int .i64 fl) (.slice a5 lq c5) (.slice none 0 0) (.slice none 0 0) (.slice none 0 0)
    have hst := aside_put6 wc b9 (.int .i64 i0) (.int .i64 fl) (.slice a5 lq c5) (.slice none 0 0) (.slice none 0 0) (.slice none 0 0)
    unfold put6 at k6 hst
    obtain ⟨wn, hwn⟩ : ∃ X, (((((wc.setCell ⟨b9, 0, none⟩ (.int .i64 i0)).setCell ⟨b9, 1, none⟩ (.int .i64 fl)).setCell ⟨b9, 2, none⟩ (.slice a5 lq c5)).setCell ⟨b9, 3, none⟩ (.slice none 0 0)).setCell ⟨b9, 4, none⟩ (.slice none 0 0)).setCell ⟨b9, 5, none⟩ (.slice none 0 0) = X := ⟨_, rfl⟩
    rw [hwn] at k6 hst ⊢
    clear hwn
    replace HZZ := Lib.hid (below_aside HZZ.out hst (fun k hk => ⟨Nat.lt_of_lt_of_le hk HWS.out, by have := HB9.out; omega⟩))
    replace HWS := Lib.hid (Nat.le_trans HWS.out hst.size)
    replace HR1 := Lib.hid (show OwnQn _ _ _ _ from row_aside HR1.out hst fun k hk hg => HD19.out k hk hg)
    replace HR2 := Lib.hid (show OwnQn _ _ _ _ from row_aside HR2.out hst fun k hk hg => HD29.out k hk hg)
    replace HZ9 := Lib.hid k6
    replace HZ8 := Lib.hid (HZ8.out.aside (by simp) hst (by have := HDD.out; omega))
    clear k6 hst
    obtain ⟨wc, hwc⟩ : ∃ X, wn = X := ⟨_, rfl⟩
    rw [hwc] at HZZ HWS HR1 HR2 HZ8 HZ9 ⊢
    clear hwc
    refine hK.out _ _ ⟨(cel_z HX.out HZE.out HZZ.out).six, (cel_z HI.out HZE.out HZZ.out).six⟩ (fun hHeld => ?_)
    clear hK K
    try simp only [Act.put, List.setIfInBounds_toArray, List.set_cons_zero, List.set_cons_succ]
    refine wpAnyH_done (by kernel_rfl) ?_ _
    clear hHeld
    rotate_left 1
    go_simp
    have hone := cel_new6 wc (.int .i64 0) (.int .i64 0) (.slice none 0 0) (.slice none 0 0) (.slice none 0 0) (.slice none 0 0) 25
    have hb : Below wc.heap.size wc (wc.alloc (.cells #[.int .i64 0, .int .i64 0, .slice none 0 0, .slice none 0 0, .slice none 0 0, .slice none 0 0] 25)) := (Below.refl _ _).alloc (Nat.le_refl _) _
    obtain ⟨b9, hb9⟩ : ∃ g, wc.heap.size = g := ⟨_, rfl⟩
    have hzz := HWS.out
    rw [hb9] at hzz
    obtain ⟨wn, hwn⟩ : ∃ X, wc.alloc (.cells #[.int .i64 0, .int .i64 0, .slice none 0 0, .slice none 0 0, .slice none 0 0, .slice none 0 0] 25) = X := ⟨_, rfl⟩
    rw [hwn, hb9] at hone
    rw [hwn] at hb
    rw [hwn, hb9]
    clear hwn hb9
    replace HZZ := Lib.hid (below_aside HZZ.out (Aside.of_all hb : Aside (fun _ => False) _ _) (fun k hk => ⟨Nat.lt_of_lt_of_le hk HWS.out, id⟩))
    replace HWS := Lib.hid (Nat.le_trans HWS.out hb.size)
    clear hb
    have HZ9 := Lib.hid hone
    have HB9 := Lib.hid hzz
    clear hone hzz
    obtain ⟨wc, hwc⟩ : ∃ X, wn = X := ⟨_, rfl⟩
    rw [hwc] at HZZ HWS HZ9 ⊢
    clear hwc
    refine hK.out _ _ ⟨(cel_z HX.out HZE.out HZZ.out).six, (cel_z HI.out HZE.out HZZ.out).six⟩ (fun hHeld => ?_)
    clear hK K
    try simp only [Act.put, List.setIfInBounds_toArray, List.set_cons_zero, List.set_cons_succ]
    refine wpAnyH_ready (rs := [2, 6]) (by kernel_rfl) (by simp) ?_
    refine AllReadyH.cons (o := { dst := some 17, op := Op.call { callee := Callee.value (Operand.func 19), args := #[Operand.tmp 15, Operand.tmp 16], argTypes := #[25, 3] }, type := 25, pos := "law.go:49", after := #[{ on := 0, ground := Ground.data }, { on := 1, ground := Ground.data }], guard := none }) rfl (fun K hK => ?_) (AllReadyH.cons (o := { dst := some 8, op := Op.alloc 25, type := 0, pos := "law.go:49", after := #[], guard := none }) rfl (fun K hK => ?_) (AllReadyH.nil))
    go_simp
    obtain ⟨s1, hs1⟩ : ∃ g, wc.heap.size = g := ⟨_, rfl⟩
    have hsz := HWS.out
    rw [hs1] at hsz
    have hz9 := HZ9.out.lt (by simp)
    rw [hs1] at hz9
    refine (replyM_any c (mg_z (HC.out.mg (Nat.le_trans HTOT.out (by decide))) HZE.out HZZ.out) HWS.out (by rw [HLQ.out]; omega) (fun x hx => Nat.le_trans (HNM.out x hx) (by decide))).mono ?_; rintro e0 wc ⟨qv, rfl, ho, hb⟩
    rw [HI0.out, HF0.out, HFL.out]
    obtain ⟨a2, c2, rfl⟩ := row_shape ho
    rw [HLQ.out]
    rw [HLQ.out, hs1] at ho
    have hlt := World.ownsRow.lt ho
    have HD19 := Lib.hid (show ∀ k, (Value.slice a2 lq c2).ownBlock = some k → k ≠ b9 from fun k hk => by have := (hlt k hk).1; omega)
    clear hz9
    replace HZZ := Lib.hid (below_aside HZZ.out (Aside.of_all hb : Aside (fun _ => False) _ _) (fun k hk => ⟨Nat.lt_of_lt_of_le hk HWS.out, id⟩))
    replace HWS := Lib.hid (Nat.le_trans HWS.out hb.size)
    replace HZ9 := Lib.hid (HZ9.out.below (by simp) hb)
    clear hb
    have HR1 := Lib.hid (show OwnQn _ Z (.slice a2 lq c2) m.q from row_base ho hsz)
    clear ho hlt hs1 hsz
    focus (try go_wp2_with fail)
    refine hK.out _ _ ⟨(cel_z HX.out HZE.out HZZ.out).six, (cel_z HI.out HZE.out HZZ.out).six⟩ (fun hHeld => ?_)
    clear hK K
    try simp only [Act.put, List.setIfInBounds_toArray, List.set_cons_zero, List.set_cons_succ]
    refine wpAnyH_ready (rs := [5, 6]) (by kernel_rfl) (by simp) ?_
    refine AllReadyH.cons (o := { dst := some 20, op := Op.call { callee := Callee.value (Operand.func 20), args := #[Operand.tmp 18, Operand.tmp 19], argTypes := #[25, 3] }, type := 25, pos := "law.go:49", after := #[{ on := 3, ground := Ground.data }, { on := 4, ground := Ground.data }, { on := 2, ground := Ground.chain }], guard := none }) rfl (fun K hK => ?_) (AllReadyH.cons (o := { dst := some 8, op := Op.alloc 25, type := 0, pos := "law.go:49", after := #[], guard := none }) rfl (fun K hK => ?_) (AllReadyH.nil))
    go_simp
    obtain ⟨s1, hs1⟩ : ∃ g, wc.heap.size = g := ⟨_, rfl⟩
    have hsz := HWS.out
    rw [hs1] at hsz
    have hz9 := HZ9.out.lt (by simp)
    rw [hs1] at hz9
    refine (replyR_any c (mg_z HM.out HZE.out HZZ.out) HWS.out (by rw [HLQ.out]; omega) (fun x hx => Nat.le_trans (HNM.out x hx) (by decide))).mono ?_; rintro e0 wc ⟨qv, rfl, ho, hb⟩
    rw [HI0.out, HF0.out, HFL.out]
    obtain ⟨a5, c5, rfl⟩ := row_shape ho
    rw [HLQ.out]
    rw [HLQ.out, hs1] at ho
    have hlt := World.ownsRow.lt ho
    have HD29 := Lib.hid (show ∀ k, (Value.slice a5 lq c5).ownBlock = some k → k ≠ b9 from fun k hk => by have := (hlt k hk).1; omega)
    clear hz9
    replace HZZ := Lib.hid (below_aside HZZ.out (Aside.of_all hb : Aside (fun _ => False) _ _) (fun k hk => ⟨Nat.lt_of_lt_of_le hk HWS.out, id⟩))
    replace HWS := Lib.hid (Nat.le_trans HWS.out hb.size)
    replace HR1 := Lib.hid (show OwnQn _ _ _ _ from row_below HR1.out hb)
    replace HZ9 := Lib.hid (HZ9.out.below (by simp) hb)
    clear hb
    have HR2 := Lib.hid (show OwnQn _ Z (.slice a5 lq c5) m.q from row_base ho hsz)
    clear ho hlt hs1 hsz
    focus (try go_wp2_with fail)
    refine hK.out _ _ ⟨(cel_z HX.out HZE.out HZZ.out).six, (cel_z HI.out HZE.out HZZ.out).six⟩ (fun hHeld => ?_)
    clear hK K
    try simp only [Act.put, List.setIfInBounds_toArray, List.set_cons_zero, List.set_cons_succ]
    refine wpAnyH_ready (rs := [6]) (by kernel_rfl) (by simp) ?_
    refine AllReadyH.cons (o := { dst := some 8, op := Op.alloc 25, type := 0, pos := "law.go:49", after := #[], guard := none }) rfl (fun K hK => ?_) (AllReadyH.nil)
    go_simp
    have hone := cel_new6 wc (.int .i64 0) (.int .i64 0) (.slice none 0 0) (.slice none 0 0) (.slice none 0 0) (.slice none 0 0) 25
    have hb : Below wc.heap.size wc (wc.alloc (.cells #[.int .i64 0, .int .i64 0, .slice none 0 0, .slice none 0 0, .slice none 0 0, .slice none 0 0] 25)) := (Below.refl _ _).alloc (Nat.le_refl _) _
    obtain ⟨b8, hb8⟩ : ∃ g, wc.heap.size = g := ⟨_, rfl⟩
    have hzz := HWS.out
    rw [hb8] at hzz
    have hlt1 := World.ownsRow.lt HR1.out
    have HD18 := Lib.hid (show ∀ k, (Value.slice a2 lq c2).ownBlock = some k → k ≠ b8 from fun k hk => by have := (hlt1 k hk).2; omega)
    clear hlt1
    have hlt2 := World.ownsRow.lt HR2.out
    have HD28 := Lib.hid (show ∀ k, (Value.slice a5 lq c5).ownBlock = some k → k ≠ b8 from fun k hk => by have := (hlt2 k hk).2; omega)
    clear hlt2
    have HDD := Lib.hid (show b9 < b8 by have := HZ9.out.lt (by simp); omega)
    obtain ⟨wn, hwn⟩ : ∃ X, wc.alloc (.cells #[.int .i64 0, .int .i64 0, .slice none 0 0, .slice none 0 0, .slice none 0 0, .slice none 0 0] 25) = X := ⟨_, rfl⟩
    rw [hwn, hb8] at hone
    rw [hwn] at hb
    rw [hwn, hb8]
    clear hwn hb8
    replace HZZ := Lib.hid (below_aside HZZ.out (Aside.of_all hb : Aside (fun _ => False) _ _) (fun k hk => ⟨Nat.lt_of_lt_of_le hk HWS.out, id⟩))
    replace HWS := Lib.hid (Nat.le_trans HWS.out hb.size)
    replace HR1 := Lib.hid (show OwnQn _ _ _ _ from row_below HR1.out hb)
    replace HR2 := Lib.hid (show OwnQn _ _ _ _ from row_below HR2.out hb)
    replace HZ9 := Lib.hid (HZ9.out.below (by simp) hb)
    clear hb
    have HZ8 := Lib.hid hone
    have HB8 := Lib.hid hzz
    clear hone hzz
    obtain ⟨wc, hwc⟩ : ∃ X, wn = X := ⟨_, rfl⟩
    rw [hwc] at HZZ HWS HZ8 HR1 HR2 HZ9 ⊢
    clear hwc
    refine hK.out _ _ ⟨(cel_z HX.out HZE.out HZZ.out).six, (cel_z HI.out HZE.out HZZ.out).six⟩ (fun hHeld => ?_)
    clear hK K
    try simp only [Act.put, List.setIfInBounds_toArray, List.set_cons_zero, List.set_cons_succ]
    refine wpAnyH_ready (rs := [8]) (by kernel_rfl) (by simp) ?_
    refine AllReadyH.cons (o := { dst := none, op := Op.store 25 (Operand.tmp 8) (Operand.tmp 17), type := 0, pos := "law.go:49", after := #[{ on := 6, ground := Ground.data }, { on := 2, ground := Ground.data }, { on := 5, ground := Ground.chain }, { on := 0, ground := Ground.phase }, { on := 1, ground := Ground.phase }, { on := 2, ground := Ground.phase }, { on := 3, ground := Ground.textOnly Departure.lateStores }, { on := 4, ground := Ground.textOnly Departure.lateStores }, { on := 5, ground := Ground.textOnly Departure.lateStoresUnsure }, { on := 6, ground := Ground.phase }, { on := 7, ground := Ground.phase }], guard := none }) rfl (fun K hK => ?_) (AllReadyH.nil)
    obtain ⟨z0, z1, z2, z3, z4, z5⟩ := HZ8.out.six
    have fz := HZ8.out.fz
    go_simp
    clear z0 z1 z2 z3 z4 z5 fz
    have k6 := cel_put6 HZ8.out (.int .i64 i0) (.int .i64 fl) (.slice a2 lq c2) (.slice none 0 0) (.slice none 0 0) (.slice none 0 0)
    have hst := aside_put6 wc b8 (.int .i64 i0) (.int .i64 fl) (.slice a2 lq c2) (.slice none 0 0) (.slice none 0 0) (.slice none 0 0)
    unfold put6 at k6 hst
    obtain ⟨wn, hwn⟩ : ∃ X, (((((wc.setCell ⟨b8, 0, none⟩ (.int .i64 i0)).setCell ⟨b8, 1, none⟩ (.int .i64 fl)).setCell ⟨b8, 2, none⟩ (.slice a2 lq c2)).setCell ⟨b8, 3, none⟩ (.slice none 0 0)).setCell ⟨b8, 4, none⟩ (.slice none 0 0)).setCell ⟨b8, 5, none⟩ (.slice none 0 0) = X := ⟨_, rfl⟩
    rw [hwn] at k6 hst ⊢
    clear hwn
    replace HZZ := Lib.hid (below_aside HZZ.out hst (fun k hk => ⟨Nat.lt_of_lt_of_le hk HWS.out, by have := HB8.out; omega⟩))
    replace HWS := Lib.hid (Nat.le_trans HWS.out hst.size)
    replace HR1 := Lib.hid (show OwnQn _ _ _ _ from row_aside HR1.out hst fun k hk hg => HD18.out k hk hg)
    replace HR2 := Lib.hid (show OwnQn _ _ _ _ from row_aside HR2.out hst fun k hk hg => HD28.out k hk hg)
    replace HZ8 := Lib.hid k6
    replace HZ9 := Lib.hid (HZ9.out.aside (by simp) hst (by have := HDD.out; omega))
    clear k6 hst
    obtain ⟨wc, hwc⟩ : ∃ X, wn = X := ⟨_, rfl⟩
    rw [hwc] at HZZ HWS HR1 HR2 HZ8 HZ9 ⊢
    clear hwc
    refine hK.out _ _ ⟨(cel_z HX.out HZE.out HZZ.out).six, (cel_z HI.out HZE.out HZZ.out).six⟩ (fun hHeld => ?_)
    clear hK K
    try simp only [Act.put, List.setIfInBounds_toArray, List.set_cons_zero, List.set_cons_succ]
    refine wpAnyH_ready (rs := [9]) (by kernel_rfl) (by simp) ?_
    refine AllReadyH.cons (o := { dst := none, op := Op.store 25 (Operand.tmp 9) (Operand.tmp 20), type := 0, pos := "law.go:49", after := #[{ on := 7, ground := Ground.data }, { on := 5, ground := Ground.data }, { on := 8, ground := Ground.chain }, { on := 0, ground := Ground.phase }, { on := 1, ground := Ground.phase }, { on := 2, ground := Ground.phase }, { on := 3, ground := Ground.phase }, { on := 4, ground := Ground.phase }, { on := 5, ground := Ground.phase }, { on := 6, ground := Ground.phase }, { on := 7, ground := Ground.phase }, { on := 8, ground := Ground.phase }], guard := none }) rfl (fun K hK => ?_) (AllReadyH.nil)
    obtain ⟨z0, z1, z2, z3, z4, z5⟩ := HZ9.out.six
    have fz := HZ9.out.fz
    go_simp
    clear z0 z1 z2 z3 z4 z5 fz
    have k6 := cel_put6 HZ9.out (.int .i64 i0) (.int .i64 fl) (.slice a5 lq c5) (.slice none 0 0) (.slice none 0 0) (.slice none 0 0)
    have hst := aside_put6 wc b9 (.int .i64 i0) (.int .i64 fl) (.slice a5 lq c5) (.slice none 0 0) (.slice none 0 0) (.slice none 0 0)
    unfold put6 at k6 hst
    obtain ⟨wn, hwn⟩ : ∃ X, (((((wc.setCell ⟨b9, 0, none⟩ (.int .i64 i0)).setCell ⟨b9, 1, none⟩ (.int .i64 fl)).setCell ⟨b9, 2, none⟩ (.slice a5 lq c5)).setCell ⟨b9, 3, none⟩ (.slice none 0 0)).setCell ⟨b9, 4, none⟩ (.slice none 0 0)).setCell ⟨b9, 5, none⟩ (.slice none 0 0) = X := ⟨_, rfl⟩
    rw [hwn] at k6 hst ⊢
    clear hwn
    replace HZZ := Lib.hid (below_aside HZZ.out hst (fun k hk => ⟨Nat.lt_of_lt_of_le hk HWS.out, by have := HB9.out; omega⟩))
    replace HWS := Lib.hid (Nat.le_trans HWS.out hst.size)
    replace HR1 := Lib.hid (show OwnQn _ _ _ _ from row_aside HR1.out hst fun k hk hg => HD19.out k hk hg)
    replace HR2 := Lib.hid (show OwnQn _ _ _ _ from row_aside HR2.out hst fun k hk hg => HD29.out k hk hg)
    replace HZ9 := Lib.hid k6
    replace HZ8 := Lib.hid (HZ8.out.aside (by simp) hst (by have := HDD.out; omega))
    clear k6 hst
    obtain ⟨wc, hwc⟩ : ∃ X, wn = X := ⟨_, rfl⟩
    rw [hwc] at HZZ HWS HR1 HR2 HZ8 HZ9 ⊢
    clear hwc
    refine hK.out _ _ ⟨(cel_z HX.out HZE.out HZZ.out).six, (cel_z HI.out HZE.out HZZ.out).six⟩ (fun hHeld => ?_)
    clear hK K
    try simp only [Act.put, List.setIfInBounds_toArray, List.set_cons_zero, List.set_cons_succ]
    refine wpAnyH_done (by kernel_rfl) ?_ _
    clear hHeld
    rotate_left 1
    go_simp
    have hone := cel_new6 wc (.int .i64 0) (.int .i64 0) (.slice none 0 0) (.slice none 0 0) (.slice none 0 0) (.slice none 0 0) 25
    have hb : Below wc.heap.size wc (wc.alloc (.cells #[.int .i64 0, .int .i64 0, .slice none 0 0, .slice none 0 0, .slice none 0 0, .slice none 0 0] 25)) := (Below.refl _ _).alloc (Nat.le_refl _) _
    obtain ⟨b8, hb8⟩ : ∃ g, wc.heap.size = g := ⟨_, rfl⟩
    have hzz := HWS.out
    rw [hb8] at hzz
    have hlt1 := World.ownsRow.lt HR1.out
    have HD18 := Lib.hid (show ∀ k, (Value.slice a2 lq c2).ownBlock = some k → k ≠ b8 from fun k hk => by have := (hlt1 k hk).2; omega)
    clear hlt1
    have HDD := Lib.hid (show b9 < b8 by have := HZ9.out.lt (by simp); omega)
    obtain ⟨wn, hwn⟩ : ∃ X, wc.alloc (.cells #[.int .i64 0, .int .i64 0, .slice none 0 0, .slice none 0 0, .slice none 0 0, .slice none 0 0] 25) = X := ⟨_, rfl⟩
    rw [hwn, hb8] at hone
    rw [hwn] at hb
    rw [hwn, hb8]
    clear hwn hb8
    replace HZZ := Lib.hid (below_aside HZZ.out (Aside.of_all hb : Aside (fun _ => False) _ _) (fun k hk => ⟨Nat.lt_of_lt_of_le hk HWS.out, id⟩))
    replace HWS := Lib.hid (Nat.le_trans HWS.out hb.size)
    replace HR1 := Lib.hid (show OwnQn _ _ _ _ from row_below HR1.out hb)
    replace HZ9 := Lib.hid (HZ9.out.below (by simp) hb)
    clear hb
    have HZ8 := Lib.hid hone
    have HB8 := Lib.hid hzz
    clear hone hzz
    obtain ⟨wc, hwc⟩ : ∃ X, wn = X := ⟨_, rfl⟩
    rw [hwc] at HZZ HWS HZ8 HR1 HZ9 ⊢
    clear hwc
    refine hK.out _ _ ⟨(cel_z HX.out HZE.out HZZ.out).six, (cel_z HI.out HZE.out HZZ.out).six⟩ (fun hHeld => ?_)
    clear hK K
    try simp only [Act.put, List.setIfInBounds_toArray, List.set_cons_zero, List.set_cons_succ]
    refine wpAnyH_ready (rs := [5]) (by kernel_rfl) (by simp) ?_
    refine AllReadyH.cons (o := { dst := some 20, op := Op.call { callee := Callee.value (Operand.func 20), args := #[Operand.tmp 18, Operand.tmp 19], argTypes := #[25, 3] }, type := 25, pos := "law.go:49", after := #[{ on := 3, ground := Ground.data }, { on := 4, ground := Ground.data }, { on := 2, ground := Ground.chain }], guard := none }) rfl (fun K hK => ?_) (AllReadyH.nil)
    go_simp
    obtain ⟨s1, hs1⟩ : ∃ g, wc.heap.size = g := ⟨_, rfl⟩
    have hsz := HWS.out
    rw [hs1] at hsz
    have hz8 := HZ8.out.lt (by simp)
    rw [hs1] at hz8
    have hz9 := HZ9.out.lt (by simp)
    rw [hs1] at hz9
    refine (replyR_any c (mg_z HM.out HZE.out HZZ.out) HWS.out (by rw [HLQ.out]; omega) (fun x hx => Nat.le_trans (HNM.out x hx) (by decide))).mono ?_; rintro e0 wc ⟨qv, rfl, ho, hb⟩
    rw [HI0.out, HF0.out, HFL.out]
    obtain ⟨a5, c5, rfl⟩ := row_shape ho
    rw [HLQ.out]
    rw [HLQ.out, hs1] at ho
    have hlt := World.ownsRow.lt ho
    have HD28 := Lib.hid (show ∀ k, (Value.slice a5 lq c5).ownBlock = some k → k ≠ b8 from fun k hk => by have := (hlt k hk).1; omega)
    clear hz8
    have HD29 := Lib.hid (show ∀ k, (Value.slice a5 lq c5).ownBlock = some k → k ≠ b9 from fun k hk => by have := (hlt k hk).1; omega)
    clear hz9
    replace HZZ := Lib.hid (below_aside HZZ.out (Aside.of_all hb : Aside (fun _ => False) _ _) (fun k hk => ⟨Nat.lt_of_lt_of_le hk HWS.out, id⟩))
    replace HWS := Lib.hid (Nat.le_trans HWS.out hb.size)
    replace HR1 := Lib.hid (show OwnQn _ _ _ _ from row_below HR1.out hb)
    replace HZ8 := Lib.hid (HZ8.out.below (by simp) hb)
    replace HZ9 := Lib.hid (HZ9.out.below (by simp) hb)
    clear hb
    have HR2 := Lib.hid (show OwnQn _ Z (.slice a5 lq c5) m.q from row_base ho hsz)
    clear ho hlt hs1 hsz
    focus (try go_wp2_with fail)
    refine hK.out _ _ ⟨(cel_z HX.out HZE.out HZZ.out).six, (cel_z HI.out HZE.out HZZ.out).six⟩ (fun hHeld => ?_)
    clear hK K
    try simp only [Act.put, List.setIfInBounds_toArray, List.set_cons_zero, List.set_cons_succ]
    refine wpAnyH_ready (rs := [8]) (by kernel_rfl) (by simp) ?_
    refine AllReadyH.cons (o := { dst := none, op := Op.store 25 (Operand.tmp 8) (Operand.tmp 17), type := 0, pos := "law.go:49", after := #[{ on := 6, ground := Ground.data }, { on := 2, ground := Ground.data }, { on := 5, ground := Ground.chain }, { on := 0, ground := Ground.phase }, { on := 1, ground := Ground.phase }, { on := 2, ground := Ground.phase }, { on := 3, ground := Ground.textOnly Departure.lateStores }, { on := 4, ground := Ground.textOnly Departure.lateStores }, { on := 5, ground := Ground.textOnly Departure.lateStoresUnsure }, { on := 6, ground := Ground.phase }, { on := 7, ground := Ground.phase }], guard := none }) rfl (fun K hK => ?_) (AllReadyH.nil)
    obtain ⟨z0, z1, z2, z3, z4, z5⟩ := HZ8.out.six
    have fz := HZ8.out.fz
    go_simp
    clear z0 z1 z2 z3 z4 z5 fz
    have k6 := cel_put6 HZ8.out (.int .i64 i0) (.int .i64 fl) (.slice a2 lq c2) (.slice none 0 0) (.slice none 0 0) (.slice none 0 0)
    have hst := aside_put6 wc b8 (.int .i64 i0) (.int .i64 fl) (.slice a2 lq c2) (.slice none 0 0) (.slice none 0 0) (.slice none 0 0)
    unfold put6 at k6 hst
    obtain ⟨wn, hwn⟩ : ∃ X, (((((wc.setCell ⟨b8, 0, none⟩ (.int .i64 i0)).setCell ⟨b8, 1, none⟩ (.int .i64 fl)).setCell ⟨b8, 2, none⟩ (.slice a2 lq c2)).setCell ⟨b8, 3, none⟩ (.slice none 0 0)).setCell ⟨b8, 4, none⟩ (.slice none 0 0)).setCell ⟨b8, 5, none⟩ (.slice none 0 0) = X := ⟨_, rfl⟩
    rw [hwn] at k6 hst ⊢
    clear hwn
    replace HZZ := Lib.hid (below_aside HZZ.out hst (fun k hk => ⟨Nat.lt_of_lt_of_le hk HWS.out, by have := HB8.out; omega⟩))
    replace HWS := Lib.hid (Nat.le_trans HWS.out hst.size)
    replace HR1 := Lib.hid (show OwnQn _ _ _ _ from row_aside HR1.out hst fun k hk hg => HD18.out k hk hg)
    replace HR2 := Lib.hid (show OwnQn _ _ _ _ from row_aside HR2.out hst fun k hk hg => HD28.out k hk hg)
    replace HZ8 := Lib.hid k6
    replace HZ9 := Lib.hid (HZ9.out.aside (by simp) hst (by have := HDD.out; omega))
    clear k6 hst
    obtain ⟨wc, hwc⟩ : ∃ X, wn = X := ⟨_, rfl⟩
    rw [hwc] at HZZ HWS HR1 HR2 HZ8 HZ9 ⊢
    clear hwc
    refine hK.out _ _ ⟨(cel_z HX.out HZE.out HZZ.out).six, (cel_z HI.out HZE.out HZZ.out).six⟩ (fun hHeld => ?_)
    clear hK K
    try simp only [Act.put, List.setIfInBounds_toArray, List.set_cons_zero, List.set_cons_succ]
    refine wpAnyH_ready (rs := [9]) (by kernel_rfl) (by simp) ?_
    refine AllReadyH.cons (o := { dst := none, op := Op.store 25 (Operand.tmp 9) (Operand.tmp 20), type := 0, pos := "law.go:49", after := #[{ on := 7, ground := Ground.data }, { on := 5, ground := Ground.data }, { on := 8, ground := Ground.chain }, { on := 0, ground := Ground.phase }, { on := 1, ground := Ground.phase }, { on := 2, ground := Ground.phase }, { on := 3, ground := Ground.phase }, { on := 4, ground := Ground.phase }, { on := 5, ground := Ground.phase }, { on := 6, ground := Ground.phase }, { on := 7, ground := Ground.phase }, { on := 8, ground := Ground.phase }], guard := none }) rfl (fun K hK => ?_) (AllReadyH.nil)
    obtain ⟨z0, z1, z2, z3, z4, z5⟩ := HZ9.out.six
    have fz := HZ9.out.fz
    go_simp
    clear z0 z1 z2 z3 z4 z5 fz
    have k6 := cel_put6 HZ9.out (.int .i64 i0) (.int .i64 fl) (.slice a5 lq c5) (.slice none 0 0) (.slice none 0 0) (.slice none 0 0)
    have hst := aside_put6 wc b9 (.int .i64 i0) (.int .i64 fl) (.slice a5 lq c5) (.slice none 0 0) (.slice none 0 0) (.slice none 0 0)
    unfold put6 at k6 hst
    obtain ⟨wn, hwn⟩ : ∃ X, (((((wc.setCell ⟨b9, 0, none⟩ (.int .i64 i0)).setCell ⟨b9, 1, none⟩ (.int .i64 fl)).setCell ⟨b9, 2, none⟩ (.slice a5 lq c5)).setCell ⟨b9, 3, none⟩ (.slice none 0 0)).setCell ⟨b9, 4, none⟩ (.slice none 0 0)).setCell ⟨b9, 5, none⟩ (.slice none 0 0) = X := ⟨_, rfl⟩
    rw [hwn] at k6 hst ⊢
    clear hwn
    replace HZZ := Lib.hid (below_aside HZZ.out hst (fun k hk => ⟨Nat.lt_of_lt_of_le hk HWS.out, by have := HB9.out; omega⟩))
    replace HWS := Lib.hid (Nat.le_trans HWS.out hst.size)
    replace HR1 := Lib.hid (show OwnQn _ _ _ _ from row_aside HR1.out hst fun k hk hg => HD19.out k hk hg)
    replace HR2 := Lib.hid (show OwnQn _ _ _ _ from row_aside HR2.out hst fun k hk hg => HD29.out k hk hg)
    replace HZ9 := Lib.hid k6
    replace HZ8 := Lib.hid (HZ8.out.aside (by simp) hst (by have := HDD.out; omega))
    clear k6 hst
    obtain ⟨wc, hwc⟩ : ∃ X, wn = X := ⟨_, rfl⟩
    rw [hwc] at HZZ HWS HR1 HR2 HZ8 HZ9 ⊢
    clear hwc
    refine hK.out _ _ ⟨(cel_z HX.out HZE.out HZZ.out).six, (cel_z HI.out HZE.out HZZ.out).six⟩ (fun hHeld => ?_)
    clear hK K
    try simp only [Act.put, List.setIfInBounds_toArray, List.set_cons_zero, List.set_cons_succ]
    refine wpAnyH_done (by kernel_rfl) ?_ _
    clear hHeld
    rotate_left 1
    go_simp
    have hone := cel_new6 wc (.int .i64 0) (.int .i64 0) (.slice none 0 0) (.slice none 0 0) (.slice none 0 0) (.slice none 0 0) 25
    have hb : Below wc.heap.size wc (wc.alloc (.cells #[.int .i64 0, .int .i64 0, .slice none 0 0, .slice none 0 0, .slice none 0 0, .slice none 0 0] 25)) := (Below.refl _ _).alloc (Nat.le_refl _) _
    obtain ⟨b8, hb8⟩ : ∃ g, wc.heap.size = g := ⟨_, rfl⟩
    have hzz := HWS.out
    rw [hb8] at hzz
    have HDD := Lib.hid (show b9 < b8 by have := HZ9.out.lt (by simp); omega)
    obtain ⟨wn, hwn⟩ : ∃ X, wc.alloc (.cells #[.int .i64 0, .int .i64 0, .slice none 0 0, .slice none 0 0, .slice none 0 0, .slice none 0 0] 25) = X := ⟨_, rfl⟩
    rw [hwn, hb8] at hone
    rw [hwn] at hb
    rw [hwn, hb8]
    clear hwn hb8
    replace HZZ := Lib.hid (below_aside HZZ.out (Aside.of_all hb : Aside (fun _ => False) _ _) (fun k hk => ⟨Nat.lt_of_lt_of_le hk HWS.out, id⟩))
    replace HWS := Lib.hid (Nat.le_trans HWS.out hb.size)
    replace HZ9 := Lib.hid (HZ9.out.below (by simp) hb)
    clear hb
    have HZ8 := Lib.hid hone
    have HB8 := Lib.hid hzz
    clear hone hzz
    obtain ⟨wc, hwc⟩ : ∃ X, wn = X := ⟨_, rfl⟩
    rw [hwc] at HZZ HWS HZ8 HZ9 ⊢
    clear hwc
    refine hK.out _ _ ⟨(cel_z HX.out HZE.out HZZ.out).six, (cel_z HI.out HZE.out HZZ.out).six⟩ (fun hHeld => ?_)
    clear hK K
    try simp only [Act.put, List.setIfInBounds_toArray, List.set_cons_zero, List.set_cons_succ]
    refine wpAnyH_ready (rs := [2]) (by kernel_rfl) (by simp) ?_
    refine AllReadyH.cons (o := { dst := some 17, op := Op.call { callee := Callee.value (Operand.func 19), args := #[Operand.tmp 15, Operand.tmp 16], argTypes := #[25, 3] }, type := 25, pos := "law.go:49", after := #[{ on := 0, ground := Ground.data }, { on := 1, ground := Ground.data }], guard := none }) rfl (fun K hK => ?_) (AllReadyH.nil)
    go_simp
    obtain ⟨s1, hs1⟩ : ∃ g, wc.heap.size = g := ⟨_, rfl⟩
    have hsz := HWS.out
    rw [hs1] at hsz
    have hz8 := HZ8.out.lt (by simp)
    rw [hs1] at hz8
    have hz9 := HZ9.out.lt (by simp)
    rw [hs1] at hz9
    refine (replyM_any c (mg_z (HC.out.mg (Nat.le_trans HTOT.out (by decide))) HZE.out HZZ.out) HWS.out (by rw [HLQ.out]; omega) (fun x hx => Nat.le_trans (HNM.out x hx) (by decide))).mono ?_; rintro e0 wc ⟨qv, rfl, ho, hb⟩
    rw [HI0.out, HF0.out, HFL.out]
    obtain ⟨a2, c2, rfl⟩ := row_shape ho
    rw [HLQ.out]
    rw [HLQ.out, hs1] at ho
    have hlt := World.ownsRow.lt ho
    have HD18 := Lib.hid (show ∀ k, (Value.slice a2 lq c2).ownBlock = some k → k ≠ b8 from fun k hk => by have := (hlt k hk).1; omega)
    clear hz8
    have HD19 := Lib.hid (show ∀ k, (Value.slice a2 lq c2).ownBlock = some k → k ≠ b9 from fun k hk => by have := (hlt k hk).1; omega)
    clear hz9
    replace HZZ := Lib.hid (below_aside HZZ.out (Aside.of_all hb : Aside (fun _ => False) _ _) (fun k hk => ⟨Nat.lt_of_lt_of_le hk HWS.out, id⟩))
    replace HWS := Lib.hid (Nat.le_trans HWS.out hb.size)
    replace HZ8 := Lib.hid (HZ8.out.below (by simp) hb)
    replace HZ9 := Lib.hid (HZ9.out.below (by simp) hb)
    clear hb
    have HR1 := Lib.hid (show OwnQn _ Z (.slice a2 lq c2) m.q from row_base ho hsz)
    clear ho hlt hs1 hsz
    focus (try go_wp2_with fail)
    refine hK.out _ _ ⟨(cel_z HX.out HZE.out HZZ.out).six, (cel_z HI.out HZE.out HZZ.out).six⟩ (fun hHeld => ?_)
    clear hK K
    try simp only [Act.put, List.setIfInBounds_toArray, List.set_cons_zero, List.set_cons_succ]
    refine wpAnyH_ready (rs := [5]) (by kernel_rfl) (by simp) ?_
    refine AllReadyH.cons (o := { dst := some 20, op := Op.call { callee := Callee.value (Operand.func 20), args := #[Operand.tmp 18, Operand.tmp 19], argTypes := #[25, 3] }, type := 25, pos := "law.go:49", after := #[{ on := 3, ground := Ground.data }, { on := 4, ground := Ground.data }, { on := 2, ground := Ground.chain }], guard := none }) rfl (fun K hK => ?_) (AllReadyH.nil)
    go_simp
    obtain ⟨s1, hs1⟩ : ∃ g, wc.heap.size = g := ⟨_, rfl⟩
    have hsz := HWS.out
    rw [hs1] at hsz
    have hz8 := HZ8.out.lt (by simp)
    rw [hs1] at hz8
    have hz9 := HZ9.out.lt (by simp)
    rw [hs1] at hz9
    refine (replyR_any c (mg_z HM.out HZE.out HZZ.out) HWS.out (by rw [HLQ.out]; omega) (fun x hx => Nat.le_trans (HNM.out x hx) (by decide))).mono ?_; rintro e0 wc ⟨qv, rfl, ho, hb⟩
    rw [HI0.out, HF0.out, HFL.out]
    obtain ⟨a5, c5, rfl⟩ := row_shape ho
    rw [HLQ.out]
    rw [HLQ.out, hs1] at ho
    have hlt := World.ownsRow.lt ho
    have HD28 := Lib.hid (show ∀ k, (Value.slice a5 lq c5).ownBlock = some k → k ≠ b8 from fun k hk => by have := (hlt k hk).1; omega)
    clear hz8
    have HD29 := Lib.hid (show ∀ k, (Value.slice a5 lq c5).ownBlock = some k → k ≠ b9 from fun k hk => by have := (hlt k hk).1; omega)
    clear hz9
    replace HZZ := Lib.hid (below_aside HZZ.out (Aside.of_all hb : Aside (fun _ => False) _ _) (fun k hk => ⟨Nat.lt_of_lt_of_le hk HWS.out, id⟩))
    replace HWS := Lib.hid (Nat.le_trans HWS.out hb.size)
    replace HR1 := Lib.hid (show OwnQn _ _ _ _ from row_below HR1.out hb)
    replace HZ8 := Lib.hid (HZ8.out.below (by simp) hb)
    replace HZ9 := Lib.hid (HZ9.out.below (by simp) hb)
    clear hb
    have HR2 := Lib.hid (show OwnQn _ Z (.slice a5 lq c5) m.q from row_base ho hsz)
    clear ho hlt hs1 hsz
    focus (try go_wp2_with fail)
    refine hK.out _ _ ⟨(cel_z HX.out HZE.out HZZ.out).six, (cel_z HI.out HZE.out HZZ.out).six⟩ (fun hHeld => ?_)
    clear hK K
    try simp only [Act.put, List.setIfInBounds_toArray, List.set_cons_zero, List.set_cons_succ]
    refine wpAnyH_ready (rs := [8]) (by kernel_rfl) (by simp) ?_
    refine AllReadyH.cons (o := { dst := none, op := Op.store 25 (Operand.tmp 8) (Operand.tmp 17), type := 0, pos := "law.go:49", after := #[{ on := 6, ground := Ground.data }, { on := 2, ground := Ground.data }, { on := 5, ground := Ground.chain }, { on := 0, ground := Ground.phase }, { on := 1, ground := Ground.phase }, { on := 2, ground := Ground.phase }, { on := 3, ground := Ground.textOnly Departure.lateStores }, { on := 4, ground := Ground.textOnly Departure.lateStores }, { on := 5, ground := Ground.textOnly Departure.lateStoresUnsure }, { on := 6, ground := Ground.phase }, { on := 7, ground := Ground.phase }], guard := none }) rfl (fun K hK => ?_) (AllReadyH.nil)
    obtain ⟨z0, z1, z2, z3, z4, z5⟩ := HZ8.out.six
    have fz := HZ8.out.fz
    go_simp
    clear z0 z1 z2 z3 z4 z5 fz
    have k6 := cel_put6 HZ8.out (.int .i64 i0) (.int .i64 fl) (.slice a2 lq c2) (.slice none 0 0) (.slice none 0 0) (.slice none 0 0)
    have hst := aside_put6 wc b8 (.int .i64 i0) (.int .i64 fl) (.slice a2 lq c2) (.slice none 0 0) (.slice none 0 0) (.slice none 0 0)
    unfold put6 at k6 hst
    obtain ⟨wn, hwn⟩ : ∃ X, (((((wc.setCell ⟨b8, 0, none⟩ (.int .i64 i0)).setCell ⟨b8, 1, none⟩ (.int .i64 fl)).setCell ⟨b8, 2, none⟩ (.slice a2 lq c2)).setCell ⟨b8, 3, none⟩ (.slice none 0 0)).setCell ⟨b8, 4, none⟩ (.slice none 0 0)).setCell ⟨b8, 5, none⟩ (.slice none 0 0) = X := ⟨_, rfl⟩
    rw [hwn] at k6 hst ⊢
    clear hwn
    replace HZZ := Lib.hid (below_aside HZZ.out hst (fun k hk => ⟨Nat.lt_of_lt_of_le hk HWS.out, by have := HB8.out; omega⟩))
    replace HWS := Lib.hid (Nat.le_trans HWS.out hst.size)
    replace HR1 := Lib.hid (show OwnQn _ _ _ _ from row_aside HR1.out hst fun k hk hg => HD18.out k hk hg)
    replace HR2 := Lib.hid (show OwnQn _ _ _ _ from row_aside HR2.out hst fun k hk hg => HD28.out k hk hg)
    replace HZ8 := Lib.hid k6
    replace HZ9 := Lib.hid (HZ9.out.aside (by simp) hst (by have := HDD.out; omega))
    clear k6 hst
    obtain ⟨wc, hwc⟩ : ∃ X, wn = X := ⟨_, rfl⟩
    rw [hwc] at HZZ HWS HR1 HR2 HZ8 HZ9 ⊢
    clear hwc
    refine hK.out _ _ ⟨(cel_z HX.out HZE.out HZZ.out).six, (cel_z HI.out HZE.out HZZ.out).six⟩ (fun hHeld => ?_)
    clear hK K
    try simp only [Act.put, List.setIfInBounds_toArray, List.set_cons_zero, List.set_cons_succ]
    refine wpAnyH_ready (rs := [9]) (by kernel_rfl) (by simp) ?_
    refine AllReadyH.cons (o := { dst := none, op := Op.store 25 (Operand.tmp 9) (Operand.tmp 20), type := 0, pos := "law.go:49", after := #[{ on := 7, ground := Ground.data }, { on := 5, ground := Ground.data }, { on := 8, ground := Ground.chain }, { on := 0, ground := Ground.phase }, { on := 1, ground := Ground.phase }, { on := 2, ground := Ground.phase }, { on := 3, ground := Ground.phase }, { on := 4, ground := Ground.phase }, { on := 5, ground := Ground.phase }, { on := 6, ground := Ground.phase }, { on := 7, ground := Ground.phase }, { on := 8, ground := Ground.phase }], guard := none }) rfl (fun K hK => ?_) (AllReadyH.nil)
    obtain ⟨z0, z1, z2, z3, z4, z5⟩ := HZ9.out.six
    have fz := HZ9.out.fz
    go_simp
    clear z0 z1 z2 z3 z4 z5 fz
    have k6 := cel_put6 HZ9.out (.int .i64 i0) (.int .i64 fl) (.slice a5 lq c5) (.slice none 0 0) (.slice none 0 0) (.slice none 0 0)
    have hst := aside_put6 wc b9 (.int .i64 i0) (.int .i64 fl) (.slice a5 lq c5) (.slice none 0 0) (.slice none 0 0) (.slice none 0 0)
    unfold put6 at k6 hst
    obtain ⟨wn, hwn⟩ : ∃ X, (((((wc.setCell ⟨b9, 0, none⟩ (.int .i64 i0)).setCell ⟨b9, 1, none⟩ (.int .i64 fl)).setCell ⟨b9, 2, none⟩ (.slice a5 lq c5)).setCell ⟨b9, 3, none⟩ (.slice none 0 0)).setCell ⟨b9, 4, none⟩ (.slice none 0 0)).setCell ⟨b9, 5, none⟩ (.slice none 0 0) = X := ⟨_, rfl⟩
    rw [hwn] at k6 hst ⊢
    clear hwn
    replace HZZ := Lib.hid (below_aside HZZ.out hst (fun k hk => ⟨Nat.lt_of_lt_of_le hk HWS.out, by have := HB9.out; omega⟩))
    replace HWS := Lib.hid (Nat.le_trans HWS.out hst.size)
    replace HR1 := Lib.hid (show OwnQn _ _ _ _ from row_aside HR1.out hst fun k hk hg => HD19.out k hk hg)
    replace HR2 := Lib.hid (show OwnQn _ _ _ _ from row_aside HR2.out hst fun k hk hg => HD29.out k hk hg)
    replace HZ9 := Lib.hid k6
    replace HZ8 := Lib.hid (HZ8.out.aside (by simp) hst (by have := HDD.out; omega))
    clear k6 hst
    obtain ⟨wc, hwc⟩ : ∃ X, wn = X := ⟨_, rfl⟩
    rw [hwc] at HZZ HWS HR1 HR2 HZ8 HZ9 ⊢
    clear hwc
    refine hK.out _ _ ⟨(cel_z HX.out HZE.out HZZ.out).six, (cel_z HI.out HZE.out HZZ.out).six⟩ (fun hHeld => ?_)
    clear hK K
    try simp only [Act.put, List.setIfInBounds_toArray, List.set_cons_zero, List.set_cons_succ]
    refine wpAnyH_done (by kernel_rfl) ?_ _
    clear hHeld
    rotate_left 1
    iterate 12
      · clear hwX hwc
        have HRM := Lib.hid (show rpM m c = ⟨i0, fl, m.q, [], [], []⟩ by unfold rpM; rw [HI0.out, HF0.out, HFL.out])
        obtain ⟨c0, c1, c2', c3, c4, c5'⟩ := HZ8.out.six
        obtain ⟨d0, d1, d2, d3, d4, d5⟩ := HZ9.out.six
        go_wp2_with fail
        clear c0 c1 c2' c3 c4 c5' d0 d1 d2 d3 d4 d5
        refine (sameM_yes (mg_bare i0 fl HR1.out HLQ.out hl9) (mg_bare i0 fl HR2.out HLQ.out hl9) (Nat.le_refl _) (Nat.le_refl _)).mono ?_; rintro e w5 ⟨rfl, hb⟩
        replace HZZ := Lib.hid (below_aside HZZ.out (Aside.of_all hb : Aside (fun _ => False) _ _) (fun k hk => ⟨Nat.lt_of_lt_of_le hk HWS.out, id⟩))
        replace HWS := Lib.hid (Nat.le_trans HWS.out hb.size)
        replace HR1 := Lib.hid (show OwnQn _ _ _ _ from row_below HR1.out hb)
        replace HZ8 := Lib.hid (HZ8.out.below (by simp) hb)
        clear hb
        obtain ⟨c0, c1, c2', c3, c4, c5'⟩ := HZ8.out.six
        go_wp2_with fail
        clear c0 c1 c2' c3 c4 c5'
        refine (overM_any i0 fl HR1.out HLQ.out hl9).mono ?_; rintro e w6 ⟨rfl, hst⟩
        have hlt := World.ownsRow.lt HR1.out
        replace HZZ := Lib.hid (below_aside HZZ.out hst (fun k hk => ⟨Nat.lt_of_lt_of_le hk HWS.out, fun hg => by have := (hlt _ hg).1; omega⟩))
        replace HWS := Lib.hid (Nat.le_trans HWS.out hst.size)
        clear hst hlt HR1 HR2 HZ8 HZ9
        obtain ⟨c0, c1, c2', c3, c4, c5'⟩ := (cel_z HX.out HZE.out HZZ.out).six
        obtain ⟨d0, d1, d2, d3, d4, d5⟩ := (cel_z HI.out HZE.out HZZ.out).six
        go_wp2_with fail
        clear c0 c1 c2' c3 c4 c5' d0 d1 d2 d3 d4 d5
        refine (keptM_any (HC.out.below (by rw [HZE.out]; exact HZZ.out)) (mg_z HM.out HZE.out HZZ.out) HWS.out (Nat.le_trans HTOT.out (by decide))).mono ?_; rintro e w7 ⟨rfl, hb⟩
        replace HZZ := Lib.hid (below_aside HZZ.out (Aside.of_all hb : Aside (fun _ => False) _ _) (fun k hk => ⟨Nat.lt_of_lt_of_le hk HWS.out, id⟩))
        replace HWS := Lib.hid (Nat.le_trans HWS.out hb.size)
        clear hb
        go_wp2_with fail
        refine (mop_any f w7).mono ?_; rintro e w8 ⟨rfl, rfl⟩
        go_wp2_with fail
        refine (rop_any f w7).mono ?_; rintro e w8 ⟨rfl, rfl⟩
        go_wp2_with fail
        refine (mcode_any f w7).mono ?_; rintro e w8 ⟨rfl, rfl⟩
        go_wp2_with fail
        refine (rcode_any f w7).mono ?_; rintro e w8 ⟨rfl, rfl⟩
        go_wp2_with fail
        refine (mwith_any f c w7).mono ?_; rintro e w8 ⟨rfl, rfl⟩
        go_wp2_with fail
        refine (rwith_any f c w7).mono ?_; rintro e w8 ⟨rfl, rfl⟩
        go_wp2_with fail
        refine (HAw.out _).mono ?_; rintro e w8 ⟨rfl, hb⟩
        replace HZZ := Lib.hid (below_aside HZZ.out (Aside.of_all hb : Aside (fun _ => False) _ _) (fun k hk => ⟨Nat.lt_of_lt_of_le hk HWS.out, id⟩))
        replace HWS := Lib.hid (Nat.le_trans HWS.out hb.size)
        clear hb
        go_wp2_with fail
        go_ret
        exact ⟨rfl, bel_call HB.out (by rw [HZE.out]; exact HZZ.out)⟩
end Go.Proofs.YtdikgjbpjdnodaaGreat
