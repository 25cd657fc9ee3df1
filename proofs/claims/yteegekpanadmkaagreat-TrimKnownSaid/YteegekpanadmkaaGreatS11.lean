/-
  A message's bytes: Write.
-/
import Derived.Test.YteegekpanadmkaaGreatS10
namespace Go.Proofs.YteegekpanadmkaaGreat
open Go.RowKit Go.Shelf
set_option linter.unusedVariables false
set_option linter.unusedSimpArgs false
set_option maxRecDepth 100000

theorem m_writeQ (M : Nat) (w : World) : (method 313 117 (.agg #[.pointer (some ⟨M, 2, none⟩)]) "ostiary/msg.write").run Tryz.prog w = .ok (121, .agg #[.pointer (some ⟨M, 2, none⟩)]) w := by kernel_rfl
theorem m_writeR (M o : Nat) (w : World) : (method 313 120 (.agg #[.pointer (some ⟨M, o, none⟩)]) "ostiary/msg.write").run Tryz.prog w = .ok (154, .agg #[.pointer (some ⟨M, o, none⟩)]) w := by kernel_rfl

/-- What Write tells. -/
def MWPost (w : World) (R : Option (List UInt8) × Int) (x : Ending) (w' : World) : Prop := ∃ v, x = .returned (.tuple #[v, .int .i64 R.2]) ∧ OwnB w' w.heap.size v (R.1.getD []) ∧ Below w.heap.size w w'

set_option maxHeartbeats 8000000 in
theorem writeM_no {w : World} {hi : Nat} {u : Value} {m : Ms} (h : Mg w hi u m) (h1 : hi ≤ w.heap.size) (hf : m.Fine) (hE : chkM m ≠ 0) :
    Calls Tryz.prog 24 #[u] w (MWPost w (none, chkM m)) := by
  have hck := fun wx (hb : Below w.heap.size w wx) => checkM_any (h.below hb h1) (Nat.le_trans h1 hb.size) hf
  obtain ⟨q, a, n, r, rfl, _⟩ := h
  have hmf : ∀ (fn : Fn) (first cap : Array Value) (w : World), (Instr.makeFunc fn first cap).run Tryz.prog w = .ok (.func fn first cap) w := fun _ _ _ _ => rfl
  obtain ⟨i0, hi0⟩ : ∃ i, m.id = i := ⟨_, rfl⟩
  obtain ⟨i1, hi1⟩ : ∃ i, m.fl = i := ⟨_, rfl⟩
  obtain ⟨E, hEE⟩ : ∃ E, chkM m = E := ⟨_, rfl⟩
  rw [hi0, hi1, hEE] at hck
  rw [hi0, hi1, hEE]
  rw [hEE] at hE
  obtain ⟨M, hM⟩ : ∃ M, w.heap.size = M := ⟨_, rfl⟩
  obtain ⟨W1, W2, W3, hW1, hW2, hW3, s1, s2, s3, hw⟩ := W0.start hM (.int .i64 i0) (.int .i64 i1) q a n r
  have HC := Lib.hid hck
  have HW := Lib.hid hw
  have HM := Lib.hid hM
  obtain ⟨c0, c1, c2, c3, c4, c5⟩ := hw.x.six
  have tE : (E != 0) = true := by simpa using hE
  clear hck hw hi0 hi1 hEE
  go_enter_defers Tryz.func24, Tryz.ntmps24
  go_wp2_with fail
  refine (HC.out _ (by rw [HM.out]; exact HW.out.bel)).mono ?_; rintro e w1 ⟨rfl, hb⟩
  replace HW := Lib.hid (HW.out.later hb)
  clear hb c0 c1 c2 c3 c4 c5
  have d2 : w1.cell? ⟨M + 2, 0, none⟩ = some (.int .i64 0) := HW.out.c3.c 0 (by simp)
  have f2 := HW.out.c3.fz
  have d1 : w1.cell? ⟨M + 1, 0, none⟩ = some (.slice none 0 0) := HW.out.c2.c 0 (by simp)
  have f1 := HW.out.c2.fz
  go_wp2_with fail
  go_region
  go_wp2_with fail
  have g3 := HW.out.c3.set (o := 0) (by simp) (.int .i64 E)
  have g2 := HW.out.c2.other (a := ⟨M + 2, 0, none⟩) (by simp) (.int .i64 E)
  have k2 := g2.set (o := 0) (by simp) (.slice none 0 0)
  have k3 := g3.other (a := ⟨M + 1, 0, none⟩) (by simp) (.slice none 0 0)
  have j3 := k3.set (o := 0) (by simp) (.int .i64 E)
  have j2 := k2.other (a := ⟨M + 2, 0, none⟩) (by simp) (.int .i64 E)
  simp only [List.set_cons_zero] at j2 j3
  have hbl := (((HW.out.bel.setCell (p := ⟨M + 2, 0, none⟩) (by simp) (.int .i64 E)).setCell (p := ⟨M + 1, 0, none⟩) (by simp) (.slice none 0 0)).setCell (p := ⟨M + 2, 0, none⟩) (by simp) (.int .i64 E)).drew
  obtain ⟨X, hX⟩ : ∃ X, (((w1.setCell ⟨M + 2, 0, none⟩ (.int .i64 E)).setCell ⟨M + 1, 0, none⟩ (.slice none 0 0)).setCell ⟨M + 2, 0, none⟩ (.int .i64 E)).drew = X := ⟨_, rfl⟩
  have q2 : Cel X (M + 1) [.slice none 0 0] := by rw [← hX]; exact ⟨j2.c, j2.fz⟩
  have q3 : Cel X (M + 2) [.int .i64 E] := by rw [← hX]; exact ⟨j3.c, j3.fz⟩
  rw [hX] at hbl ⊢
  refine leaves_cons (f := 50) (args := #[.pointer (some ⟨M + 2, 0, none⟩), .pointer (some ⟨M + 1, 0, none⟩)]) (by simp) (by simp [go_sem]) ?_
  refine (wend_bad (M + 2) (M + 1) E _ hE _ (q3.c 0 (by simp)) (q2.c 0 (by simp)) q2.fz).mono ?_
  rintro e0 u' w9 ⟨rfl, rfl, rfl⟩
  have m2 := (q2.set (o := 0) (by simp) (.slice none 0 0)).c 0 (by simp)
  have m3 := (q3.other (a := ⟨M + 1, 0, none⟩) (by simp) (.slice none 0 0)).c 0 (by simp)
  simp only [List.set_cons_zero, List.getElem_cons_zero] at m2 m3
  simp [Leaves, settle, results, Tryz.results24, go_sem, m2, m3]
  refine ⟨_, rfl, OwnB.nil _ _, ?_⟩
  rw [HM.out]
  exact hbl.setCell (by simp) _

/-! ### a message that may be -/

theorem ask_next {K : KK} {e : Nat} (a : Int) (n : List UInt8) (t c : Int) (hG : GoodK K) (he : e ≤ 66000) : GoodK (askW a n t c K e).K ∧ (askW a n t c K e).K.length ≤ K.length + 600 ∧ (askW a n t c K e).e ≤ 66000 := by
  unfold askW
  split
  · exact ⟨hG, by simp, he⟩
  · split
    · exact ⟨hG, by simp, he⟩
    · obtain ⟨h1, h2, h3⟩ := nameK_good (e := e) (a := a) (n := n) hG
      exact ⟨h1, by simp only; omega, by simp only; omega⟩
theorem ask_len {K : KK} {e : Nat} (a : Int) (n : List UInt8) (t c : Int) (hG : GoodK K) : (askW a n t c K e).out.length ≤ 66000 := by
  unfold askW
  split
  · simp
  · split
    · simp
    · have := (nameB_len (e := e) (a := a) (n := n) hG).1
      simp only [List.length_append, two_len]
      omega
theorem wrC_len {K : KK} {e : Nat} (a : Int) (x : Rc) (hG : GoodK K) : (wrC a x K e).out.length ≤ 66000 := by
  unfold wrC
  split
  · simp
  · rename_i hc
    split
    · simp
    · obtain ⟨_, _, _, hsp⟩ := chkC_ok (by simpa using hc)
      have h1 := (nameB_len (e := e) (a := a) (n := x.n) hG).1
      have h2 := (nameK_good (e := e) (a := a) (n := x.n) hG).1
      have h3 := wrR_len (a + (nameB K e a x.n).length + 10) x.t x.d (nameK K e a x.n) (nameE K e a x.n) h2 hsp
      unfold wrT
      split
      · simp
      · simp only [List.length_append, headB_len]
        omega
theorem wrI_next {K : KK} {e : Nat} (b : List UInt8) (it : It) (hG : GoodK K) (he : e ≤ 66000) : GoodK (wrI b K e it).K ∧ (wrI b K e it).K.length ≤ K.length + 600 ∧ (wrI b K e it).e ≤ 66000 ∧ (wrI b K e it).out.length ≤ 66000 := by
  cases it with
  | q x =>
    obtain ⟨h1, h2, h3⟩ := ask_next (b.length : Int) x.n x.t x.c hG he
    exact ⟨h1, h2, h3, ask_len _ _ _ _ hG⟩
  | r x =>
    obtain ⟨h1, h2, h3⟩ := wrC_next (b.length : Int) x hG he
    exact ⟨h1, h2, h3, wrC_len _ _ hG⟩
theorem wrIs_step {α : Type} (f : α → It) (l : List α) (rest : List It) (j : Nat) (hj : j < l.length) (b : List UInt8) (K : KK) (e : Nat) : wrIs ((l.drop j).map f ++ rest) b K e =
    if (wrI b K e (f l[j])).code ≠ 0 ∨ 65535 < (b ++ (wrI b K e (f l[j])).out).length then none else wrIs ((l.drop (j + 1)).map f ++ rest) (b ++ (wrI b K e (f l[j])).out) (wrI b K e (f l[j])).K (wrI b K e (f l[j])).e := by
  rw [List.drop_eq_getElem_cons hj, List.map_cons, List.cons_append, wrIs]
theorem wrIs_end {α : Type} (f : α → It) (l : List α) (rest : List It) (j : Nat) (hj : l.length ≤ j) (b : List UInt8) (K : KK) (e : Nat) : wrIs ((l.drop j).map f ++ rest) b K e = wrIs rest b K e := by
  rw [List.drop_eq_nil_of_le hj]; rfl
theorem its_parts (m : Ms) : m.its = (m.q.drop 0).map It.q ++ (m.an.map It.r ++ (m.ns.map It.r ++ (m.ar.map It.r ++ []))) := by
  unfold Ms.its
  rw [List.append_nil]
  rfl

/-- What Write tells by what came of the entries. -/
def wfin : Option (List UInt8) → Option (List UInt8) × Int
  | some z => (some z, 0)
  | none => (none, 3)
theorem wrM_fin {m : Ms} (h : chkM m = 0) : wrM m = wfin (wrIs m.its (headM m) [] 0) := by
  unfold wrM
  rw [if_neg (by simpa using h)]
  cases wrIs m.its (headM m) [] 0 <;> rfl

/-- The head's first bytes. -/
def hdr (i0 i1 : Int) (ls : List Int) (k : Nat) : List UInt8 := (two i0 ++ two i1) ++ (ls.take k).flatMap two
theorem hdr_len (i0 i1 a b c d : Int) (k : Nat) : (hdr i0 i1 [a, b, c, d] k).length ≤ 12 := by
  unfold hdr
  match k with
  | 0 => simp [two]
  | 1 => simp [two]
  | 2 => simp [two]
  | 3 => simp [two]
  | k + 4 => simp [two]

set_option maxHeartbeats 16000000 in
theorem writeM_yes {w : World} {hi : Nat} {u : Value} {m : Ms} (h : Mg w hi u m) (h1 : hi ≤ w.heap.size) (hf : m.Fine) (h0 : chkM m = 0) (hn : m.q.length + m.an.length + m.ns.length + m.ar.length ≤ 1100) :
    Calls Tryz.prog 24 #[u] w (MWPost w (wrM m)) := by
  rw [wrM_fin h0]
  have hck := fun wx (hb : Below w.heap.size w wx) => checkM_any (h.below hb h1) (Nat.le_trans h1 hb.size) hf
  obtain ⟨l0, l1, l2, l3, z0, z1, z2, z3, hits⟩ := chkM_ok h0
  obtain ⟨q, a, n, r, rfl, k1, k2, k3, k4⟩ := h
  have hmf : ∀ (fn : Fn) (first cap : Array Value) (w : World), (Instr.makeFunc fn first cap).run Tryz.prog w = .ok (.func fn first cap) w := fun _ _ _ _ => rfl
  have HmQ := fun M w => m_countQ M w
  have HmR := fun M o w => m_countR M o w
  have HwQ := fun M w => m_writeQ M w
  have HwR := fun M o w => m_writeR M o w
  have Hx0 := fun M w => ix_l0 M w
  have Hx1 := fun M w => ix_l1 M w
  have Hx2 := fun M w => ix_l2 M w
  have Hx3 := fun M w => ix_l3 M w
  have hhm : headM m = hdr m.id m.fl [(m.q.length : Int), m.an.length, m.ns.length, m.ar.length] 4 := by simp [headM, hdr]
  rw [hhm, its_parts]
  obtain ⟨i0, hi0⟩ : ∃ i, m.id = i := ⟨_, rfl⟩
  obtain ⟨i1, hi1⟩ : ∃ i, m.fl = i := ⟨_, rfl⟩
  rw [hi0, hi1, h0] at hck
  rw [hi0] at l0 l1
  rw [hi1] at l2 l3
  rw [hi0, hi1]
  obtain ⟨RO, hRO⟩ : ∃ x, wrIs ((m.q.drop 0).map It.q ++ (m.an.map It.r ++ (m.ns.map It.r ++ (m.ar.map It.r ++ [])))) (hdr i0 i1 [(m.q.length : Int), m.an.length, m.ns.length, m.ar.length] 4) [] 0 = x := ⟨_, rfl⟩
  rw [hRO]
  obtain ⟨M, hM⟩ : ∃ M, w.heap.size = M := ⟨_, rfl⟩
  obtain ⟨W1, W2, W3, hW1, hW2, hW3, s1, s2, s3, hw⟩ := W0.start hM (.int .i64 i0) (.int .i64 i1) q a n r
  have HRO := Lib.hid hRO
  have HC := Lib.hid hck
  have HW := Lib.hid hw
  have HM := Lib.hid hM
  have HL := Lib.hid (fun wx (hx : Cel wx M [.int .i64 i0, .int .i64 i1, q, a, n, r]) => lists_any M wx (hx.lt (by simp)))
  have HT0 := Lib.hid (fun wx => mtwo_any i0 l0 l1 wx)
  have HT1 := Lib.hid (fun wx => mtwo_any i1 l2 l3 wx)
  have HCQ := Lib.hid (fun wx (hb : Below w.heap.size w wx) (hx : Cel wx M [.int .i64 i0, .int .i64 i1, q, a, n, r]) => countQ_any (hx.c 2 (by simp)) (Lst.below k1 hb h1))
  have HCA := Lib.hid (fun wx (hb : Below w.heap.size w wx) (hx : Cel wx M [.int .i64 i0, .int .i64 i1, q, a, n, r]) => countR_any (hx.c 3 (by simp)) (Lst.below k2 hb h1))
  have HCN := Lib.hid (fun wx (hb : Below w.heap.size w wx) (hx : Cel wx M [.int .i64 i0, .int .i64 i1, q, a, n, r]) => countR_any (hx.c 4 (by simp)) (Lst.below k3 hb h1))
  have HCR := Lib.hid (fun wx (hb : Below w.heap.size w wx) (hx : Cel wx M [.int .i64 i0, .int .i64 i1, q, a, n, r]) => countR_any (hx.c 5 (by simp)) (Lst.below k4 hb h1))
  have HTQ := Lib.hid (fun wx => mtwo_any (m.q.length : Int) (by omega) (by omega) wx)
  have HTA := Lib.hid (fun wx => mtwo_any (m.an.length : Int) (by omega) (by omega) wx)
  have HTN := Lib.hid (fun wx => mtwo_any (m.ns.length : Int) (by omega) (by omega) wx)
  have HTR := Lib.hid (fun wx => mtwo_any (m.ar.length : Int) (by omega) (by omega) wx)
  have HWQ := Lib.hid (fun wx (hb : Below w.heap.size w wx) (hx : Cel wx M [.int .i64 i0, .int .i64 i1, q, a, n, r]) p bm e K (hp : Pk wx p bm K e) hG hK he (aa : Int) j hj => writeQ_any (hx.c 2 (by simp)) (Lst.below k1 hb h1) (Nat.le_trans h1 hb.size) hp hG hK he aa j hj (hf.q _ (List.getElem_mem hj)))
  have HWA := Lib.hid (fun wx (hb : Below w.heap.size w wx) (hx : Cel wx M [.int .i64 i0, .int .i64 i1, q, a, n, r]) p bm e K (hp : Pk wx p bm K e) hG hK he (aa : Int) j hj => writeR_any (hx.c 3 (by simp)) (Lst.below k2 hb h1) (Nat.le_trans h1 hb.size) hp hG hK he aa j hj (hf.an _ (List.getElem_mem hj)).1 (hf.an _ (List.getElem_mem hj)).2)
  have HWN := Lib.hid (fun wx (hb : Below w.heap.size w wx) (hx : Cel wx M [.int .i64 i0, .int .i64 i1, q, a, n, r]) p bm e K (hp : Pk wx p bm K e) hG hK he (aa : Int) j hj => writeR_any (hx.c 4 (by simp)) (Lst.below k3 hb h1) (Nat.le_trans h1 hb.size) hp hG hK he aa j hj (hf.ns _ (List.getElem_mem hj)).1 (hf.ns _ (List.getElem_mem hj)).2)
  have HWR := Lib.hid (fun wx (hb : Below w.heap.size w wx) (hx : Cel wx M [.int .i64 i0, .int .i64 i1, q, a, n, r]) p bm e K (hp : Pk wx p bm K e) hG hK he (aa : Int) j hj => writeR_any (hx.c 5 (by simp)) (Lst.below k4 hb h1) (Nat.le_trans h1 hb.size) hp hG hK he aa j hj (hf.ar _ (List.getElem_mem hj)).1 (hf.ar _ (List.getElem_mem hj)).2)
  obtain ⟨c0, c1, c2, c3, c4, c5⟩ := hw.x.six
  clear hck hw hi0 hi1 hRO k1 k2 k3 k4 hhm hits l0 l1 l2 l3
  go_enter_defers Tryz.func24, Tryz.ntmps24
  go_wp2_with fail
  refine (HC.out _ (by rw [HM.out]; exact HW.out.bel)).mono ?_; rintro e w1 ⟨rfl, hb⟩
  replace HW := Lib.hid (HW.out.later hb)
  clear hb c0 c1 c2 c3 c4 c5 hW1 hW2 hW3 s1 s2 s3
  have d2 : w1.cell? ⟨M + 2, 0, none⟩ = some (.int .i64 0) := HW.out.c3.c 0 (by simp)
  have f2 := HW.out.c3.fz
  obtain ⟨X1, hX1⟩ : ∃ X, w1.setCell ⟨M + 2, 0, none⟩ (.int .i64 0) = X := ⟨_, rfl⟩
  replace HW := Lib.hid (hX1 ▸ HW.out.noerr)
  have d3 : X1.cell? ⟨M + 2, 0, none⟩ = some (.int .i64 0) := HW.out.c3.c 0 (by simp)
  go_wp2_with fail
  refine (HL.out _ HW.out.x).mono ?_; rintro e w2 ⟨rfl, hb⟩
  replace HW := Lib.hid (HW.out.later hb)
  clear hb d2 f2 d3 hX1
  unfold lall lq lr
  obtain ⟨N, hN⟩ : ∃ N, w2.heap.size = N := ⟨_, rfl⟩
  obtain ⟨W4, hW4⟩ : ∃ X, w2.alloc (.cells #[.iface 117 (.agg #[.pointer (some ⟨M, 2, none⟩)]), .iface 120 (.agg #[.pointer (some ⟨M, 3, none⟩)]), .iface 120 (.agg #[.pointer (some ⟨M, 4, none⟩)]), .iface 120 (.agg #[.pointer (some ⟨M, 5, none⟩)])] 79) = X := ⟨_, rfl⟩
  have hy4 := cel_new4 w2 (.iface 117 (.agg #[.pointer (some ⟨M, 2, none⟩)])) (.iface 120 (.agg #[.pointer (some ⟨M, 3, none⟩)])) (.iface 120 (.agg #[.pointer (some ⟨M, 4, none⟩)])) (.iface 120 (.agg #[.pointer (some ⟨M, 5, none⟩)])) 79
  rw [hW4, hN] at hy4
  have hsz := HW.out.size
  have hb4 : Below w2.heap.size w2 W4 := by rw [← hW4]; exact (Below.refl _ _).alloc (Nat.le_refl _) _
  have hs4 : W4.heap.size = N + 1 := by rw [← hW4, World.size_alloc, hN]
  replace HW := Lib.hid ((HW.out.later hb4).lists hy4 (by simp) (by omega) (by omega))
  clear hy4 hb4 hsz
  obtain ⟨c0, c1, c2, c3, c4, c5⟩ := HW.out.x.six
  have d1 : W4.cell? ⟨M + 1, 0, none⟩ = some (.slice none 0 0) := HW.out.c2.c 0 (by simp)
  have f1 := HW.out.c2.fz
  go_wp2_with fail
  clear c0 c1 c2 c3 c4 c5 d1 f1
  replace HW := Lib.hid (HW.out.later (Below.refl W4.heap.size W4).drew)
  have HS4 := Lib.hid (show N + 1 ≤ W4.drew.heap.size from Nat.le_of_eq hs4.symm)
  refine wp_region_held_drew (S := (fun wx => wx.cell? ⟨M, 0, none⟩ = some (.int .i64 i0) ∧ wx.cell? ⟨M, 1, none⟩ = some (.int .i64 i1))) (by kernel_rfl) ⟨HW.out.x.c 0 (by simp), HW.out.x.c 1 (by simp)⟩ (fun hHeld => ?_)
  refine wpAnyH_take (i := 0) (oi := { dst := some 21, op := Op.fieldAddr 25 (Operand.tmp 1) 0, type := 0, pos := "msg.go:59", after := #[], guard := none }) (v := ?_) rfl (by kernel_rfl) (by kernel_rfl) (by kernel_rfl) (fun _ _ _ h => wq_put ⟨by simp, by simp⟩ h) (Or.inl ⟨by rfl, ?_⟩) (by assumption) ?_
  rotate_left 1
  · intro w hSw; (try dsimp only at hSw); go_simp; try (with_reducible rfl)
  try simp only [Act.put, List.setIfInBounds_toArray, List.set_cons_zero, List.set_cons_succ]
  refine wpAnyH_take (i := 1) (oi := { dst := some 22, op := Op.load 3 (Operand.tmp 21), type := 3, pos := "msg.go:59", after := #[{ on := 0, ground := Ground.data }], guard := none }) (v := ?_) rfl (by kernel_rfl) (by kernel_rfl) (by kernel_rfl) (fun _ _ _ h => wq_put ⟨by simp, by simp⟩ h) (Or.inl ⟨by rfl, ?_⟩) (by assumption) ?_
  rotate_left 1
  · intro w hSw; (try dsimp only at hSw); go_simp; try (with_reducible rfl)
  try simp only [Act.put, List.setIfInBounds_toArray, List.set_cons_zero, List.set_cons_succ]
  refine wpAnyH_take (i := 3) (oi := { dst := some 24, op := Op.fieldAddr 25 (Operand.tmp 1) 1, type := 0, pos := "msg.go:59", after := #[], guard := none }) (v := ?_) rfl (by kernel_rfl) (by kernel_rfl) (by kernel_rfl) (fun _ _ _ h => wq_put ⟨by simp, by simp⟩ h) (Or.inl ⟨by rfl, ?_⟩) (by assumption) ?_
  rotate_left 1
  · intro w hSw; (try dsimp only at hSw); go_simp; try (with_reducible rfl)
  try simp only [Act.put, List.setIfInBounds_toArray, List.set_cons_zero, List.set_cons_succ]
  refine wpAnyH_take (i := 4) (oi := { dst := some 25, op := Op.load 3 (Operand.tmp 24), type := 3, pos := "msg.go:59", after := #[{ on := 3, ground := Ground.data }], guard := none }) (v := ?_) rfl (by kernel_rfl) (by kernel_rfl) (by kernel_rfl) (fun _ _ _ h => wq_put ⟨by simp, by simp⟩ h) (Or.inl ⟨by rfl, ?_⟩) (by assumption) ?_
  rotate_left 1
  · intro w hSw; (try dsimp only at hSw); go_simp; try (with_reducible rfl)
  try simp only [Act.put, List.setIfInBounds_toArray, List.set_cons_zero, List.set_cons_succ]
  refine wpAnyH_ready (rs := [2]) (by kernel_rfl) (by simp) ?_
  refine AllReadyH.cons (o := { dst := some 23, op := Op.call { callee := Callee.value (Operand.func 51), args := #[Operand.tmp 22], argTypes := #[3] }, type := 28, pos := "msg.go:59", after := #[{ on := 1, ground := Ground.data }], guard := none }) rfl (fun K hK => ?_) (AllReadyH.nil)
  go_simp
  refine (HT0.out _).mono ?_; rintro e0 w5 ⟨a1, k1, rfl, ho, hb⟩
  have HO1 := Lib.hid ho
  replace HW := Lib.hid (HW.out.later hb)
  clear hb ho
  focus (try go_wp2_with fail)
  refine hK.out _ _ ⟨HW.out.x.c 0 (by simp), HW.out.x.c 1 (by simp)⟩ (fun hHeld => ?_)
  clear hK K
  try simp only [Act.put, List.setIfInBounds_toArray, List.set_cons_zero, List.set_cons_succ]
  refine wpAnyH_ready (rs := [5]) (by kernel_rfl) (by simp) ?_
  refine AllReadyH.cons (o := { dst := some 26, op := Op.call { callee := Callee.value (Operand.func 51), args := #[Operand.tmp 25], argTypes := #[3] }, type := 28, pos := "msg.go:59", after := #[{ on := 4, ground := Ground.data }, { on := 2, ground := Ground.chain }], guard := none }) rfl (fun K hK => ?_) (AllReadyH.nil)
  go_simp
  refine (HT1.out _).mono ?_; rintro e0 w6 ⟨a2, k2, rfl, ho, hb⟩
  have HO2 := Lib.hid ho
  replace HW := Lib.hid (HW.out.later hb)
  replace HO1 := Lib.hid (HO1.out.below hb)
  clear hb ho
  focus (try go_wp2_with fail)
  refine hK.out _ _ ⟨HW.out.x.c 0 (by simp), HW.out.x.c 1 (by simp)⟩ (fun hHeld => ?_)
  clear hK K
  try simp only [Act.put, List.setIfInBounds_toArray, List.set_cons_zero, List.set_cons_succ]
  refine wpAnyH_ready (rs := [6]) (by kernel_rfl) (by simp) ?_
  refine AllReadyH.cons (o := { dst := some 27, op := Op.call { callee := Callee.builtin Builtin.append, args := #[Operand.tmp 23, Operand.tmp 26], argTypes := #[28, 28] }, type := 28, pos := "msg.go:59", after := #[{ on := 2, ground := Ground.data }, { on := 5, ground := Ground.data }, { on := 5, ground := Ground.chain }], guard := none }) rfl (fun K hK => ?_) (AllReadyH.nil)
  obtain ⟨a3, k3, w7, hrun, ho3, ha3⟩ := run_appBs (N + 1) (.slice a1 2 k1) (.slice a2 2 k2) (two i0) (two i1) (HO1.out.mono (by first | exact HS4.out | (have := HS4.out; omega))) HO2.out.sl (by simp [two]) HW.out.size
  rw [show (two i0).length + (two i1).length = 4 from rfl] at hrun ho3
  have HRUN := Lib.hid hrun
  have HO3 := Lib.hid ho3
  have hlt1 := (HO1.out.mono (by first | exact HS4.out | (have := HS4.out; omega))).lt
  replace HW := Lib.hid (HW.out.aside ha3 (fun k hk hg => by have := (hlt1 k hg).1; omega) (fun k hk => by simp [Value.ownBlock] at hk))
  have d1 := HW.out.c2.c 0 (by simp)
  have f1 := HW.out.c2.fz
  clear hrun ho3 ha3 hlt1
  refine oper_app_run (.tmp 23) (.tmp 26) 28 28 rfl rfl rfl rfl HRUN.out ?_
  refine hK.out _ _ ⟨HW.out.x.c 0 (by simp), HW.out.x.c 1 (by simp)⟩ (fun hHeld => ?_)
  clear hK K
  try simp only [Act.put, List.setIfInBounds_toArray, List.set_cons_zero, List.set_cons_succ]
  refine wpAnyH_ready (rs := [7]) (by kernel_rfl) (by simp) ?_
  refine AllReadyH.cons (o := { dst := none, op := Op.store 28 (Operand.tmp 2) (Operand.tmp 27), type := 0, pos := "msg.go:59", after := #[{ on := 6, ground := Ground.data }, { on := 6, ground := Ground.chain }, { on := 0, ground := Ground.phase }, { on := 1, ground := Ground.phase }, { on := 2, ground := Ground.phase }, { on := 3, ground := Ground.phase }, { on := 4, ground := Ground.phase }, { on := 5, ground := Ground.phase }, { on := 6, ground := Ground.phase }], guard := none }) rfl (fun K hK => ?_) (AllReadyH.nil)
  go_simp
  replace HW := Lib.hid (HW.out.put HO3.out)
  refine hK.out _ _ ⟨HW.out.x.c 0 (by simp), HW.out.x.c 1 (by simp)⟩ (fun hHeld => ?_)
  clear hK K
  try simp only [Act.put, List.setIfInBounds_toArray, List.set_cons_zero, List.set_cons_succ]
  refine wpAnyH_done (by kernel_rfl) ?_ _
  clear hHeld
  have y0 := HW.out.y.c 0 (by simp)
  have y1 := HW.out.y.c 1 (by simp)
  have y2 := HW.out.y.c 2 (by simp)
  have y3 := HW.out.y.c 3 (by simp)
  simp only [List.getElem_cons_zero, List.getElem_cons_succ] at y0 y1 y2 y3
  obtain ⟨WA, hWA⟩ : ∃ X, w7.setCell ⟨M + 1, 0, none⟩ (.slice a3 4 k3) = X := ⟨_, rfl⟩
  rw [hWA] at HW y0 y1 y2 y3
  have HWA := Lib.hid (show W0 w WA M N (N + 1) [.int .i64 i0, .int .i64 i1, q, a, n, r] [.iface 117 (.agg #[.pointer (some ⟨M, 2, none⟩)]), .iface 120 (.agg #[.pointer (some ⟨M, 3, none⟩)]), .iface 120 (.agg #[.pointer (some ⟨M, 4, none⟩)]), .iface 120 (.agg #[.pointer (some ⟨M, 5, none⟩)])] (.slice a3 4 k3) (hdr i0 i1 [(m.q.length : Int), m.an.length, m.ns.length, m.ar.length] 0) by
    have := HW.out
    rwa [show hdr i0 i1 [(m.q.length : Int), m.an.length, m.ns.length, m.ar.length] 0 = two i0 ++ two i1 by simp [hdr]])
  clear HO1 HO2 HO3 HRUN HW d1 f1
  rw [hWA]
  clear hWA
  go_wp2_with fail
  clear y0 y1 y2 y3
  go_loopg [29] 4 (fun g v29 wr => ∃ k : Nat, k + g = 4 ∧ v29 = .int .i64 k ∧ ∃ bv, Hid (W0 w wr M N (N + 1) [.int .i64 i0, .int .i64 i1, q, a, n, r] [.iface 117 (.agg #[.pointer (some ⟨M, 2, none⟩)]), .iface 120 (.agg #[.pointer (some ⟨M, 3, none⟩)]), .iface 120 (.agg #[.pointer (some ⟨M, 4, none⟩)]), .iface 120 (.agg #[.pointer (some ⟨M, 5, none⟩)])] bv (hdr i0 i1 [(m.q.length : Int), m.an.length, m.ns.length, m.ar.length] k)))
  case atStart => exact ⟨0, by omega, rfl, _, HWA⟩
  case round =>
    clear HWA
    obtain ⟨k, hk, rfl, bv, HW⟩ := hrel
    obtain rfl | rfl | rfl | rfl | rfl : k = 0 ∨ k = 1 ∨ k = 2 ∨ k = 3 ∨ k = 4 := by omega
    · go_wp2_with fail
      replace HW := Lib.hid (HW.out.later (Below.refl wr.heap.size wr).drew)
      have d1 := HW.out.c2.c 0 (by simp)
      refine wp_region_held_drew (S := (fun _ => True)) (by kernel_rfl) trivial (fun hHeld => ?_)
      refine wpAnyH_take (i := 1) (oi := { dst := some 33, op := Op.move (Operand.tmp 6), type := 78, pos := "msg.go:61", after := #[], guard := none }) (v := ?_) rfl (by kernel_rfl) (by kernel_rfl) (by kernel_rfl) (fun _ _ _ h => wq_put ⟨by simp, by simp⟩ h) (Or.inl ⟨by rfl, ?_⟩) (by assumption) ?_
      rotate_left 1
      · intro w hSw; (try dsimp only at hSw); go_simp; try (with_reducible rfl)
      try simp only [Act.put, List.setIfInBounds_toArray, List.set_cons_zero, List.set_cons_succ]
      refine wpAnyH_ready (rs := [0, 2]) (by kernel_rfl) (by simp) ?_
      refine AllReadyH.cons (o := { dst := some 32, op := Op.load 28 (Operand.tmp 2), type := 28, pos := "msg.go:61", after := #[], guard := none }) rfl (fun K hK => ?_) (AllReadyH.cons (o := { dst := some 34, op := Op.call { callee := Callee.invoke (Operand.tmp 33) "ostiary/msg.count", args := #[], argTypes := #[] }, type := 3, pos := "msg.go:61", after := #[{ on := 1, ground := Ground.data }], guard := none }) rfl (fun K hK => ?_) (AllReadyH.nil))
      go_simp
      refine hK.out _ _ trivial (fun hHeld => ?_)
      clear hK K
      try simp only [Act.put, List.setIfInBounds_toArray, List.set_cons_zero, List.set_cons_succ]
      refine wpAnyH_ready (rs := [2]) (by kernel_rfl) (by simp) ?_
      refine AllReadyH.cons (o := { dst := some 34, op := Op.call { callee := Callee.invoke (Operand.tmp 33) "ostiary/msg.count", args := #[], argTypes := #[] }, type := 3, pos := "msg.go:61", after := #[{ on := 1, ground := Ground.data }], guard := none }) rfl (fun K hK => ?_) (AllReadyH.nil)
      go_simp
      refine (HCQ.out _ (by rw [HM.out]; exact HW.out.bel) HW.out.x).mono ?_; rintro e0 wb ⟨rfl, hb⟩
      replace HW := Lib.hid (HW.out.later hb)
      clear hb d1
      have d1 := HW.out.c2.c 0 (by simp)
      focus (try go_wp2_with fail)
      refine hK.out _ _ trivial (fun hHeld => ?_)
      clear hK K
      try simp only [Act.put, List.setIfInBounds_toArray, List.set_cons_zero, List.set_cons_succ]
      refine wpAnyH_ready (rs := [3]) (by kernel_rfl) (by simp) ?_
      refine AllReadyH.cons (o := { dst := some 35, op := Op.call { callee := Callee.value (Operand.func 51), args := #[Operand.tmp 34], argTypes := #[3] }, type := 28, pos := "msg.go:61", after := #[{ on := 2, ground := Ground.data }, { on := 2, ground := Ground.chain }], guard := none }) rfl (fun K hK => ?_) (AllReadyH.nil)
      go_simp
      refine (HTQ.out _).mono ?_; rintro e0 wc ⟨a1, k1, rfl, ho, hb⟩
      have HO1 := Lib.hid ho
      replace HW := Lib.hid (HW.out.later hb)
      clear hb ho d1
      have d1 := HW.out.c2.c 0 (by simp)
      focus (try go_wp2_with fail)
      refine hK.out _ _ trivial (fun hHeld => ?_)
      clear hK K
      try simp only [Act.put, List.setIfInBounds_toArray, List.set_cons_zero, List.set_cons_succ]
      rotate_left 1
      go_simp
      refine (HCQ.out _ (by rw [HM.out]; exact HW.out.bel) HW.out.x).mono ?_; rintro e0 wb ⟨rfl, hb⟩
      replace HW := Lib.hid (HW.out.later hb)
      clear hb d1
      have d1 := HW.out.c2.c 0 (by simp)
      focus (try go_wp2_with fail)
      refine hK.out _ _ trivial (fun hHeld => ?_)
      clear hK K
      try simp only [Act.put, List.setIfInBounds_toArray, List.set_cons_zero, List.set_cons_succ]
      refine wpAnyH_ready (rs := [0, 3]) (by kernel_rfl) (by simp) ?_
      refine AllReadyH.cons (o := { dst := some 32, op := Op.load 28 (Operand.tmp 2), type := 28, pos := "msg.go:61", after := #[], guard := none }) rfl (fun K hK => ?_) (AllReadyH.cons (o := { dst := some 35, op := Op.call { callee := Callee.value (Operand.func 51), args := #[Operand.tmp 34], argTypes := #[3] }, type := 28, pos := "msg.go:61", after := #[{ on := 2, ground := Ground.data }, { on := 2, ground := Ground.chain }], guard := none }) rfl (fun K hK => ?_) (AllReadyH.nil))
      go_simp
      refine hK.out _ _ trivial (fun hHeld => ?_)
      clear hK K
      try simp only [Act.put, List.setIfInBounds_toArray, List.set_cons_zero, List.set_cons_succ]
      refine wpAnyH_ready (rs := [3]) (by kernel_rfl) (by simp) ?_
      refine AllReadyH.cons (o := { dst := some 35, op := Op.call { callee := Callee.value (Operand.func 51), args := #[Operand.tmp 34], argTypes := #[3] }, type := 28, pos := "msg.go:61", after := #[{ on := 2, ground := Ground.data }, { on := 2, ground := Ground.chain }], guard := none }) rfl (fun K hK => ?_) (AllReadyH.nil)
      go_simp
      refine (HTQ.out _).mono ?_; rintro e0 wc ⟨a1, k1, rfl, ho, hb⟩
      have HO1 := Lib.hid ho
      replace HW := Lib.hid (HW.out.later hb)
      clear hb ho d1
      have d1 := HW.out.c2.c 0 (by simp)
      focus (try go_wp2_with fail)
      refine hK.out _ _ trivial (fun hHeld => ?_)
      clear hK K
      try simp only [Act.put, List.setIfInBounds_toArray, List.set_cons_zero, List.set_cons_succ]
      rotate_left 1
      go_simp
      refine (HTQ.out _).mono ?_; rintro e0 wc ⟨a1, k1, rfl, ho, hb⟩
      have HO1 := Lib.hid ho
      replace HW := Lib.hid (HW.out.later hb)
      clear hb ho d1
      have d1 := HW.out.c2.c 0 (by simp)
      focus (try go_wp2_with fail)
      refine hK.out _ _ trivial (fun hHeld => ?_)
      clear hK K
      try simp only [Act.put, List.setIfInBounds_toArray, List.set_cons_zero, List.set_cons_succ]
      refine wpAnyH_ready (rs := [0]) (by kernel_rfl) (by simp) ?_
      refine AllReadyH.cons (o := { dst := some 32, op := Op.load 28 (Operand.tmp 2), type := 28, pos := "msg.go:61", after := #[], guard := none }) rfl (fun K hK => ?_) (AllReadyH.nil)
      go_simp
      refine hK.out _ _ trivial (fun hHeld => ?_)
      clear hK K
      try simp only [Act.put, List.setIfInBounds_toArray, List.set_cons_zero, List.set_cons_succ]
      rotate_left 1
      iterate 3
        · refine wpAnyH_ready (rs := [4]) (by kernel_rfl) (by simp) ?_
          refine AllReadyH.cons (o := { dst := some 36, op := Op.call { callee := Callee.builtin Builtin.append, args := #[Operand.tmp 32, Operand.tmp 35], argTypes := #[28, 28] }, type := 28, pos := "msg.go:61", after := #[{ on := 0, ground := Ground.data }, { on := 3, ground := Ground.data }, { on := 3, ground := Ground.chain }], guard := none }) rfl (fun K hK => ?_) (AllReadyH.nil)
          obtain ⟨a2, k2, wd, hrun, e1, e2, hw2, _⟩ := HW.out.app HO1.out.sl (by have := hdr_len i0 i1 (m.q.length : Int) m.an.length m.ns.length m.ar.length 0; rw [two_len]; omega)
          rw [show (hdr i0 i1 [(m.q.length : Int), m.an.length, m.ns.length, m.ar.length] 0).length + (two (m.q.length : Int)).length = 6 by simp [hdr, two]] at hrun hw2
          have HRUN := Lib.hid hrun
          have HW2 := Lib.hid (show W0 w (wd.setCell ⟨M + 1, 0, none⟩ (.slice a2 6 k2)) M N (N + 1) [.int .i64 i0, .int .i64 i1, q, a, n, r] [.iface 117 (.agg #[.pointer (some ⟨M, 2, none⟩)]), .iface 120 (.agg #[.pointer (some ⟨M, 3, none⟩)]), .iface 120 (.agg #[.pointer (some ⟨M, 4, none⟩)]), .iface 120 (.agg #[.pointer (some ⟨M, 5, none⟩)])] (.slice a2 6 k2) (hdr i0 i1 [(m.q.length : Int), m.an.length, m.ns.length, m.ar.length] 1) by
            rwa [show hdr i0 i1 [(m.q.length : Int), m.an.length, m.ns.length, m.ar.length] 1 = hdr i0 i1 [(m.q.length : Int), m.an.length, m.ns.length, m.ar.length] 0 ++ two (m.q.length : Int) by simp [hdr]])
          clear hrun hw2 HW HO1 d1
          refine oper_app_run (.tmp 32) (.tmp 35) 28 28 rfl rfl rfl rfl HRUN.out ?_
          refine hK.out _ _ trivial (fun hHeld => ?_)
          clear hK K
          try simp only [Act.put, List.setIfInBounds_toArray, List.set_cons_zero, List.set_cons_succ]
          refine wpAnyH_ready (rs := [5]) (by kernel_rfl) (by simp) ?_
          refine AllReadyH.cons (o := { dst := none, op := Op.store 28 (Operand.tmp 2) (Operand.tmp 36), type := 0, pos := "msg.go:61", after := #[{ on := 4, ground := Ground.data }, { on := 4, ground := Ground.chain }, { on := 0, ground := Ground.phase }, { on := 1, ground := Ground.phase }, { on := 2, ground := Ground.phase }, { on := 3, ground := Ground.phase }, { on := 4, ground := Ground.phase }], guard := none }) rfl (fun K hK => ?_) (AllReadyH.nil)
          go_simp
          refine hK.out _ _ trivial (fun hHeld => ?_)
          clear hK K
          try simp only [Act.put, List.setIfInBounds_toArray, List.set_cons_zero, List.set_cons_succ]
          refine wpAnyH_done (by kernel_rfl) ?_ _
          clear hHeld
          go_wp2_with fail
          go_roundg (4 - 1)
          case measure => omega
          case rel => exact ⟨1, by omega, by go_num, _, HW2⟩
    · go_wp2_with fail
      replace HW := Lib.hid (HW.out.later (Below.refl wr.heap.size wr).drew)
      have d1 := HW.out.c2.c 0 (by simp)
      refine wp_region_held_drew (S := (fun _ => True)) (by kernel_rfl) trivial (fun hHeld => ?_)
      refine wpAnyH_take (i := 1) (oi := { dst := some 33, op := Op.move (Operand.tmp 6), type := 78, pos := "msg.go:61", after := #[], guard := none }) (v := ?_) rfl (by kernel_rfl) (by kernel_rfl) (by kernel_rfl) (fun _ _ _ h => wq_put ⟨by simp, by simp⟩ h) (Or.inl ⟨by rfl, ?_⟩) (by assumption) ?_
      rotate_left 1
      · intro w hSw; (try dsimp only at hSw); go_simp; try (with_reducible rfl)
      try simp only [Act.put, List.setIfInBounds_toArray, List.set_cons_zero, List.set_cons_succ]
      refine wpAnyH_ready (rs := [0, 2]) (by kernel_rfl) (by simp) ?_
      refine AllReadyH.cons (o := { dst := some 32, op := Op.load 28 (Operand.tmp 2), type := 28, pos := "msg.go:61", after := #[], guard := none }) rfl (fun K hK => ?_) (AllReadyH.cons (o := { dst := some 34, op := Op.call { callee := Callee.invoke (Operand.tmp 33) "ostiary/msg.count", args := #[], argTypes := #[] }, type := 3, pos := "msg.go:61", after := #[{ on := 1, ground := Ground.data }], guard := none }) rfl (fun K hK => ?_) (AllReadyH.nil))
      go_simp
      refine hK.out _ _ trivial (fun hHeld => ?_)
      clear hK K
      try simp only [Act.put, List.setIfInBounds_toArray, List.set_cons_zero, List.set_cons_succ]
      refine wpAnyH_ready (rs := [2]) (by kernel_rfl) (by simp) ?_
      refine AllReadyH.cons (o := { dst := some 34, op := Op.call { callee := Callee.invoke (Operand.tmp 33) "ostiary/msg.count", args := #[], argTypes := #[] }, type := 3, pos := "msg.go:61", after := #[{ on := 1, ground := Ground.data }], guard := none }) rfl (fun K hK => ?_) (AllReadyH.nil)
      go_simp
      refine (HCA.out _ (by rw [HM.out]; exact HW.out.bel) HW.out.x).mono ?_; rintro e0 wb ⟨rfl, hb⟩
      replace HW := Lib.hid (HW.out.later hb)
      clear hb d1
      have d1 := HW.out.c2.c 0 (by simp)
      focus (try go_wp2_with fail)
      refine hK.out _ _ trivial (fun hHeld => ?_)
      clear hK K
      try simp only [Act.put, List.setIfInBounds_toArray, List.set_cons_zero, List.set_cons_succ]
      refine wpAnyH_ready (rs := [3]) (by kernel_rfl) (by simp) ?_
      refine AllReadyH.cons (o := { dst := some 35, op := Op.call { callee := Callee.value (Operand.func 51), args := #[Operand.tmp 34], argTypes := #[3] }, type := 28, pos := "msg.go:61", after := #[{ on := 2, ground := Ground.data }, { on := 2, ground := Ground.chain }], guard := none }) rfl (fun K hK => ?_) (AllReadyH.nil)
      go_simp
      refine (HTA.out _).mono ?_; rintro e0 wc ⟨a1, k1, rfl, ho, hb⟩
      have HO1 := Lib.hid ho
      replace HW := Lib.hid (HW.out.later hb)
      clear hb ho d1
      have d1 := HW.out.c2.c 0 (by simp)
      focus (try go_wp2_with fail)
      refine hK.out _ _ trivial (fun hHeld => ?_)
      clear hK K
      try simp only [Act.put, List.setIfInBounds_toArray, List.set_cons_zero, List.set_cons_succ]
      rotate_left 1
      go_simp
      refine (HCA.out _ (by rw [HM.out]; exact HW.out.bel) HW.out.x).mono ?_; rintro e0 wb ⟨rfl, hb⟩
      replace HW := Lib.hid (HW.out.later hb)
      clear hb d1
      have d1 := HW.out.c2.c 0 (by simp)
      focus (try go_wp2_with fail)
      refine hK.out _ _ trivial (fun hHeld => ?_)
      clear hK K
      try simp only [Act.put, List.setIfInBounds_toArray, List.set_cons_zero, List.set_cons_succ]
      refine wpAnyH_ready (rs := [0, 3]) (by kernel_rfl) (by simp) ?_
      refine AllReadyH.cons (o := { dst := some 32, op := Op.load 28 (Operand.tmp 2), type := 28, pos := "msg.go:61", after := #[], guard := none }) rfl (fun K hK => ?_) (AllReadyH.cons (o := { dst := some 35, op := Op.call { callee := Callee.value (Operand.func 51), args := #[Operand.tmp 34], argTypes := #[3] }, type := 28, pos := "msg.go:61", after := #[{ on := 2, ground := Ground.data }, { on := 2, ground := Ground.chain }], guard := none }) rfl (fun K hK => ?_) (AllReadyH.nil))
      go_simp
      refine hK.out _ _ trivial (fun hHeld => ?_)
      clear hK K
      try simp only [Act.put, List.setIfInBounds_toArray, List.set_cons_zero, List.set_cons_succ]
      refine wpAnyH_ready (rs := [3]) (by kernel_rfl) (by simp) ?_
      refine AllReadyH.cons (o := { dst := some 35, op := Op.call { callee := Callee.value (Operand.func 51), args := #[Operand.tmp 34], argTypes := #[3] }, type := 28, pos := "msg.go:61", after := #[{ on := 2, ground := Ground.data }, { on := 2, ground := Ground.chain }], guard := none }) rfl (fun K hK => ?_) (AllReadyH.nil)
      go_simp
      refine (HTA.out _).mono ?_; rintro e0 wc ⟨a1, k1, rfl, ho, hb⟩
      have HO1 := Lib.hid ho
      replace HW := Lib.hid (HW.out.later hb)
      clear hb ho d1
      have d1 := HW.out.c2.c 0 (by simp)
      focus (try go_wp2_with fail)
      refine hK.out _ _ trivial (fun hHeld => ?_)
      clear hK K
      try simp only [Act.put, List.setIfInBounds_toArray, List.set_cons_zero, List.set_cons_succ]
      rotate_left 1
      go_simp
      refine (HTA.out _).mono ?_; rintro e0 wc ⟨a1, k1, rfl, ho, hb⟩
      have HO1 := Lib.hid ho
      replace HW := Lib.hid (HW.out.later hb)
      clear hb ho d1
      have d1 := HW.out.c2.c 0 (by simp)
      focus (try go_wp2_with fail)
      refine hK.out _ _ trivial (fun hHeld => ?_)
      clear hK K
      try simp only [Act.put, List.setIfInBounds_toArray, List.set_cons_zero, List.set_cons_succ]
      refine wpAnyH_ready (rs := [0]) (by kernel_rfl) (by simp) ?_
      refine AllReadyH.cons (o := { dst := some 32, op := Op.load 28 (Operand.tmp 2), type := 28, pos := "msg.go:61", after := #[], guard := none }) rfl (fun K hK => ?_) (AllReadyH.nil)
      go_simp
      refine hK.out _ _ trivial (fun hHeld => ?_)
      clear hK K
      try simp only [Act.put, List.setIfInBounds_toArray, List.set_cons_zero, List.set_cons_succ]
      rotate_left 1
      iterate 3
        · refine wpAnyH_ready (rs := [4]) (by kernel_rfl) (by simp) ?_
          refine AllReadyH.cons (o := { dst := some 36, op := Op.call { callee := Callee.builtin Builtin.append, args := #[Operand.tmp 32, Operand.tmp 35], argTypes := #[28, 28] }, type := 28, pos := "msg.go:61", after := #[{ on := 0, ground := Ground.data }, { on := 3, ground := Ground.data }, { on := 3, ground := Ground.chain }], guard := none }) rfl (fun K hK => ?_) (AllReadyH.nil)
          obtain ⟨a2, k2, wd, hrun, e1, e2, hw2, _⟩ := HW.out.app HO1.out.sl (by have := hdr_len i0 i1 (m.q.length : Int) m.an.length m.ns.length m.ar.length 1; rw [two_len]; omega)
          rw [show (hdr i0 i1 [(m.q.length : Int), m.an.length, m.ns.length, m.ar.length] 1).length + (two (m.an.length : Int)).length = 8 by simp [hdr, two]] at hrun hw2
          have HRUN := Lib.hid hrun
          have HW2 := Lib.hid (show W0 w (wd.setCell ⟨M + 1, 0, none⟩ (.slice a2 8 k2)) M N (N + 1) [.int .i64 i0, .int .i64 i1, q, a, n, r] [.iface 117 (.agg #[.pointer (some ⟨M, 2, none⟩)]), .iface 120 (.agg #[.pointer (some ⟨M, 3, none⟩)]), .iface 120 (.agg #[.pointer (some ⟨M, 4, none⟩)]), .iface 120 (.agg #[.pointer (some ⟨M, 5, none⟩)])] (.slice a2 8 k2) (hdr i0 i1 [(m.q.length : Int), m.an.length, m.ns.length, m.ar.length] 2) by
            rwa [show hdr i0 i1 [(m.q.length : Int), m.an.length, m.ns.length, m.ar.length] 2 = hdr i0 i1 [(m.q.length : Int), m.an.length, m.ns.length, m.ar.length] 1 ++ two (m.an.length : Int) by simp [hdr]])
          clear hrun hw2 HW HO1 d1
          refine oper_app_run (.tmp 32) (.tmp 35) 28 28 rfl rfl rfl rfl HRUN.out ?_
          refine hK.out _ _ trivial (fun hHeld => ?_)
          clear hK K
          try simp only [Act.put, List.setIfInBounds_toArray, List.set_cons_zero, List.set_cons_succ]
          refine wpAnyH_ready (rs := [5]) (by kernel_rfl) (by simp) ?_
          refine AllReadyH.cons (o := { dst := none, op := Op.store 28 (Operand.tmp 2) (Operand.tmp 36), type := 0, pos := "msg.go:61", after := #[{ on := 4, ground := Ground.data }, { on := 4, ground := Ground.chain }, { on := 0, ground := Ground.phase }, { on := 1, ground := Ground.phase }, { on := 2, ground := Ground.phase }, { on := 3, ground := Ground.phase }, { on := 4, ground := Ground.phase }], guard := none }) rfl (fun K hK => ?_) (AllReadyH.nil)
          go_simp
          refine hK.out _ _ trivial (fun hHeld => ?_)
          clear hK K
          try simp only [Act.put, List.setIfInBounds_toArray, List.set_cons_zero, List.set_cons_succ]
          refine wpAnyH_done (by kernel_rfl) ?_ _
          clear hHeld
          go_wp2_with fail
          go_roundg (4 - 2)
          case measure => omega
          case rel => exact ⟨2, by omega, by go_num, _, HW2⟩
    · go_wp2_with fail
      replace HW := Lib.hid (HW.out.later (Below.refl wr.heap.size wr).drew)
      have d1 := HW.out.c2.c 0 (by simp)
      refine wp_region_held_drew (S := (fun _ => True)) (by kernel_rfl) trivial (fun hHeld => ?_)
      refine wpAnyH_take (i := 1) (oi := { dst := some 33, op := Op.move (Operand.tmp 6), type := 78, pos := "msg.go:61", after := #[], guard := none }) (v := ?_) rfl (by kernel_rfl) (by kernel_rfl) (by kernel_rfl) (fun _ _ _ h => wq_put ⟨by simp, by simp⟩ h) (Or.inl ⟨by rfl, ?_⟩) (by assumption) ?_
      rotate_left 1
      · intro w hSw; (try dsimp only at hSw); go_simp; try (with_reducible rfl)
      try simp only [Act.put, List.setIfInBounds_toArray, List.set_cons_zero, List.set_cons_succ]
      refine wpAnyH_ready (rs := [0, 2]) (by kernel_rfl) (by simp) ?_
      refine AllReadyH.cons (o := { dst := some 32, op := Op.load 28 (Operand.tmp 2), type := 28, pos := "msg.go:61", after := #[], guard := none }) rfl (fun K hK => ?_) (AllReadyH.cons (o := { dst := some 34, op := Op.call { callee := Callee.invoke (Operand.tmp 33) "ostiary/msg.count", args := #[], argTypes := #[] }, type := 3, pos := "msg.go:61", after := #[{ on := 1, ground := Ground.data }], guard := none }) rfl (fun K hK => ?_) (AllReadyH.nil))
      go_simp
      refine hK.out _ _ trivial (fun hHeld => ?_)
      clear hK K
      try simp only [Act.put, List.setIfInBounds_toArray, List.set_cons_zero, List.set_cons_succ]
      refine wpAnyH_ready (rs := [2]) (by kernel_rfl) (by simp) ?_
      refine AllReadyH.cons (o := { dst := some 34, op := Op.call { callee := Callee.invoke (Operand.tmp 33) "ostiary/msg.count", args := #[], argTypes := #[] }, type := 3, pos := "msg.go:61", after := #[{ on := 1, ground := Ground.data }], guard := none }) rfl (fun K hK => ?_) (AllReadyH.nil)
      go_simp
      refine (HCN.out _ (by rw [HM.out]; exact HW.out.bel) HW.out.x).mono ?_; rintro e0 wb ⟨rfl, hb⟩
      replace HW := Lib.hid (HW.out.later hb)
      clear hb d1
      have d1 := HW.out.c2.c 0 (by simp)
      focus (try go_wp2_with fail)
      refine hK.out _ _ trivial (fun hHeld => ?_)
      clear hK K
      try simp only [Act.put, List.setIfInBounds_toArray, List.set_cons_zero, List.set_cons_succ]
      refine wpAnyH_ready (rs := [3]) (by kernel_rfl) (by simp) ?_
      refine AllReadyH.cons (o := { dst := some 35, op := Op.call { callee := Callee.value (Operand.func 51), args := #[Operand.tmp 34], argTypes := #[3] }, type := 28, pos := "msg.go:61", after := #[{ on := 2, ground := Ground.data }, { on := 2, ground := Ground.chain }], guard := none }) rfl (fun K hK => ?_) (AllReadyH.nil)
      go_simp
      refine (HTN.out _).mono ?_; rintro e0 wc ⟨a1, k1, rfl, ho, hb⟩
      have HO1 := Lib.hid ho
      replace HW := Lib.hid (HW.out.later hb)
      clear hb ho d1
      have d1 := HW.out.c2.c 0 (by simp)
      focus (try go_wp2_with fail)
      refine hK.out _ _ trivial (fun hHeld => ?_)
      clear hK K
      try simp only [Act.put, List.setIfInBounds_toArray, List.set_cons_zero, List.set_cons_succ]
      rotate_left 1
      go_simp
      refine (HCN.out _ (by rw [HM.out]; exact HW.out.bel) HW.out.x).mono ?_; rintro e0 wb ⟨rfl, hb⟩
      replace HW := Lib.hid (HW.out.later hb)
      clear hb d1
      have d1 := HW.out.c2.c 0 (by simp)
      focus (try go_wp2_with fail)
      refine hK.out _ _ trivial (fun hHeld => ?_)
      clear hK K
      try simp only [Act.put, List.setIfInBounds_toArray, List.set_cons_zero, List.set_cons_succ]
      refine wpAnyH_ready (rs := [0, 3]) (by kernel_rfl) (by simp) ?_
      refine AllReadyH.cons (o := { dst := some 32, op := Op.load 28 (Operand.tmp 2), type := 28, pos := "msg.go:61", after := #[], guard := none }) rfl (fun K hK => ?_) (AllReadyH.cons (o := { dst := some 35, op := Op.call { callee := Callee.value (Operand.func 51), args := #[Operand.tmp 34], argTypes := #[3] }, type := 28, pos := "msg.go:61", after := #[{ on := 2, ground := Ground.data }, { on := 2, ground := Ground.chain }], guard := none }) rfl (fun K hK => ?_) (AllReadyH.nil))
      go_simp
      refine hK.out _ _ trivial (fun hHeld => ?_)
      clear hK K
      try simp only [Act.put, List.setIfInBounds_toArray, List.set_cons_zero, List.set_cons_succ]
      refine wpAnyH_ready (rs := [3]) (by kernel_rfl) (by simp) ?_
      refine AllReadyH.cons (o := { dst := some 35, op := Op.call { callee := Callee.value (Operand.func 51), args := #[Operand.tmp 34], argTypes := #[3] }, type := 28, pos := "msg.go:61", after := #[{ on := 2, ground := Ground.data }, { on := 2, ground := Ground.chain }], guard := none }) rfl (fun K hK => ?_) (AllReadyH.nil)
      go_simp
      refine (HTN.out _).mono ?_; rintro e0 wc ⟨a1, k1, rfl, ho, hb⟩
      have HO1 := Lib.hid ho
      replace HW := Lib.hid (HW.out.later hb)
      clear hb ho d1
      have d1 := HW.out.c2.c 0 (by simp)
      focus (try go_wp2_with fail)
      refine hK.out _ _ trivial (fun hHeld => ?_)
      clear hK K
      try simp only [Act.put, List.setIfInBounds_toArray, List.set_cons_zero, List.set_cons_succ]
      rotate_left 1
      go_simp
      refine (HTN.out _).mono ?_; rintro e0 wc ⟨a1, k1, rfl, ho, hb⟩
      have HO1 := Lib.hid ho
      replace HW := Lib.hid (HW.out.later hb)
      clear hb ho d1
      have d1 := HW.out.c2.c 0 (by simp)
      focus (try go_wp2_with fail)
      refine hK.out _ _ trivial (fun hHeld => ?_)
      clear hK K
      try simp only [Act.put, List.setIfInBounds_toArray, List.set_cons_zero, List.set_cons_succ]
      refine wpAnyH_ready (rs := [0]) (by kernel_rfl) (by simp) ?_
      refine AllReadyH.cons (o := { dst := some 32, op := Op.load 28 (Operand.tmp 2), type := 28, pos := "msg.go:61", after := #[], guard := none }) rfl (fun K hK => ?_) (AllReadyH.nil)
      go_simp
      refine hK.out _ _ trivial (fun hHeld => ?_)
      clear hK K
      try simp only [Act.put, List.setIfInBounds_toArray, List.set_cons_zero, List.set_cons_succ]
      rotate_left 1
      iterate 3
        · refine wpAnyH_ready (rs := [4]) (by kernel_rfl) (by simp) ?_
          refine AllReadyH.cons (o := { dst := some 36, op := Op.call { callee := Callee.builtin Builtin.append, args := #[Operand.tmp 32, Operand.tmp 35], argTypes := #[28, 28] }, type := 28, pos := "msg.go:61", after := #[{ on := 0, ground := Ground.data }, { on := 3, ground := Ground.data }, { on := 3, ground := Ground.chain }], guard := none }) rfl (fun K hK => ?_) (AllReadyH.nil)
          obtain ⟨a2, k2, wd, hrun, e1, e2, hw2, _⟩ := HW.out.app HO1.out.sl (by have := hdr_len i0 i1 (m.q.length : Int) m.an.length m.ns.length m.ar.length 2; rw [two_len]; omega)
          rw [show (hdr i0 i1 [(m.q.length : Int), m.an.length, m.ns.length, m.ar.length] 2).length + (two (m.ns.length : Int)).length = 10 by simp [hdr, two]] at hrun hw2
          have HRUN := Lib.hid hrun
          have HW2 := Lib.hid (show W0 w (wd.setCell ⟨M + 1, 0, none⟩ (.slice a2 10 k2)) M N (N + 1) [.int .i64 i0, .int .i64 i1, q, a, n, r] [.iface 117 (.agg #[.pointer (some ⟨M, 2, none⟩)]), .iface 120 (.agg #[.pointer (some ⟨M, 3, none⟩)]), .iface 120 (.agg #[.pointer (some ⟨M, 4, none⟩)]), .iface 120 (.agg #[.pointer (some ⟨M, 5, none⟩)])] (.slice a2 10 k2) (hdr i0 i1 [(m.q.length : Int), m.an.length, m.ns.length, m.ar.length] 3) by
            rwa [show hdr i0 i1 [(m.q.length : Int), m.an.length, m.ns.length, m.ar.length] 3 = hdr i0 i1 [(m.q.length : Int), m.an.length, m.ns.length, m.ar.length] 2 ++ two (m.ns.length : Int) by simp [hdr]])
          clear hrun hw2 HW HO1 d1
          refine oper_app_run (.tmp 32) (.tmp 35) 28 28 rfl rfl rfl rfl HRUN.out ?_
          refine hK.out _ _ trivial (fun hHeld => ?_)
          clear hK K
          try simp only [Act.put, List.setIfInBounds_toArray, List.set_cons_zero, List.set_cons_succ]
          refine wpAnyH_ready (rs := [5]) (by kernel_rfl) (by simp) ?_
          refine AllReadyH.cons (o := { dst := none, op := Op.store 28 (Operand.tmp 2) (Operand.tmp 36), type := 0, pos := "msg.go:61", after := #[{ on := 4, ground := Ground.data }, { on := 4, ground := Ground.chain }, { on := 0, ground := Ground.phase }, { on := 1, ground := Ground.phase }, { on := 2, ground := Ground.phase }, { on := 3, ground := Ground.phase }, { on := 4, ground := Ground.phase }], guard := none }) rfl (fun K hK => ?_) (AllReadyH.nil)
          go_simp
          refine hK.out _ _ trivial (fun hHeld => ?_)
          clear hK K
          try simp only [Act.put, List.setIfInBounds_toArray, List.set_cons_zero, List.set_cons_succ]
          refine wpAnyH_done (by kernel_rfl) ?_ _
          clear hHeld
          go_wp2_with fail
          go_roundg (4 - 3)
          case measure => omega
          case rel => exact ⟨3, by omega, by go_num, _, HW2⟩
    · go_wp2_with fail
      replace HW := Lib.hid (HW.out.later (Below.refl wr.heap.size wr).drew)
      have d1 := HW.out.c2.c 0 (by simp)
      refine wp_region_held_drew (S := (fun _ => True)) (by kernel_rfl) trivial (fun hHeld => ?_)
      refine wpAnyH_take (i := 1) (oi := { dst := some 33, op := Op.move (Operand.tmp 6), type := 78, pos := "msg.go:61", after := #[], guard := none }) (v := ?_) rfl (by kernel_rfl) (by kernel_rfl) (by kernel_rfl) (fun _ _ _ h => wq_put ⟨by simp, by simp⟩ h) (Or.inl ⟨by rfl, ?_⟩) (by assumption) ?_
      rotate_left 1
      · intro w hSw; (try dsimp only at hSw); go_simp; try (with_reducible rfl)
      try simp only [Act.put, List.setIfInBounds_toArray, List.set_cons_zero, List.set_cons_succ]
      refine wpAnyH_ready (rs := [0, 2]) (by kernel_rfl) (by simp) ?_
      refine AllReadyH.cons (o := { dst := some 32, op := Op.load 28 (Operand.tmp 2), type := 28, pos := "msg.go:61", after := #[], guard := none }) rfl (fun K hK => ?_) (AllReadyH.cons (o := { dst := some 34, op := Op.call { callee := Callee.invoke (Operand.tmp 33) "ostiary/msg.count", args := #[], argTypes := #[] }, type := 3, pos := "msg.go:61", after := #[{ on := 1, ground := Ground.data }], guard := none }) rfl (fun K hK => ?_) (AllReadyH.nil))
      go_simp
      refine hK.out _ _ trivial (fun hHeld => ?_)
      clear hK K
      try simp only [Act.put, List.setIfInBounds_toArray, List.set_cons_zero, List.set_cons_succ]
      refine wpAnyH_ready (rs := [2]) (by kernel_rfl) (by simp) ?_
      refine AllReadyH.cons (o := { dst := some 34, op := Op.call { callee := Callee.invoke (Operand.tmp 33) "ostiary/msg.count", args := #[], argTypes := #[] }, type := 3, pos := "msg.go:61", after := #[{ on := 1, ground := Ground.data }], guard := none }) rfl (fun K hK => ?_) (AllReadyH.nil)
      go_simp
      refine (HCR.out _ (by rw [HM.out]; exact HW.out.bel) HW.out.x).mono ?_; rintro e0 wb ⟨rfl, hb⟩
      replace HW := Lib.hid (HW.out.later hb)
      clear hb d1
      have d1 := HW.out.c2.c 0 (by simp)
      focus (try go_wp2_with fail)
      refine hK.out _ _ trivial (fun hHeld => ?_)
      clear hK K
      try simp only [Act.put, List.setIfInBounds_toArray, List.set_cons_zero, List.set_cons_succ]
      refine wpAnyH_ready (rs := [3]) (by kernel_rfl) (by simp) ?_
      refine AllReadyH.cons (o := { dst := some 35, op := Op.call { callee := Callee.value (Operand.func 51), args := #[Operand.tmp 34], argTypes := #[3] }, type := 28, pos := "msg.go:61", after := #[{ on := 2, ground := Ground.data }, { on := 2, ground := Ground.chain }], guard := none }) rfl (fun K hK => ?_) (AllReadyH.nil)
      go_simp
      refine (HTR.out _).mono ?_; rintro e0 wc ⟨a1, k1, rfl, ho, hb⟩
      have HO1 := Lib.hid ho
      replace HW := Lib.hid (HW.out.later hb)
      clear hb ho d1
      have d1 := HW.out.c2.c 0 (by simp)
      focus (try go_wp2_with fail)
      refine hK.out _ _ trivial (fun hHeld => ?_)
      clear hK K
      try simp only [Act.put, List.setIfInBounds_toArray, List.set_cons_zero, List.set_cons_succ]
      rotate_left 1
      go_simp
      refine (HCR.out _ (by rw [HM.out]; exact HW.out.bel) HW.out.x).mono ?_; rintro e0 wb ⟨rfl, hb⟩
      replace HW := Lib.hid (HW.out.later hb)
      clear hb d1
      have d1 := HW.out.c2.c 0 (by simp)
      focus (try go_wp2_with fail)
      refine hK.out _ _ trivial (fun hHeld => ?_)
      clear hK K
      try simp only [Act.put, List.setIfInBounds_toArray, List.set_cons_zero, List.set_cons_succ]
      refine wpAnyH_ready (rs := [0, 3]) (by kernel_rfl) (by simp) ?_
      refine AllReadyH.cons (o := { dst := some 32, op := Op.load 28 (Operand.tmp 2), type := 28, pos := "msg.go:61", after := #[], guard := none }) rfl (fun K hK => ?_) (AllReadyH.cons (o := { dst := some 35, op := Op.call { callee := Callee.value (Operand.func 51), args := #[Operand.tmp 34], argTypes := #[3] }, type := 28, pos := "msg.go:61", after := #[{ on := 2, ground := Ground.data }, { on := 2, ground := Ground.chain }], guard := none }) rfl (fun K hK => ?_) (AllReadyH.nil))
      go_simp
      refine hK.out _ _ trivial (fun hHeld => ?_)
      clear hK K
      try simp only [Act.put, List.setIfInBounds_toArray, List.set_cons_zero, List.set_cons_succ]
      refine wpAnyH_ready (rs := [3]) (by kernel_rfl) (by simp) ?_
      refine AllReadyH.cons (o := { dst := some 35, op := Op.call { callee := Callee.value (Operand.func 51), args := #[Operand.tmp 34], argTypes := #[3] }, type := 28, pos := "msg.go:61", after := #[{ on := 2, ground := Ground.data }, { on := 2, ground := Ground.chain }], guard := none }) rfl (fun K hK => ?_) (AllReadyH.nil)
      go_simp
      refine (HTR.out _).mono ?_; rintro e0 wc ⟨a1, k1, rfl, ho, hb⟩
      have HO1 := Lib.hid ho
      replace HW := Lib.hid (HW.out.later hb)
      clear hb ho d1
      have d1 := HW.out.c2.c 0 (by simp)
      focus (try go_wp2_with fail)
      refine hK.out _ _ trivial (fun hHeld => ?_)
      clear hK K
      try simp only [Act.put, List.setIfInBounds_toArray, List.set_cons_zero, List.set_cons_succ]
      rotate_left 1
      go_simp
      refine (HTR.out _).mono ?_; rintro e0 wc ⟨a1, k1, rfl, ho, hb⟩
      have HO1 := Lib.hid ho
      replace HW := Lib.hid (HW.out.later hb)
      clear hb ho d1
      have d1 := HW.out.c2.c 0 (by simp)
      focus (try go_wp2_with fail)
      refine hK.out _ _ trivial (fun hHeld => ?_)
      clear hK K
      try simp only [Act.put, List.setIfInBounds_toArray, List.set_cons_zero, List.set_cons_succ]
      refine wpAnyH_ready (rs := [0]) (by kernel_rfl) (by simp) ?_
      refine AllReadyH.cons (o := { dst := some 32, op := Op.load 28 (Operand.tmp 2), type := 28, pos := "msg.go:61", after := #[], guard := none }) rfl (fun K hK => ?_) (AllReadyH.nil)
      go_simp
      refine hK.out _ _ trivial (fun hHeld => ?_)
      clear hK K
      try simp only [Act.put, List.setIfInBounds_toArray, List.set_cons_zero, List.set_cons_succ]
      rotate_left 1
      iterate 3
        · refine wpAnyH_ready (rs := [4]) (by kernel_rfl) (by simp) ?_
          refine AllReadyH.cons (o := { dst := some 36, op := Op.call { callee := Callee.builtin Builtin.append, args := #[Operand.tmp 32, Operand.tmp 35], argTypes := #[28, 28] }, type := 28, pos := "msg.go:61", after := #[{ on := 0, ground := Ground.data }, { on := 3, ground := Ground.data }, { on := 3, ground := Ground.chain }], guard := none }) rfl (fun K hK => ?_) (AllReadyH.nil)
          obtain ⟨a2, k2, wd, hrun, e1, e2, hw2, _⟩ := HW.out.app HO1.out.sl (by have := hdr_len i0 i1 (m.q.length : Int) m.an.length m.ns.length m.ar.length 3; rw [two_len]; omega)
          rw [show (hdr i0 i1 [(m.q.length : Int), m.an.length, m.ns.length, m.ar.length] 3).length + (two (m.ar.length : Int)).length = 12 by simp [hdr, two]] at hrun hw2
          have HRUN := Lib.hid hrun
          have HW2 := Lib.hid (show W0 w (wd.setCell ⟨M + 1, 0, none⟩ (.slice a2 12 k2)) M N (N + 1) [.int .i64 i0, .int .i64 i1, q, a, n, r] [.iface 117 (.agg #[.pointer (some ⟨M, 2, none⟩)]), .iface 120 (.agg #[.pointer (some ⟨M, 3, none⟩)]), .iface 120 (.agg #[.pointer (some ⟨M, 4, none⟩)]), .iface 120 (.agg #[.pointer (some ⟨M, 5, none⟩)])] (.slice a2 12 k2) (hdr i0 i1 [(m.q.length : Int), m.an.length, m.ns.length, m.ar.length] 4) by
            rwa [show hdr i0 i1 [(m.q.length : Int), m.an.length, m.ns.length, m.ar.length] 4 = hdr i0 i1 [(m.q.length : Int), m.an.length, m.ns.length, m.ar.length] 3 ++ two (m.ar.length : Int) by simp [hdr]])
          clear hrun hw2 HW HO1 d1
          refine oper_app_run (.tmp 32) (.tmp 35) 28 28 rfl rfl rfl rfl HRUN.out ?_
          refine hK.out _ _ trivial (fun hHeld => ?_)
          clear hK K
          try simp only [Act.put, List.setIfInBounds_toArray, List.set_cons_zero, List.set_cons_succ]
          refine wpAnyH_ready (rs := [5]) (by kernel_rfl) (by simp) ?_
          refine AllReadyH.cons (o := { dst := none, op := Op.store 28 (Operand.tmp 2) (Operand.tmp 36), type := 0, pos := "msg.go:61", after := #[{ on := 4, ground := Ground.data }, { on := 4, ground := Ground.chain }, { on := 0, ground := Ground.phase }, { on := 1, ground := Ground.phase }, { on := 2, ground := Ground.phase }, { on := 3, ground := Ground.phase }, { on := 4, ground := Ground.phase }], guard := none }) rfl (fun K hK => ?_) (AllReadyH.nil)
          go_simp
          refine hK.out _ _ trivial (fun hHeld => ?_)
          clear hK K
          try simp only [Act.put, List.setIfInBounds_toArray, List.set_cons_zero, List.set_cons_succ]
          refine wpAnyH_done (by kernel_rfl) ?_ _
          clear hHeld
          go_wp2_with fail
          go_roundg (4 - 4)
          case measure => omega
          case rel => exact ⟨4, by omega, by go_num, _, HW2⟩
    · go_wp2_with fail
      refine (new_any _).mono ?_; rintro e we ⟨p, bm, rfl, hp1, hp2, hpk, hb⟩
      have hpp : N + 1 ≤ p ∧ N + 1 ≤ bm := by have := HW.out.size; omega
      replace HW := Lib.hid (HW.out.later hb)
      have HP := Lib.hid hpk
      have HPP := Lib.hid hpp
      have y0 := HW.out.y.c 0 (by simp)
      have y1 := HW.out.y.c 1 (by simp)
      have y2 := HW.out.y.c 2 (by simp)
      have y3 := HW.out.y.c 3 (by simp)
      simp only [List.getElem_cons_zero, List.getElem_cons_succ] at y0 y1 y2 y3
      clear hpk hb hp1 hp2 hpp hk
      go_wp2_with fail
      clear y0 y1 y2 y3
      refine wp_loop_rounds 5 ?_
      rw [rounds_succ]
      go_wp2_with fail
      refine (HCQ.out _ (by rw [HM.out]; exact HW.out.bel) HW.out.x).mono ?_; rintro e0 wf ⟨rfl, hb⟩
      replace HW := Lib.hid (HW.out.later hb)
      replace HP := Lib.hid (HP.out.later hb)
      clear hb
      go_wp2_with fail
      go_loopg [45] m.q.length (fun g v45 wr => ∃ j : Nat, j + g = m.q.length ∧ v45 = .int .i64 j ∧ ∃ (bv : Value) (b : List UInt8) (K : KK) (e : Nat), Hid (W0 w wr M N (N + 1) [.int .i64 i0, .int .i64 i1, q, a, n, r] [.iface 117 (.agg #[.pointer (some ⟨M, 2, none⟩)]), .iface 120 (.agg #[.pointer (some ⟨M, 3, none⟩)]), .iface 120 (.agg #[.pointer (some ⟨M, 4, none⟩)]), .iface 120 (.agg #[.pointer (some ⟨M, 5, none⟩)])] bv b) ∧ Hid (Pk wr p bm K e) ∧ Hid (GoodK K) ∧ K.length ≤ 600 * (0 + j) ∧ e ≤ 66000 ∧ b.length ≤ 65535 ∧ Hid (wrIs ((m.q.drop j).map It.q ++ (m.an.map It.r ++ (m.ns.map It.r ++ (m.ar.map It.r ++ [])))) b K e = RO))
      case atStart => exact ⟨0, by omega, rfl, _, (hdr i0 i1 [(m.q.length : Int), m.an.length, m.ns.length, m.ar.length] 4), [], 0, HW, HP, (fun p hp => by simp at hp), by simp, by omega, (by have := hdr_len i0 i1 (m.q.length : Int) m.an.length m.ns.length m.ar.length 4; omega), HRO⟩
      case round =>
        clear HRO HW HP 
        obtain ⟨j, hj, rfl, bv, b, K, e, HW, HP, HG, hK, he, hbl, HRO⟩ := hrel
        by_cases hlt : j < m.q.length
        · obtain ⟨z, hz⟩ : ∃ z, b.length = z := ⟨_, rfl⟩
          obtain ⟨ab, cb, rfl⟩ := HW.out.row.shape
          have HWR1 := Lib.hid (HWQ.out wr (by rw [HM.out]; exact HW.out.bel) HW.out.x p bm e K HP.out HG.out (by omega) (by omega) (b.length : Int) j hlt)
          have hst := HRO.out
          rw [wrIs_step _ _ _ _ hlt] at hst
          obtain ⟨hG2, hK2, he2, ho2⟩ := wrI_next (e := e) b (It.q m.q[j]) HG.out he
          have eR : wrI b K e (It.q m.q[j]) = askW b.length m.q[j].n m.q[j].t m.q[j].c K e := rfl
          rw [← eR] at HWR1
          obtain ⟨R, hR⟩ : ∃ R, wrI b K e (It.q m.q[j]) = R := ⟨_, rfl⟩
          rw [hR] at HWR1 hst hG2 hK2 he2 ho2
          obtain ⟨O, C, K', e'⟩ := R
          simp only at HWR1 hst hG2 hK2 he2 ho2
          unfold WrPost at HWR1
          simp only at HWR1
          rw [hz] at HWR1 hbl
          have d1 := HW.out.c2.c 0 (by simp)
          have HZ := Lib.hid hz
          have HST := Lib.hid hst
          have HG2 := Lib.hid hG2
          simp only [List.getElem_cons_zero, hz] at d1
          clear eR hR hst hG2 HRO
          rw [hz] at HW
          clear hz
          go_wp2_with fail
          refine HWR1.out.mono ?_; rintro e0 wg ⟨v1, rfl, hov, hpk, has⟩
          replace HW := Lib.hid (HW.out.name HP.out HPP.out.1 HPP.out.2 has)
          replace HP := Lib.hid hpk
          have HO := Lib.hid hov
          obtain ⟨a1, k1, rfl⟩ := hov.shape
          clear hpk has hov d1 HWR1
          obtain ⟨a2, k2, wh, hrun, e1, e2, hw2, hp2⟩ := HW.out.app HO.out.sl (by rw [HZ.out]; omega)
          obtain ⟨y, hy⟩ : ∃ y, b.length + O.length = y := ⟨_, rfl⟩
          rw [hy] at hrun hw2 hp2
          obtain ⟨X, hX⟩ : ∃ X, wh.setCell ⟨M + 1, 0, none⟩ (.slice a2 y k2) = X := ⟨_, rfl⟩
          rw [hX] at hw2 hp2
          have HRUN := Lib.hid hrun
          have hyl : (b ++ O).length = y := by rw [List.length_append, hy]
          have d1 := HW.out.c2.c 0 (by simp)
          simp only [List.getElem_cons_zero] at d1
          replace HP := Lib.hid (hp2 _ _ _ _ HP.out HPP.out.1 HPP.out.2)
          replace HW := Lib.hid hw2
          have d1' := hw2.c2.c 0 (by simp)
          simp only [List.getElem_cons_zero] at d1'
          have d2' := hw2.c3.c 0 (by simp)
          simp only [List.getElem_cons_zero] at d2'
          have f1' := hw2.c2.fz
          have f2' := hw2.c3.fz
          have HYL := Lib.hid hyl
          clear hrun hw2 hp2 hyl hy
          by_cases hbad : C ≠ 0 ∨ 65535 < (b ++ O).length
          · have hst := HST.out
            rw [if_pos hbad] at hst
            have HRN := Lib.hid hst
            clear HST hst
            rw [HYL.out] at hbad
            by_cases hC : C = 0
            · subst hC
              have tY : decide ((65535 : Int) < y) = true := by simp; omega
              clear hbad
              go_wp2_with (at_builtin; refine wpList_append_run (.tmp 57) (.tmp 58) 28 28 rfl rfl rfl rfl HRUN.out ?_)
              have g2 := HW.out.c2.set (o := 0) (by simp) (.slice a2 y k2)
              have g3 := HW.out.c3.other (a := ⟨M + 1, 0, none⟩) (by simp) (.slice a2 y k2)
              have j2 := g2.other (a := ⟨M + 2, 0, none⟩) (by simp) (.int .i64 3)
              have j3 := g3.set (o := 0) (by simp) (.int .i64 3)
              simp only [List.set_cons_zero] at j2 j3
              have hbl2 := (HW.out.bel.setCell (p := ⟨M + 1, 0, none⟩) (by simp) (.slice a2 y k2)).setCell (p := ⟨M + 2, 0, none⟩) (by simp) (.int .i64 3)
              obtain ⟨Y, hY⟩ : ∃ Y, (X.setCell ⟨M + 1, 0, none⟩ (.slice a2 y k2)).setCell ⟨M + 2, 0, none⟩ (.int .i64 3) = Y := ⟨_, rfl⟩
              rw [hY] at j2 j3 hbl2 ⊢
              rw [← HRN.out]
              refine leaves_cons (f := 50) (args := #[.pointer (some ⟨M + 2, 0, none⟩), .pointer (some ⟨M + 1, 0, none⟩)]) (by simp) (by simp [go_sem]) ?_
              refine (wend_bad (M + 2) (M + 1) 3 _ (by decide) _ (j3.c 0 (by simp)) (j2.c 0 (by simp)) j2.fz).mono ?_
              rintro e0 u' w9 ⟨rfl, rfl, rfl⟩
              have m2 := (j2.set (o := 0) (by simp) (.slice none 0 0)).c 0 (by simp)
              have m3 := (j3.other (a := ⟨M + 1, 0, none⟩) (by simp) (.slice none 0 0)).c 0 (by simp)
              simp only [List.set_cons_zero, List.getElem_cons_zero] at m2 m3
              simp [Leaves, settle, results, Tryz.results24, go_sem, m2, m3]
              refine ⟨_, rfl, OwnB.nil _ _, ?_⟩
              rw [HM.out]
              exact hbl2.setCell (by simp) _
            · have tC : (C != 0) = true := by simpa using hC
              clear hbad
              go_wp2_with (at_builtin; refine wpList_append_run (.tmp 57) (.tmp 58) 28 28 rfl rfl rfl rfl HRUN.out ?_)
              have g2 := HW.out.c2.set (o := 0) (by simp) (.slice a2 y k2)
              have g3 := HW.out.c3.other (a := ⟨M + 1, 0, none⟩) (by simp) (.slice a2 y k2)
              have j2 := g2.other (a := ⟨M + 2, 0, none⟩) (by simp) (.int .i64 3)
              have j3 := g3.set (o := 0) (by simp) (.int .i64 3)
              simp only [List.set_cons_zero] at j2 j3
              have hbl2 := (HW.out.bel.setCell (p := ⟨M + 1, 0, none⟩) (by simp) (.slice a2 y k2)).setCell (p := ⟨M + 2, 0, none⟩) (by simp) (.int .i64 3)
              obtain ⟨Y, hY⟩ : ∃ Y, (X.setCell ⟨M + 1, 0, none⟩ (.slice a2 y k2)).setCell ⟨M + 2, 0, none⟩ (.int .i64 3) = Y := ⟨_, rfl⟩
              rw [hY] at j2 j3 hbl2 ⊢
              rw [← HRN.out]
              refine leaves_cons (f := 50) (args := #[.pointer (some ⟨M + 2, 0, none⟩), .pointer (some ⟨M + 1, 0, none⟩)]) (by simp) (by simp [go_sem]) ?_
              refine (wend_bad (M + 2) (M + 1) 3 _ (by decide) _ (j3.c 0 (by simp)) (j2.c 0 (by simp)) j2.fz).mono ?_
              rintro e0 u' w9 ⟨rfl, rfl, rfl⟩
              have m2 := (j2.set (o := 0) (by simp) (.slice none 0 0)).c 0 (by simp)
              have m3 := (j3.other (a := ⟨M + 1, 0, none⟩) (by simp) (.slice none 0 0)).c 0 (by simp)
              simp only [List.set_cons_zero, List.getElem_cons_zero] at m2 m3
              simp [Leaves, settle, results, Tryz.results24, go_sem, m2, m3]
              refine ⟨_, rfl, OwnB.nil _ _, ?_⟩
              rw [HM.out]
              exact hbl2.setCell (by simp) _
          · have hst := HST.out
            rw [if_neg hbad] at hst
            have HRO := Lib.hid hst
            clear HST hst
            rw [HYL.out] at hbad
            have hC : C = 0 := Classical.byContradiction fun h => hbad (.inl h)
            subst hC
            have hy2 : y ≤ 65535 := by omega
            have tY : decide ((65535 : Int) < y) = false := by simp; omega
            clear hbad
            go_wp2_with (at_builtin; refine wpList_append_run (.tmp 57) (.tmp 58) 28 28 rfl rfl rfl rfl HRUN.out ?_)
            go_roundg (m.q.length - (j + 1))
            case measure => omega
            case rel => exact ⟨j + 1, by omega, by go_num, _, b ++ O, K', e', HW, HP, HG2, by omega, he2, (by rw [HYL.out]; exact hy2), HRO⟩
        have t1 : ¬ ((j : Int) < m.q.length) := by omega
        have hst := HRO.out
        rw [wrIs_end _ _ _ _ (by omega)] at hst
        clear HRO
        have HRO := Lib.hid hst
        clear hst
        go_wp2_with fail
        rw [rounds_succ]
        go_wp2_with fail
        refine (HCA.out _ (by rw [HM.out]; exact HW.out.bel) HW.out.x).mono ?_; rintro e0 wf ⟨rfl, hb⟩
        replace HW := Lib.hid (HW.out.later hb)
        replace HP := Lib.hid (HP.out.later hb)
        clear hb
        go_wp2_with fail
        go_loopg [45] m.an.length (fun g v45 wr => ∃ j : Nat, j + g = m.an.length ∧ v45 = .int .i64 j ∧ ∃ (bv : Value) (b : List UInt8) (K : KK) (e : Nat), Hid (W0 w wr M N (N + 1) [.int .i64 i0, .int .i64 i1, q, a, n, r] [.iface 117 (.agg #[.pointer (some ⟨M, 2, none⟩)]), .iface 120 (.agg #[.pointer (some ⟨M, 3, none⟩)]), .iface 120 (.agg #[.pointer (some ⟨M, 4, none⟩)]), .iface 120 (.agg #[.pointer (some ⟨M, 5, none⟩)])] bv b) ∧ Hid (Pk wr p bm K e) ∧ Hid (GoodK K) ∧ K.length ≤ 600 * (m.q.length + j) ∧ e ≤ 66000 ∧ b.length ≤ 65535 ∧ Hid (wrIs ((m.an.drop j).map It.r ++ (m.ns.map It.r ++ (m.ar.map It.r ++ []))) b K e = RO))
        case atStart => exact ⟨0, by omega, rfl, _, b, K, e, HW, HP, HG, by omega, he, hbl, HRO⟩
        case round =>
          clear HRO HW HP HG hK he hbl
          obtain ⟨j, hj, rfl, bv, b, K, e, HW, HP, HG, hK, he, hbl, HRO⟩ := hrel
          by_cases hlt : j < m.an.length
          · obtain ⟨z, hz⟩ : ∃ z, b.length = z := ⟨_, rfl⟩
            obtain ⟨ab, cb, rfl⟩ := HW.out.row.shape
            have HWR1 := Lib.hid (HWA.out wr (by rw [HM.out]; exact HW.out.bel) HW.out.x p bm e K HP.out HG.out (by omega) (by omega) (b.length : Int) j hlt)
            have hst := HRO.out
            rw [wrIs_step _ _ _ _ hlt] at hst
            obtain ⟨hG2, hK2, he2, ho2⟩ := wrI_next (e := e) b (It.r m.an[j]) HG.out he
            have eR : wrI b K e (It.r m.an[j]) = wrC b.length m.an[j] K e := rfl
            rw [← eR] at HWR1
            obtain ⟨R, hR⟩ : ∃ R, wrI b K e (It.r m.an[j]) = R := ⟨_, rfl⟩
            rw [hR] at HWR1 hst hG2 hK2 he2 ho2
            obtain ⟨O, C, K', e'⟩ := R
            simp only at HWR1 hst hG2 hK2 he2 ho2
            unfold WrPost at HWR1
            simp only at HWR1
            rw [hz] at HWR1 hbl
            have d1 := HW.out.c2.c 0 (by simp)
            have HZ := Lib.hid hz
            have HST := Lib.hid hst
            have HG2 := Lib.hid hG2
            simp only [List.getElem_cons_zero, hz] at d1
            clear eR hR hst hG2 HRO
            rw [hz] at HW
            clear hz
            go_wp2_with fail
            refine HWR1.out.mono ?_; rintro e0 wg ⟨v1, rfl, hov, hpk, has⟩
            replace HW := Lib.hid (HW.out.name HP.out HPP.out.1 HPP.out.2 has)
            replace HP := Lib.hid hpk
            have HO := Lib.hid hov
            obtain ⟨a1, k1, rfl⟩ := hov.shape
            clear hpk has hov d1 HWR1
            obtain ⟨a2, k2, wh, hrun, e1, e2, hw2, hp2⟩ := HW.out.app HO.out.sl (by rw [HZ.out]; omega)
            obtain ⟨y, hy⟩ : ∃ y, b.length + O.length = y := ⟨_, rfl⟩
            rw [hy] at hrun hw2 hp2
            obtain ⟨X, hX⟩ : ∃ X, wh.setCell ⟨M + 1, 0, none⟩ (.slice a2 y k2) = X := ⟨_, rfl⟩
            rw [hX] at hw2 hp2
            have HRUN := Lib.hid hrun
            have hyl : (b ++ O).length = y := by rw [List.length_append, hy]
            have d1 := HW.out.c2.c 0 (by simp)
            simp only [List.getElem_cons_zero] at d1
            replace HP := Lib.hid (hp2 _ _ _ _ HP.out HPP.out.1 HPP.out.2)
            replace HW := Lib.hid hw2
            have d1' := hw2.c2.c 0 (by simp)
            simp only [List.getElem_cons_zero] at d1'
            have d2' := hw2.c3.c 0 (by simp)
            simp only [List.getElem_cons_zero] at d2'
            have f1' := hw2.c2.fz
            have f2' := hw2.c3.fz
            have HYL := Lib.hid hyl
            clear hrun hw2 hp2 hyl hy
            by_cases hbad : C ≠ 0 ∨ 65535 < (b ++ O).length
            · have hst := HST.out
              rw [if_pos hbad] at hst
              have HRN := Lib.hid hst
              clear HST hst
              rw [HYL.out] at hbad
              by_cases hC : C = 0
              · subst hC
                have tY : decide ((65535 : Int) < y) = true := by simp; omega
                clear hbad
                go_wp2_with (at_builtin; refine wpList_append_run (.tmp 57) (.tmp 58) 28 28 rfl rfl rfl rfl HRUN.out ?_)
                have g2 := HW.out.c2.set (o := 0) (by simp) (.slice a2 y k2)
                have g3 := HW.out.c3.other (a := ⟨M + 1, 0, none⟩) (by simp) (.slice a2 y k2)
                have j2 := g2.other (a := ⟨M + 2, 0, none⟩) (by simp) (.int .i64 3)
                have j3 := g3.set (o := 0) (by simp) (.int .i64 3)
                simp only [List.set_cons_zero] at j2 j3
                have hbl2 := (HW.out.bel.setCell (p := ⟨M + 1, 0, none⟩) (by simp) (.slice a2 y k2)).setCell (p := ⟨M + 2, 0, none⟩) (by simp) (.int .i64 3)
                obtain ⟨Y, hY⟩ : ∃ Y, (X.setCell ⟨M + 1, 0, none⟩ (.slice a2 y k2)).setCell ⟨M + 2, 0, none⟩ (.int .i64 3) = Y := ⟨_, rfl⟩
                rw [hY] at j2 j3 hbl2 ⊢
                rw [← HRN.out]
                refine leaves_cons (f := 50) (args := #[.pointer (some ⟨M + 2, 0, none⟩), .pointer (some ⟨M + 1, 0, none⟩)]) (by simp) (by simp [go_sem]) ?_
                refine (wend_bad (M + 2) (M + 1) 3 _ (by decide) _ (j3.c 0 (by simp)) (j2.c 0 (by simp)) j2.fz).mono ?_
                rintro e0 u' w9 ⟨rfl, rfl, rfl⟩
                have m2 := (j2.set (o := 0) (by simp) (.slice none 0 0)).c 0 (by simp)
                have m3 := (j3.other (a := ⟨M + 1, 0, none⟩) (by simp) (.slice none 0 0)).c 0 (by simp)
                simp only [List.set_cons_zero, List.getElem_cons_zero] at m2 m3
                simp [Leaves, settle, results, Tryz.results24, go_sem, m2, m3]
                refine ⟨_, rfl, OwnB.nil _ _, ?_⟩
                rw [HM.out]
                exact hbl2.setCell (by simp) _
              · have tC : (C != 0) = true := by simpa using hC
                clear hbad
                go_wp2_with (at_builtin; refine wpList_append_run (.tmp 57) (.tmp 58) 28 28 rfl rfl rfl rfl HRUN.out ?_)
                have g2 := HW.out.c2.set (o := 0) (by simp) (.slice a2 y k2)
                have g3 := HW.out.c3.other (a := ⟨M + 1, 0, none⟩) (by simp) (.slice a2 y k2)
                have j2 := g2.other (a := ⟨M + 2, 0, none⟩) (by simp) (.int .i64 3)
                have j3 := g3.set (o := 0) (by simp) (.int .i64 3)
                simp only [List.set_cons_zero] at j2 j3
                have hbl2 := (HW.out.bel.setCell (p := ⟨M + 1, 0, none⟩) (by simp) (.slice a2 y k2)).setCell (p := ⟨M + 2, 0, none⟩) (by simp) (.int .i64 3)
                obtain ⟨Y, hY⟩ : ∃ Y, (X.setCell ⟨M + 1, 0, none⟩ (.slice a2 y k2)).setCell ⟨M + 2, 0, none⟩ (.int .i64 3) = Y := ⟨_, rfl⟩
                rw [hY] at j2 j3 hbl2 ⊢
                rw [← HRN.out]
                refine leaves_cons (f := 50) (args := #[.pointer (some ⟨M + 2, 0, none⟩), .pointer (some ⟨M + 1, 0, none⟩)]) (by simp) (by simp [go_sem]) ?_
                refine (wend_bad (M + 2) (M + 1) 3 _ (by decide) _ (j3.c 0 (by simp)) (j2.c 0 (by simp)) j2.fz).mono ?_
                rintro e0 u' w9 ⟨rfl, rfl, rfl⟩
                have m2 := (j2.set (o := 0) (by simp) (.slice none 0 0)).c 0 (by simp)
                have m3 := (j3.other (a := ⟨M + 1, 0, none⟩) (by simp) (.slice none 0 0)).c 0 (by simp)
                simp only [List.set_cons_zero, List.getElem_cons_zero] at m2 m3
                simp [Leaves, settle, results, Tryz.results24, go_sem, m2, m3]
                refine ⟨_, rfl, OwnB.nil _ _, ?_⟩
                rw [HM.out]
                exact hbl2.setCell (by simp) _
            · have hst := HST.out
              rw [if_neg hbad] at hst
              have HRO := Lib.hid hst
              clear HST hst
              rw [HYL.out] at hbad
              have hC : C = 0 := Classical.byContradiction fun h => hbad (.inl h)
              subst hC
              have hy2 : y ≤ 65535 := by omega
              have tY : decide ((65535 : Int) < y) = false := by simp; omega
              clear hbad
              go_wp2_with (at_builtin; refine wpList_append_run (.tmp 57) (.tmp 58) 28 28 rfl rfl rfl rfl HRUN.out ?_)
              go_roundg (m.an.length - (j + 1))
              case measure => omega
              case rel => exact ⟨j + 1, by omega, by go_num, _, b ++ O, K', e', HW, HP, HG2, by omega, he2, (by rw [HYL.out]; exact hy2), HRO⟩
          have t1 : ¬ ((j : Int) < m.an.length) := by omega
          have hst := HRO.out
          rw [wrIs_end _ _ _ _ (by omega)] at hst
          clear HRO
          have HRO := Lib.hid hst
          clear hst
          go_wp2_with fail
          rw [rounds_succ]
          go_wp2_with fail
          refine (HCN.out _ (by rw [HM.out]; exact HW.out.bel) HW.out.x).mono ?_; rintro e0 wf ⟨rfl, hb⟩
          replace HW := Lib.hid (HW.out.later hb)
          replace HP := Lib.hid (HP.out.later hb)
          clear hb
          go_wp2_with fail
          go_loopg [45] m.ns.length (fun g v45 wr => ∃ j : Nat, j + g = m.ns.length ∧ v45 = .int .i64 j ∧ ∃ (bv : Value) (b : List UInt8) (K : KK) (e : Nat), Hid (W0 w wr M N (N + 1) [.int .i64 i0, .int .i64 i1, q, a, n, r] [.iface 117 (.agg #[.pointer (some ⟨M, 2, none⟩)]), .iface 120 (.agg #[.pointer (some ⟨M, 3, none⟩)]), .iface 120 (.agg #[.pointer (some ⟨M, 4, none⟩)]), .iface 120 (.agg #[.pointer (some ⟨M, 5, none⟩)])] bv b) ∧ Hid (Pk wr p bm K e) ∧ Hid (GoodK K) ∧ K.length ≤ 600 * (m.q.length + m.an.length + j) ∧ e ≤ 66000 ∧ b.length ≤ 65535 ∧ Hid (wrIs ((m.ns.drop j).map It.r ++ (m.ar.map It.r ++ [])) b K e = RO))
          case atStart => exact ⟨0, by omega, rfl, _, b, K, e, HW, HP, HG, by omega, he, hbl, HRO⟩
          case round =>
            clear HRO HW HP HG hK he hbl
            obtain ⟨j, hj, rfl, bv, b, K, e, HW, HP, HG, hK, he, hbl, HRO⟩ := hrel
            by_cases hlt : j < m.ns.length
            · obtain ⟨z, hz⟩ : ∃ z, b.length = z := ⟨_, rfl⟩
              obtain ⟨ab, cb, rfl⟩ := HW.out.row.shape
              have HWR1 := Lib.hid (HWN.out wr (by rw [HM.out]; exact HW.out.bel) HW.out.x p bm e K HP.out HG.out (by omega) (by omega) (b.length : Int) j hlt)
              have hst := HRO.out
              rw [wrIs_step _ _ _ _ hlt] at hst
              obtain ⟨hG2, hK2, he2, ho2⟩ := wrI_next (e := e) b (It.r m.ns[j]) HG.out he
              have eR : wrI b K e (It.r m.ns[j]) = wrC b.length m.ns[j] K e := rfl
              rw [← eR] at HWR1
              obtain ⟨R, hR⟩ : ∃ R, wrI b K e (It.r m.ns[j]) = R := ⟨_, rfl⟩
              rw [hR] at HWR1 hst hG2 hK2 he2 ho2
              obtain ⟨O, C, K', e'⟩ := R
              simp only at HWR1 hst hG2 hK2 he2 ho2
              unfold WrPost at HWR1
              simp only at HWR1
              rw [hz] at HWR1 hbl
              have d1 := HW.out.c2.c 0 (by simp)
              have HZ := Lib.hid hz
              have HST := Lib.hid hst
              have HG2 := Lib.hid hG2
              simp only [List.getElem_cons_zero, hz] at d1
              clear eR hR hst hG2 HRO
              rw [hz] at HW
              clear hz
              go_wp2_with fail
              refine HWR1.out.mono ?_; rintro e0 wg ⟨v1, rfl, hov, hpk, has⟩
              replace HW := Lib.hid (HW.out.name HP.out HPP.out.1 HPP.out.2 has)
              replace HP := Lib.hid hpk
              have HO := Lib.hid hov
              obtain ⟨a1, k1, rfl⟩ := hov.shape
              clear hpk has hov d1 HWR1
              obtain ⟨a2, k2, wh, hrun, e1, e2, hw2, hp2⟩ := HW.out.app HO.out.sl (by rw [HZ.out]; omega)
              obtain ⟨y, hy⟩ : ∃ y, b.length + O.length = y := ⟨_, rfl⟩
              rw [hy] at hrun hw2 hp2
              obtain ⟨X, hX⟩ : ∃ X, wh.setCell ⟨M + 1, 0, none⟩ (.slice a2 y k2) = X := ⟨_, rfl⟩
              rw [hX] at hw2 hp2
              have HRUN := Lib.hid hrun
              have hyl : (b ++ O).length = y := by rw [List.length_append, hy]
              have d1 := HW.out.c2.c 0 (by simp)
              simp only [List.getElem_cons_zero] at d1
              replace HP := Lib.hid (hp2 _ _ _ _ HP.out HPP.out.1 HPP.out.2)
              replace HW := Lib.hid hw2
              have d1' := hw2.c2.c 0 (by simp)
              simp only [List.getElem_cons_zero] at d1'
              have d2' := hw2.c3.c 0 (by simp)
              simp only [List.getElem_cons_zero] at d2'
              have f1' := hw2.c2.fz
              have f2' := hw2.c3.fz
              have HYL := Lib.hid hyl
              clear hrun hw2 hp2 hyl hy
              by_cases hbad : C ≠ 0 ∨ 65535 < (b ++ O).length
              · have hst := HST.out
                rw [if_pos hbad] at hst
                have HRN := Lib.hid hst
                clear HST hst
                rw [HYL.out] at hbad
                by_cases hC : C = 0
                · subst hC
                  have tY : decide ((65535 : Int) < y) = true := by simp; omega
                  clear hbad
                  go_wp2_with (at_builtin; refine wpList_append_run (.tmp 57) (.tmp 58) 28 28 rfl rfl rfl rfl HRUN.out ?_)
                  have g2 := HW.out.c2.set (o := 0) (by simp) (.slice a2 y k2)
                  have g3 := HW.out.c3.other (a := ⟨M + 1, 0, none⟩) (by simp) (.slice a2 y k2)
                  have j2 := g2.other (a := ⟨M + 2, 0, none⟩) (by simp) (.int .i64 3)
                  have j3 := g3.set (o := 0) (by simp) (.int .i64 3)
                  simp only [List.set_cons_zero] at j2 j3
                  have hbl2 := (HW.out.bel.setCell (p := ⟨M + 1, 0, none⟩) (by simp) (.slice a2 y k2)).setCell (p := ⟨M + 2, 0, none⟩) (by simp) (.int .i64 3)
                  obtain ⟨Y, hY⟩ : ∃ Y, (X.setCell ⟨M + 1, 0, none⟩ (.slice a2 y k2)).setCell ⟨M + 2, 0, none⟩ (.int .i64 3) = Y := ⟨_, rfl⟩
                  rw [hY] at j2 j3 hbl2 ⊢
                  rw [← HRN.out]
                  refine leaves_cons (f := 50) (args := #[.pointer (some ⟨M + 2, 0, none⟩), .pointer (some ⟨M + 1, 0, none⟩)]) (by simp) (by simp [go_sem]) ?_
                  refine (wend_bad (M + 2) (M + 1) 3 _ (by decide) _ (j3.c 0 (by simp)) (j2.c 0 (by simp)) j2.fz).mono ?_
                  rintro e0 u' w9 ⟨rfl, rfl, rfl⟩
                  have m2 := (j2.set (o := 0) (by simp) (.slice none 0 0)).c 0 (by simp)
                  have m3 := (j3.other (a := ⟨M + 1, 0, none⟩) (by simp) (.slice none 0 0)).c 0 (by simp)
                  simp only [List.set_cons_zero, List.getElem_cons_zero] at m2 m3
                  simp [Leaves, settle, results, Tryz.results24, go_sem, m2, m3]
                  refine ⟨_, rfl, OwnB.nil _ _, ?_⟩
                  rw [HM.out]
                  exact hbl2.setCell (by simp) _
                · have tC : (C != 0) = true := by simpa using hC
                  clear hbad
                  go_wp2_with (at_builtin; refine wpList_append_run (.tmp 57) (.tmp 58) 28 28 rfl rfl rfl rfl HRUN.out ?_)
                  have g2 := HW.out.c2.set (o := 0) (by simp) (.slice a2 y k2)
                  have g3 := HW.out.c3.other (a := ⟨M + 1, 0, none⟩) (by simp) (.slice a2 y k2)
                  have j2 := g2.other (a := ⟨M + 2, 0, none⟩) (by simp) (.int .i64 3)
                  have j3 := g3.set (o := 0) (by simp) (.int .i64 3)
                  simp only [List.set_cons_zero] at j2 j3
                  have hbl2 := (HW.out.bel.setCell (p := ⟨M + 1, 0, none⟩) (by simp) (.slice a2 y k2)).setCell (p := ⟨M + 2, 0, none⟩) (by simp) (.int .i64 3)
                  obtain ⟨Y, hY⟩ : ∃ Y, (X.setCell ⟨M + 1, 0, none⟩ (.slice a2 y k2)).setCell ⟨M + 2, 0, none⟩ (.int .i64 3) = Y := ⟨_, rfl⟩
                  rw [hY] at j2 j3 hbl2 ⊢
                  rw [← HRN.out]
                  refine leaves_cons (f := 50) (args := #[.pointer (some ⟨M + 2, 0, none⟩), .pointer (some ⟨M + 1, 0, none⟩)]) (by simp) (by simp [go_sem]) ?_
                  refine (wend_bad (M + 2) (M + 1) 3 _ (by decide) _ (j3.c 0 (by simp)) (j2.c 0 (by simp)) j2.fz).mono ?_
                  rintro e0 u' w9 ⟨rfl, rfl, rfl⟩
                  have m2 := (j2.set (o := 0) (by simp) (.slice none 0 0)).c 0 (by simp)
                  have m3 := (j3.other (a := ⟨M + 1, 0, none⟩) (by simp) (.slice none 0 0)).c 0 (by simp)
                  simp only [List.set_cons_zero, List.getElem_cons_zero] at m2 m3
                  simp [Leaves, settle, results, Tryz.results24, go_sem, m2, m3]
                  refine ⟨_, rfl, OwnB.nil _ _, ?_⟩
                  rw [HM.out]
                  exact hbl2.setCell (by simp) _
              · have hst := HST.out
                rw [if_neg hbad] at hst
                have HRO := Lib.hid hst
                clear HST hst
                rw [HYL.out] at hbad
                have hC : C = 0 := Classical.byContradiction fun h => hbad (.inl h)
                subst hC
                have hy2 : y ≤ 65535 := by omega
                have tY : decide ((65535 : Int) < y) = false := by simp; omega
                clear hbad
                go_wp2_with (at_builtin; refine wpList_append_run (.tmp 57) (.tmp 58) 28 28 rfl rfl rfl rfl HRUN.out ?_)
                go_roundg (m.ns.length - (j + 1))
                case measure => omega
                case rel => exact ⟨j + 1, by omega, by go_num, _, b ++ O, K', e', HW, HP, HG2, by omega, he2, (by rw [HYL.out]; exact hy2), HRO⟩
            have t1 : ¬ ((j : Int) < m.ns.length) := by omega
            have hst := HRO.out
            rw [wrIs_end _ _ _ _ (by omega)] at hst
            clear HRO
            have HRO := Lib.hid hst
            clear hst
            go_wp2_with fail
            rw [rounds_succ]
            go_wp2_with fail
            refine (HCR.out _ (by rw [HM.out]; exact HW.out.bel) HW.out.x).mono ?_; rintro e0 wf ⟨rfl, hb⟩
            replace HW := Lib.hid (HW.out.later hb)
            replace HP := Lib.hid (HP.out.later hb)
            clear hb
            go_wp2_with fail
            go_loopg [45] m.ar.length (fun g v45 wr => ∃ j : Nat, j + g = m.ar.length ∧ v45 = .int .i64 j ∧ ∃ (bv : Value) (b : List UInt8) (K : KK) (e : Nat), Hid (W0 w wr M N (N + 1) [.int .i64 i0, .int .i64 i1, q, a, n, r] [.iface 117 (.agg #[.pointer (some ⟨M, 2, none⟩)]), .iface 120 (.agg #[.pointer (some ⟨M, 3, none⟩)]), .iface 120 (.agg #[.pointer (some ⟨M, 4, none⟩)]), .iface 120 (.agg #[.pointer (some ⟨M, 5, none⟩)])] bv b) ∧ Hid (Pk wr p bm K e) ∧ Hid (GoodK K) ∧ K.length ≤ 600 * (m.q.length + m.an.length + m.ns.length + j) ∧ e ≤ 66000 ∧ b.length ≤ 65535 ∧ Hid (wrIs ((m.ar.drop j).map It.r ++ []) b K e = RO))
            case atStart => exact ⟨0, by omega, rfl, _, b, K, e, HW, HP, HG, by omega, he, hbl, HRO⟩
            case round =>
              clear HRO HW HP HG hK he hbl
              obtain ⟨j, hj, rfl, bv, b, K, e, HW, HP, HG, hK, he, hbl, HRO⟩ := hrel
              by_cases hlt : j < m.ar.length
              · obtain ⟨z, hz⟩ : ∃ z, b.length = z := ⟨_, rfl⟩
                obtain ⟨ab, cb, rfl⟩ := HW.out.row.shape
                have HWR1 := Lib.hid (HWR.out wr (by rw [HM.out]; exact HW.out.bel) HW.out.x p bm e K HP.out HG.out (by omega) (by omega) (b.length : Int) j hlt)
                have hst := HRO.out
                rw [wrIs_step _ _ _ _ hlt] at hst
                obtain ⟨hG2, hK2, he2, ho2⟩ := wrI_next (e := e) b (It.r m.ar[j]) HG.out he
                have eR : wrI b K e (It.r m.ar[j]) = wrC b.length m.ar[j] K e := rfl
                rw [← eR] at HWR1
                obtain ⟨R, hR⟩ : ∃ R, wrI b K e (It.r m.ar[j]) = R := ⟨_, rfl⟩
                rw [hR] at HWR1 hst hG2 hK2 he2 ho2
                obtain ⟨O, C, K', e'⟩ := R
                simp only at HWR1 hst hG2 hK2 he2 ho2
                unfold WrPost at HWR1
                simp only at HWR1
                rw [hz] at HWR1 hbl
                have d1 := HW.out.c2.c 0 (by simp)
                have HZ := Lib.hid hz
                have HST := Lib.hid hst
                have HG2 := Lib.hid hG2
                simp only [List.getElem_cons_zero, hz] at d1
                clear eR hR hst hG2 HRO
                rw [hz] at HW
                clear hz
                go_wp2_with fail
                refine HWR1.out.mono ?_; rintro e0 wg ⟨v1, rfl, hov, hpk, has⟩
                replace HW := Lib.hid (HW.out.name HP.out HPP.out.1 HPP.out.2 has)
                replace HP := Lib.hid hpk
                have HO := Lib.hid hov
                obtain ⟨a1, k1, rfl⟩ := hov.shape
                clear hpk has hov d1 HWR1
                obtain ⟨a2, k2, wh, hrun, e1, e2, hw2, hp2⟩ := HW.out.app HO.out.sl (by rw [HZ.out]; omega)
                obtain ⟨y, hy⟩ : ∃ y, b.length + O.length = y := ⟨_, rfl⟩
                rw [hy] at hrun hw2 hp2
                obtain ⟨X, hX⟩ : ∃ X, wh.setCell ⟨M + 1, 0, none⟩ (.slice a2 y k2) = X := ⟨_, rfl⟩
                rw [hX] at hw2 hp2
                have HRUN := Lib.hid hrun
                have hyl : (b ++ O).length = y := by rw [List.length_append, hy]
                have d1 := HW.out.c2.c 0 (by simp)
                simp only [List.getElem_cons_zero] at d1
                replace HP := Lib.hid (hp2 _ _ _ _ HP.out HPP.out.1 HPP.out.2)
                replace HW := Lib.hid hw2
                have d1' := hw2.c2.c 0 (by simp)
                simp only [List.getElem_cons_zero] at d1'
                have d2' := hw2.c3.c 0 (by simp)
                simp only [List.getElem_cons_zero] at d2'
                have f1' := hw2.c2.fz
                have f2' := hw2.c3.fz
                have HYL := Lib.hid hyl
                clear hrun hw2 hp2 hyl hy
                by_cases hbad : C ≠ 0 ∨ 65535 < (b ++ O).length
                · have hst := HST.out
                  rw [if_pos hbad] at hst
                  have HRN := Lib.hid hst
                  clear HST hst
                  rw [HYL.out] at hbad
                  by_cases hC : C = 0
                  · subst hC
                    have tY : decide ((65535 : Int) < y) = true := by simp; omega
                    clear hbad
                    go_wp2_with (at_builtin; refine wpList_append_run (.tmp 57) (.tmp 58) 28 28 rfl rfl rfl rfl HRUN.out ?_)
                    have g2 := HW.out.c2.set (o := 0) (by simp) (.slice a2 y k2)
                    have g3 := HW.out.c3.other (a := ⟨M + 1, 0, none⟩) (by simp) (.slice a2 y k2)
                    have j2 := g2.other (a := ⟨M + 2, 0, none⟩) (by simp) (.int .i64 3)
                    have j3 := g3.set (o := 0) (by simp) (.int .i64 3)
                    simp only [List.set_cons_zero] at j2 j3
                    have hbl2 := (HW.out.bel.setCell (p := ⟨M + 1, 0, none⟩) (by simp) (.slice a2 y k2)).setCell (p := ⟨M + 2, 0, none⟩) (by simp) (.int .i64 3)
                    obtain ⟨Y, hY⟩ : ∃ Y, (X.setCell ⟨M + 1, 0, none⟩ (.slice a2 y k2)).setCell ⟨M + 2, 0, none⟩ (.int .i64 3) = Y := ⟨_, rfl⟩
                    rw [hY] at j2 j3 hbl2 ⊢
                    rw [← HRN.out]
                    refine leaves_cons (f := 50) (args := #[.pointer (some ⟨M + 2, 0, none⟩), .pointer (some ⟨M + 1, 0, none⟩)]) (by simp) (by simp [go_sem]) ?_
                    refine (wend_bad (M + 2) (M + 1) 3 _ (by decide) _ (j3.c 0 (by simp)) (j2.c 0 (by simp)) j2.fz).mono ?_
                    rintro e0 u' w9 ⟨rfl, rfl, rfl⟩
                    have m2 := (j2.set (o := 0) (by simp) (.slice none 0 0)).c 0 (by simp)
                    have m3 := (j3.other (a := ⟨M + 1, 0, none⟩) (by simp) (.slice none 0 0)).c 0 (by simp)
                    simp only [List.set_cons_zero, List.getElem_cons_zero] at m2 m3
                    simp [Leaves, settle, results, Tryz.results24, go_sem, m2, m3]
                    refine ⟨_, rfl, OwnB.nil _ _, ?_⟩
                    rw [HM.out]
                    exact hbl2.setCell (by simp) _
                  · have tC : (C != 0) = true := by simpa using hC
                    clear hbad
                    go_wp2_with (at_builtin; refine wpList_append_run (.tmp 57) (.tmp 58) 28 28 rfl rfl rfl rfl HRUN.out ?_)
                    have g2 := HW.out.c2.set (o := 0) (by simp) (.slice a2 y k2)
                    have g3 := HW.out.c3.other (a := ⟨M + 1, 0, none⟩) (by simp) (.slice a2 y k2)
                    have j2 := g2.other (a := ⟨M + 2, 0, none⟩) (by simp) (.int .i64 3)
                    have j3 := g3.set (o := 0) (by simp) (.int .i64 3)
                    simp only [List.set_cons_zero] at j2 j3
                    have hbl2 := (HW.out.bel.setCell (p := ⟨M + 1, 0, none⟩) (by simp) (.slice a2 y k2)).setCell (p := ⟨M + 2, 0, none⟩) (by simp) (.int .i64 3)
                    obtain ⟨Y, hY⟩ : ∃ Y, (X.setCell ⟨M + 1, 0, none⟩ (.slice a2 y k2)).setCell ⟨M + 2, 0, none⟩ (.int .i64 3) = Y := ⟨_, rfl⟩
                    rw [hY] at j2 j3 hbl2 ⊢
                    rw [← HRN.out]
                    refine leaves_cons (f := 50) (args := #[.pointer (some ⟨M + 2, 0, none⟩), .pointer (some ⟨M + 1, 0, none⟩)]) (by simp) (by simp [go_sem]) ?_
                    refine (wend_bad (M + 2) (M + 1) 3 _ (by decide) _ (j3.c 0 (by simp)) (j2.c 0 (by simp)) j2.fz).mono ?_
                    rintro e0 u' w9 ⟨rfl, rfl, rfl⟩
                    have m2 := (j2.set (o := 0) (by simp) (.slice none 0 0)).c 0 (by simp)
                    have m3 := (j3.other (a := ⟨M + 1, 0, none⟩) (by simp) (.slice none 0 0)).c 0 (by simp)
                    simp only [List.set_cons_zero, List.getElem_cons_zero] at m2 m3
                    simp [Leaves, settle, results, Tryz.results24, go_sem, m2, m3]
                    refine ⟨_, rfl, OwnB.nil _ _, ?_⟩
                    rw [HM.out]
                    exact hbl2.setCell (by simp) _
                · have hst := HST.out
                  rw [if_neg hbad] at hst
                  have HRO := Lib.hid hst
                  clear HST hst
                  rw [HYL.out] at hbad
                  have hC : C = 0 := Classical.byContradiction fun h => hbad (.inl h)
                  subst hC
                  have hy2 : y ≤ 65535 := by omega
                  have tY : decide ((65535 : Int) < y) = false := by simp; omega
                  clear hbad
                  go_wp2_with (at_builtin; refine wpList_append_run (.tmp 57) (.tmp 58) 28 28 rfl rfl rfl rfl HRUN.out ?_)
                  go_roundg (m.ar.length - (j + 1))
                  case measure => omega
                  case rel => exact ⟨j + 1, by omega, by go_num, _, b ++ O, K', e', HW, HP, HG2, by omega, he2, (by rw [HYL.out]; exact hy2), HRO⟩
              have t1 : ¬ ((j : Int) < m.ar.length) := by omega
              have hst := HRO.out
              rw [wrIs_end _ _ _ _ (by omega)] at hst
              clear HRO
              have HRO := Lib.hid hst
              clear hst
              go_wp2_with fail
              rw [rounds_succ]
              obtain ⟨ab, cb, rfl⟩ := HW.out.row.shape
              have d1 := HW.out.c2.c 0 (by simp)
              have d2 := HW.out.c3.c 0 (by simp)
              simp only [List.getElem_cons_zero] at d1 d2
              have f1 := HW.out.c2.fz
              have f2 := HW.out.c3.fz
              go_wp2_with fail
              have hro : some b = RO := HRO.out
              rw [← hro]
              have g2 := HW.out.c2.set (o := 0) (by simp) (.slice ab b.length cb)
              have g3 := HW.out.c3.other (a := ⟨M + 1, 0, none⟩) (by simp) (.slice ab b.length cb)
              have j2 := g2.other (a := ⟨M + 2, 0, none⟩) (by simp) (.int .i64 0)
              have j3 := g3.set (o := 0) (by simp) (.int .i64 0)
              simp only [List.set_cons_zero] at j2 j3
              have hfin := (HW.out.put HW.out.row).noerr
              obtain ⟨Y, hY⟩ : ∃ Y, (wr.setCell ⟨M + 1, 0, none⟩ (.slice ab b.length cb)).setCell ⟨M + 2, 0, none⟩ (.int .i64 0) = Y := ⟨_, rfl⟩
              rw [hY] at j2 j3 hfin ⊢
              refine leaves_cons (f := 50) (args := #[.pointer (some ⟨M + 2, 0, none⟩), .pointer (some ⟨M + 1, 0, none⟩)]) (by simp) (by simp [go_sem]) ?_
              refine (wend_ok (M + 2) (M + 1) _ (j3.c 0 (by simp))).mono ?_
              rintro e0 u' w9 ⟨rfl, rfl, rfl⟩
              have m2 := j2.c 0 (by simp)
              have m3 := j3.c 0 (by simp)
              simp only [List.getElem_cons_zero] at m2 m3
              simp [Leaves, settle, results, Tryz.results24, go_sem, m2, m3]
              exact ⟨_, rfl, hfin.row.mono (by have := hfin.hM; have := HM.out; omega), by rw [HM.out]; exact hfin.bel⟩

/-- A message's bytes, or the error. -/
theorem writeM_any {w : World} {hi : Nat} {u : Value} {m : Ms} (h : Mg w hi u m) (h1 : hi ≤ w.heap.size) (hf : m.Fine) (hn : m.q.length + m.an.length + m.ns.length + m.ar.length ≤ 1100) :
    Calls Tryz.prog 24 #[u] w (MWPost w (wrM m)) := by
  by_cases h0 : chkM m = 0
  · exact writeM_yes h h1 hf h0 hn
  · have e : wrM m = (none, chkM m) := by unfold wrM; rw [if_pos h0]
    rw [e]
    exact writeM_no h h1 hf h0
end Go.Proofs.YteegekpanadmkaaGreat
