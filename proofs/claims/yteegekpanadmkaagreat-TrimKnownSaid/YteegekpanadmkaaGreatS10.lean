/-
  Why a message may not be: Check.
-/
import Derived.Test.YteegekpanadmkaaGreatS09
import Derived.Test.YteegekpanadmkaaGreatS06
import Derived.Defers
namespace Go.Proofs.YteegekpanadmkaaGreat
open Go.RowKit Go.Shelf
set_option linter.unusedVariables false
set_option linter.unusedSimpArgs false
set_option maxRecDepth 100000

theorem m_countQ (M : Nat) (w : World) : (method 313 117 (.agg #[.pointer (some ⟨M, 2, none⟩)]) "ostiary/msg.count").run Tryz.prog w = .ok (119, .agg #[.pointer (some ⟨M, 2, none⟩)]) w := by kernel_rfl
theorem m_countR (M o : Nat) (w : World) : (method 313 120 (.agg #[.pointer (some ⟨M, o, none⟩)]) "ostiary/msg.count").run Tryz.prog w = .ok (152, .agg #[.pointer (some ⟨M, o, none⟩)]) w := by kernel_rfl
theorem m_checkQ (M : Nat) (w : World) : (method 313 117 (.agg #[.pointer (some ⟨M, 2, none⟩)]) "ostiary/msg.check").run Tryz.prog w = .ok (118, .agg #[.pointer (some ⟨M, 2, none⟩)]) w := by kernel_rfl
theorem m_checkR (M o : Nat) (w : World) : (method 313 120 (.agg #[.pointer (some ⟨M, o, none⟩)]) "ostiary/msg.check").run Tryz.prog w = .ok (151, .agg #[.pointer (some ⟨M, o, none⟩)]) w := by kernel_rfl

theorem ix_l0 (M : Nat) (w : World) : (Instr.index 79 (.agg #[.iface 117 (.agg #[.pointer (some ⟨M, 2, none⟩)]), .iface 120 (.agg #[.pointer (some ⟨M, 3, none⟩)]), .iface 120 (.agg #[.pointer (some ⟨M, 4, none⟩)]), .iface 120 (.agg #[.pointer (some ⟨M, 5, none⟩)])]) (.int .i64 0)).run Tryz.prog w = .ok (.iface 117 (.agg #[.pointer (some ⟨M, 2, none⟩)])) w := by kernel_rfl
theorem ix_l1 (M : Nat) (w : World) : (Instr.index 79 (.agg #[.iface 117 (.agg #[.pointer (some ⟨M, 2, none⟩)]), .iface 120 (.agg #[.pointer (some ⟨M, 3, none⟩)]), .iface 120 (.agg #[.pointer (some ⟨M, 4, none⟩)]), .iface 120 (.agg #[.pointer (some ⟨M, 5, none⟩)])]) (.int .i64 1)).run Tryz.prog w = .ok (.iface 120 (.agg #[.pointer (some ⟨M, 3, none⟩)])) w := by kernel_rfl
theorem ix_l2 (M : Nat) (w : World) : (Instr.index 79 (.agg #[.iface 117 (.agg #[.pointer (some ⟨M, 2, none⟩)]), .iface 120 (.agg #[.pointer (some ⟨M, 3, none⟩)]), .iface 120 (.agg #[.pointer (some ⟨M, 4, none⟩)]), .iface 120 (.agg #[.pointer (some ⟨M, 5, none⟩)])]) (.int .i64 2)).run Tryz.prog w = .ok (.iface 120 (.agg #[.pointer (some ⟨M, 4, none⟩)])) w := by kernel_rfl
theorem ix_l3 (M : Nat) (w : World) : (Instr.index 79 (.agg #[.iface 117 (.agg #[.pointer (some ⟨M, 2, none⟩)]), .iface 120 (.agg #[.pointer (some ⟨M, 3, none⟩)]), .iface 120 (.agg #[.pointer (some ⟨M, 4, none⟩)]), .iface 120 (.agg #[.pointer (some ⟨M, 5, none⟩)])]) (.int .i64 3)).run Tryz.prog w = .ok (.iface 120 (.agg #[.pointer (some ⟨M, 5, none⟩)])) w := by kernel_rfl

/-- A message whose texts are not too long. -/
structure Ms.Fine (m : Ms) : Prop where
  q : ∀ x ∈ m.q, x.n.length ≤ 1000000
  an : ∀ x ∈ m.an, x.n.length ≤ 1000000 ∧ x.d.length ≤ 1000000
  ns : ∀ x ∈ m.ns, x.n.length ≤ 1000000 ∧ x.d.length ≤ 1000000
  ar : ∀ x ∈ m.ar, x.n.length ≤ 1000000 ∧ x.d.length ≤ 1000000

theorem fst0_step {α : Type} (f : α → Int) (l : List α) (rest : List Int) (j : Nat) (hj : j < l.length) : fst0 ((l.drop j).map f ++ rest) = if f l[j] ≠ 0 then f l[j] else fst0 ((l.drop (j + 1)).map f ++ rest) := by
  rw [List.drop_eq_getElem_cons hj, List.map_cons, List.cons_append, fst0]
theorem fst0_end {α : Type} (f : α → Int) (l : List α) (rest : List Int) (j : Nat) (hj : l.length ≤ j) : fst0 ((l.drop j).map f ++ rest) = fst0 rest := by
  rw [List.drop_eq_nil_of_le hj]; rfl
/-- The errors of questions, of records. -/
def eqs (l : List Qn) : List Int := l.map fun x => (It.q x).err
def ers (l : List Rc) : List Int := l.map fun x => (It.r x).err
theorem its_errs (m : Ms) : m.its.map It.err = eqs m.q ++ (ers m.an ++ (ers m.ns ++ (ers m.ar ++ []))) := by
  unfold Ms.its eqs ers
  simp only [List.map_append, List.map_map, List.append_nil]
  rfl

set_option maxHeartbeats 16000000 in
theorem checkM_any {w : World} {hi : Nat} {u : Value} {m : Ms} (h : Mg w hi u m) (h1 : hi ≤ w.heap.size) (hf : m.Fine) :
    Calls Tryz.prog 18 #[u] w (Tells w (.int .i64 (chkM m))) := by
  obtain ⟨q, a, n, r, rfl, k1, k2, k3, k4⟩ := h
  have HmQ := fun M w => m_countQ M w
  have HmR := fun M o w => m_countR M o w
  have HkQ := fun M w => m_checkQ M w
  have HkR := fun M o w => m_checkR M o w
  have Hx0 := fun M w => ix_l0 M w
  have Hx1 := fun M w => ix_l1 M w
  have Hx2 := fun M w => ix_l2 M w
  have Hx3 := fun M w => ix_l3 M w
  obtain ⟨i0, hi0⟩ : ∃ i, m.id = i := ⟨_, rfl⟩
  obtain ⟨i1, hi1⟩ : ∃ i, m.fl = i := ⟨_, rfl⟩
  obtain ⟨R, hR⟩ : ∃ R, chkM m = R := ⟨_, rfl⟩
  rw [hi0, hi1, hR]
  unfold chkM at hR
  rw [hi0, hi1, its_errs] at hR
  obtain ⟨M, hM⟩ : ∃ M, w.heap.size = M := ⟨_, rfl⟩
  obtain ⟨W, hW⟩ : ∃ W, w.alloc (.cells #[.int .i64 i0, .int .i64 i1, q, a, n, r] 25) = W := ⟨_, rfl⟩
  have hb : Below w.heap.size w W := by rw [← hW]; exact (Below.refl _ _).alloc (Nat.le_refl _) _
  have hx : Cel W M [.int .i64 i0, .int .i64 i1, q, a, n, r] := by rw [← hW, ← hM]; exact cel_new6 w _ _ _ _ _ _ _
  have hWs : W.heap.size = M + 1 := by rw [← hW, World.size_alloc, hM]
  have HB := Lib.hid hb
  have HX := Lib.hid hx
  have HI0 := Lib.hid (fun wx => mbound_any i0 wx)
  have HI1 := Lib.hid (fun wx => mbound_any i1 wx)
  have HL := Lib.hid (fun wx (hb : Below w.heap.size w wx) (hx : Cel wx M [.int .i64 i0, .int .i64 i1, q, a, n, r]) => lists_any M wx (hx.lt (by simp)))
  have HCQ := Lib.hid (fun wx (hb : Below w.heap.size w wx) (hx : Cel wx M [.int .i64 i0, .int .i64 i1, q, a, n, r]) => countQ_any (hx.c 2 (by simp)) (Lst.below k1 hb h1))
  have HCA := Lib.hid (fun wx (hb : Below w.heap.size w wx) (hx : Cel wx M [.int .i64 i0, .int .i64 i1, q, a, n, r]) => countR_any (hx.c 3 (by simp)) (Lst.below k2 hb h1))
  have HCN := Lib.hid (fun wx (hb : Below w.heap.size w wx) (hx : Cel wx M [.int .i64 i0, .int .i64 i1, q, a, n, r]) => countR_any (hx.c 4 (by simp)) (Lst.below k3 hb h1))
  have HCR := Lib.hid (fun wx (hb : Below w.heap.size w wx) (hx : Cel wx M [.int .i64 i0, .int .i64 i1, q, a, n, r]) => countR_any (hx.c 5 (by simp)) (Lst.below k4 hb h1))
  have HKQ := Lib.hid (fun wx (hb : Below w.heap.size w wx) (hx : Cel wx M [.int .i64 i0, .int .i64 i1, q, a, n, r]) j hj => checkQ_any (hx.c 2 (by simp)) (Lst.below k1 hb h1) (Nat.le_trans h1 hb.size) j hj (hf.q _ (List.getElem_mem hj)))
  have HKA := Lib.hid (fun wx (hb : Below w.heap.size w wx) (hx : Cel wx M [.int .i64 i0, .int .i64 i1, q, a, n, r]) j hj => checkR_any (hx.c 3 (by simp)) (Lst.below k2 hb h1) (Nat.le_trans h1 hb.size) j hj (hf.an _ (List.getElem_mem hj)).1 (hf.an _ (List.getElem_mem hj)).2)
  have HKN := Lib.hid (fun wx (hb : Below w.heap.size w wx) (hx : Cel wx M [.int .i64 i0, .int .i64 i1, q, a, n, r]) j hj => checkR_any (hx.c 4 (by simp)) (Lst.below k3 hb h1) (Nat.le_trans h1 hb.size) j hj (hf.ns _ (List.getElem_mem hj)).1 (hf.ns _ (List.getElem_mem hj)).2)
  have HKR := Lib.hid (fun wx (hb : Below w.heap.size w wx) (hx : Cel wx M [.int .i64 i0, .int .i64 i1, q, a, n, r]) j hj => checkR_any (hx.c 5 (by simp)) (Lst.below k4 hb h1) (Nat.le_trans h1 hb.size) j hj (hf.ar _ (List.getElem_mem hj)).1 (hf.ar _ (List.getElem_mem hj)).2)
  have n1 := Lst.len k1
  have n2 := Lst.len k2
  have n3 := Lst.len k3
  have n4 := Lst.len k4
  have HR := Lib.hid hR
  clear hb k1 k2 k3 k4 hR
  by_cases hi : 0 ≤ i0 ∧ i0 ≤ 65535
  · by_cases hfl : 0 ≤ i1 ∧ i1 ≤ 65535
    · rw [decide_eq_true hi] at HI0
      rw [decide_eq_true hfl] at HI1
      have c0 : W.cell? ⟨M, 0, none⟩ = some (.int .i64 i0) := hx.c 0 (by simp)
      have c1 : W.cell? ⟨M, 1, none⟩ = some (.int .i64 i1) := hx.c 1 (by simp)
      clear hx
      have hR2 := HR.out
      rw [if_neg (by omega)] at hR2
      clear HR
      go_enter Tryz.func18, Tryz.ntmps18
      go_wp2_with fail
      refine (HI0.out _).mono ?_; rintro e w1 ⟨rfl, rfl⟩
      go_wp2_with fail
      refine (HI1.out _).mono ?_; rintro e w1 ⟨rfl, rfl⟩
      go_wp2_with fail
      refine (HL.out _ HB.out HX.out).mono ?_; rintro e w1 ⟨rfl, hb⟩
      replace HX := Lib.hid (HX.out.below (by simp) hb)
      replace HB := Lib.hid (bel_call HB.out hb)
      unfold lall lq lr
      clear hb c0 c1
      have HB2 := Lib.hid (bel_alloc HB.out (.cells #[.iface 117 (.agg #[.pointer (some ⟨M, 2, none⟩)]), .iface 120 (.agg #[.pointer (some ⟨M, 3, none⟩)]), .iface 120 (.agg #[.pointer (some ⟨M, 4, none⟩)]), .iface 120 (.agg #[.pointer (some ⟨M, 5, none⟩)])] 79))
      have HX2 := Lib.hid (HX.out.below (by simp) (bel_alloc (Below.refl w1.heap.size w1) (.cells #[.iface 117 (.agg #[.pointer (some ⟨M, 2, none⟩)]), .iface 120 (.agg #[.pointer (some ⟨M, 3, none⟩)]), .iface 120 (.agg #[.pointer (some ⟨M, 4, none⟩)]), .iface 120 (.agg #[.pointer (some ⟨M, 5, none⟩)])] 79)))
      replace HB := HB2
      replace HX := HX2
      clear HB2 HX2
      have HY := Lib.hid (cel_new4 w1 (.iface 117 (.agg #[.pointer (some ⟨M, 2, none⟩)])) (.iface 120 (.agg #[.pointer (some ⟨M, 3, none⟩)])) (.iface 120 (.agg #[.pointer (some ⟨M, 4, none⟩)])) (.iface 120 (.agg #[.pointer (some ⟨M, 5, none⟩)])) 79)
      go_wp2_with fail
      refine wp_loop_rounds 5 ?_
      rw [rounds_succ]
      go_wp2_with fail
      refine (HCQ.out _ HB.out HX.out).mono ?_; rintro e w2 ⟨rfl, hb⟩
      replace HX := Lib.hid (HX.out.below (by simp) hb)
      replace HB := Lib.hid (bel_call HB.out hb)
      replace HY := Lib.hid (HY.out.below (by simp) hb)
      clear hb
      by_cases g0 : 65535 < m.q.length
      · have t1 : decide ((65535 : Int) < m.q.length) = true := by simp; omega
        rw [if_pos (by omega)] at hR2
        have HR2 := Lib.hid hR2
        clear hR2
        go_wp2_with fail
        go_ret
        exact ⟨by rw [← HR2.out]; rfl, HB.out⟩
      have t10 : decide ((65535 : Int) < m.q.length) = false := by simp; omega
      go_wp2_with fail
      rw [rounds_succ]
      go_wp2_with fail
      refine (HCA.out _ HB.out HX.out).mono ?_; rintro e w3 ⟨rfl, hb⟩
      replace HX := Lib.hid (HX.out.below (by simp) hb)
      replace HB := Lib.hid (bel_call HB.out hb)
      replace HY := Lib.hid (HY.out.below (by simp) hb)
      clear hb
      by_cases g1 : 65535 < m.an.length
      · have t1 : decide ((65535 : Int) < m.an.length) = true := by simp; omega
        rw [if_pos (by omega)] at hR2
        have HR2 := Lib.hid hR2
        clear hR2
        go_wp2_with fail
        go_ret
        exact ⟨by rw [← HR2.out]; rfl, HB.out⟩
      have t11 : decide ((65535 : Int) < m.an.length) = false := by simp; omega
      go_wp2_with fail
      rw [rounds_succ]
      go_wp2_with fail
      refine (HCN.out _ HB.out HX.out).mono ?_; rintro e w4 ⟨rfl, hb⟩
      replace HX := Lib.hid (HX.out.below (by simp) hb)
      replace HB := Lib.hid (bel_call HB.out hb)
      replace HY := Lib.hid (HY.out.below (by simp) hb)
      clear hb
      by_cases g2 : 65535 < m.ns.length
      · have t1 : decide ((65535 : Int) < m.ns.length) = true := by simp; omega
        rw [if_pos (by omega)] at hR2
        have HR2 := Lib.hid hR2
        clear hR2
        go_wp2_with fail
        go_ret
        exact ⟨by rw [← HR2.out]; rfl, HB.out⟩
      have t12 : decide ((65535 : Int) < m.ns.length) = false := by simp; omega
      go_wp2_with fail
      rw [rounds_succ]
      go_wp2_with fail
      refine (HCR.out _ HB.out HX.out).mono ?_; rintro e w5 ⟨rfl, hb⟩
      replace HX := Lib.hid (HX.out.below (by simp) hb)
      replace HB := Lib.hid (bel_call HB.out hb)
      replace HY := Lib.hid (HY.out.below (by simp) hb)
      clear hb
      by_cases g3 : 65535 < m.ar.length
      · have t1 : decide ((65535 : Int) < m.ar.length) = true := by simp; omega
        rw [if_pos (by omega)] at hR2
        have HR2 := Lib.hid hR2
        clear hR2
        go_wp2_with fail
        go_ret
        exact ⟨by rw [← HR2.out]; rfl, HB.out⟩
      have t13 : decide ((65535 : Int) < m.ar.length) = false := by simp; omega
      go_wp2_with fail
      rw [if_neg (by omega)] at hR2
      replace HR := Lib.hid hR2
      clear hR2 t10 t11 t12 t13
      have l0 := HY.out.c 0 (by simp)
      have l1 := HY.out.c 1 (by simp)
      have l2 := HY.out.c 2 (by simp)
      have l3 := HY.out.c 3 (by simp)
      simp only [List.getElem_cons_zero, List.getElem_cons_succ] at l0 l1 l2 l3
      rw [rounds_succ]
      go_wp2_with fail
      clear l0 l1 l2 l3 HY
      refine wp_loop_rounds 5 ?_
      rw [rounds_succ]
      go_wp2_with fail
      refine (HCQ.out _ HB.out HX.out).mono ?_; rintro e w6 ⟨rfl, hb⟩
      replace HX := Lib.hid (HX.out.below (by simp) hb)
      replace HB := Lib.hid (bel_call HB.out hb)
      clear hb
      go_wp2_with fail
      go_loopg [35] m.q.length (fun g v35 wr => ∃ j : Nat, j + g = m.q.length ∧ v35 = .int .i64 j ∧ Hid (fst0 ((m.q.drop j).map (fun x => (It.q x).err) ++ (ers m.an ++ (ers m.ns ++ (ers m.ar ++ [])))) = R) ∧ Hid (Below w.heap.size w wr) ∧ Hid (Cel wr M [.int .i64 i0, .int .i64 i1, q, a, n, r]))
      case atStart => exact ⟨0, by omega, rfl, HR, HB, HX⟩
      case round =>
        clear HR HB HX
        obtain ⟨j, hj, rfl, HR, HB, HX⟩ := hrel
        by_cases hlt : j < m.q.length
        · have HK := Lib.hid (HKQ.out wr HB.out HX.out j hlt)
          have hst := HR.out
          rw [fst0_step _ _ _ _ hlt] at hst
          have hst : (if (It.q m.q[j]).err ≠ 0 then (It.q m.q[j]).err else fst0 ((m.q.drop (j + 1)).map (fun x => (It.q x).err) ++ (ers m.an ++ (ers m.ns ++ (ers m.ar ++ []))))) = R := hst
          obtain ⟨E, hE⟩ : ∃ E, (It.q m.q[j]).err = E := ⟨_, rfl⟩
          rw [hE] at HK hst
          clear hE
          by_cases hE0 : E = 0
          · subst hE0
            rw [if_neg (by simp)] at hst
            have HR2 := Lib.hid hst
            clear hst HR
            go_wp2_with fail
            refine HK.out.mono ?_; rintro e wx ⟨rfl, hb⟩
            replace HX := Lib.hid (HX.out.below (by simp) hb)
            replace HB := Lib.hid (bel_call HB.out hb)
            clear hb HK
            go_wp2_with fail
            go_roundg (m.q.length - (j + 1))
            case measure => omega
            case rel => exact ⟨j + 1, by omega, by go_num, HR2, HB, HX⟩
          · have tE : (E != 0) = true := by simpa using hE0
            rw [if_pos hE0] at hst
            have HR2 := Lib.hid hst
            clear hst HR
            go_wp2_with fail
            refine HK.out.mono ?_; rintro e wx ⟨rfl, hb⟩
            replace HB := Lib.hid (bel_call HB.out hb)
            clear hb HK
            go_wp2_with fail
            go_ret
            exact ⟨by rw [← HR2.out]; rfl, HB.out⟩
        have t1 : ¬ ((j : Int) < m.q.length) := by omega
        have hst := HR.out
        rw [fst0_end _ _ _ _ (by omega)] at hst
        clear HR
        have HR := Lib.hid hst
        clear hst
        go_wp2_with fail
        rw [rounds_succ]
        go_wp2_with fail
        refine (HCA.out _ HB.out HX.out).mono ?_; rintro e w7 ⟨rfl, hb⟩
        replace HX := Lib.hid (HX.out.below (by simp) hb)
        replace HB := Lib.hid (bel_call HB.out hb)
        clear hb
        go_wp2_with fail
        go_loopg [35] m.an.length (fun g v35 wr => ∃ j : Nat, j + g = m.an.length ∧ v35 = .int .i64 j ∧ Hid (fst0 ((m.an.drop j).map (fun x => (It.r x).err) ++ (ers m.ns ++ (ers m.ar ++ []))) = R) ∧ Hid (Below w.heap.size w wr) ∧ Hid (Cel wr M [.int .i64 i0, .int .i64 i1, q, a, n, r]))
        case atStart => exact ⟨0, by omega, rfl, HR, HB, HX⟩
        case round =>
          clear HR HB HX
          obtain ⟨j, hj, rfl, HR, HB, HX⟩ := hrel
          by_cases hlt : j < m.an.length
          · have HK := Lib.hid (HKA.out wr HB.out HX.out j hlt)
            have hst := HR.out
            rw [fst0_step _ _ _ _ hlt] at hst
            have hst : (if (It.r m.an[j]).err ≠ 0 then (It.r m.an[j]).err else fst0 ((m.an.drop (j + 1)).map (fun x => (It.r x).err) ++ (ers m.ns ++ (ers m.ar ++ [])))) = R := hst
            obtain ⟨E, hE⟩ : ∃ E, (It.r m.an[j]).err = E := ⟨_, rfl⟩
            rw [hE] at HK hst
            clear hE
            by_cases hE0 : E = 0
            · subst hE0
              rw [if_neg (by simp)] at hst
              have HR2 := Lib.hid hst
              clear hst HR
              go_wp2_with fail
              refine HK.out.mono ?_; rintro e wx ⟨rfl, hb⟩
              replace HX := Lib.hid (HX.out.below (by simp) hb)
              replace HB := Lib.hid (bel_call HB.out hb)
              clear hb HK
              go_wp2_with fail
              go_roundg (m.an.length - (j + 1))
              case measure => omega
              case rel => exact ⟨j + 1, by omega, by go_num, HR2, HB, HX⟩
            · have tE : (E != 0) = true := by simpa using hE0
              rw [if_pos hE0] at hst
              have HR2 := Lib.hid hst
              clear hst HR
              go_wp2_with fail
              refine HK.out.mono ?_; rintro e wx ⟨rfl, hb⟩
              replace HB := Lib.hid (bel_call HB.out hb)
              clear hb HK
              go_wp2_with fail
              go_ret
              exact ⟨by rw [← HR2.out]; rfl, HB.out⟩
          have t1 : ¬ ((j : Int) < m.an.length) := by omega
          have hst := HR.out
          rw [fst0_end _ _ _ _ (by omega)] at hst
          clear HR
          have HR := Lib.hid hst
          clear hst
          go_wp2_with fail
          rw [rounds_succ]
          go_wp2_with fail
          refine (HCN.out _ HB.out HX.out).mono ?_; rintro e w8 ⟨rfl, hb⟩
          replace HX := Lib.hid (HX.out.below (by simp) hb)
          replace HB := Lib.hid (bel_call HB.out hb)
          clear hb
          go_wp2_with fail
          go_loopg [35] m.ns.length (fun g v35 wr => ∃ j : Nat, j + g = m.ns.length ∧ v35 = .int .i64 j ∧ Hid (fst0 ((m.ns.drop j).map (fun x => (It.r x).err) ++ (ers m.ar ++ [])) = R) ∧ Hid (Below w.heap.size w wr) ∧ Hid (Cel wr M [.int .i64 i0, .int .i64 i1, q, a, n, r]))
          case atStart => exact ⟨0, by omega, rfl, HR, HB, HX⟩
          case round =>
            clear HR HB HX
            obtain ⟨j, hj, rfl, HR, HB, HX⟩ := hrel
            by_cases hlt : j < m.ns.length
            · have HK := Lib.hid (HKN.out wr HB.out HX.out j hlt)
              have hst := HR.out
              rw [fst0_step _ _ _ _ hlt] at hst
              have hst : (if (It.r m.ns[j]).err ≠ 0 then (It.r m.ns[j]).err else fst0 ((m.ns.drop (j + 1)).map (fun x => (It.r x).err) ++ (ers m.ar ++ []))) = R := hst
              obtain ⟨E, hE⟩ : ∃ E, (It.r m.ns[j]).err = E := ⟨_, rfl⟩
              rw [hE] at HK hst
              clear hE
              by_cases hE0 : E = 0
              · subst hE0
                rw [if_neg (by simp)] at hst
                have HR2 := Lib.hid hst
                clear hst HR
                go_wp2_with fail
                refine HK.out.mono ?_; rintro e wx ⟨rfl, hb⟩
                replace HX := Lib.hid (HX.out.below (by simp) hb)
                replace HB := Lib.hid (bel_call HB.out hb)
                clear hb HK
                go_wp2_with fail
                go_roundg (m.ns.length - (j + 1))
                case measure => omega
                case rel => exact ⟨j + 1, by omega, by go_num, HR2, HB, HX⟩
              · have tE : (E != 0) = true := by simpa using hE0
                rw [if_pos hE0] at hst
                have HR2 := Lib.hid hst
                clear hst HR
                go_wp2_with fail
                refine HK.out.mono ?_; rintro e wx ⟨rfl, hb⟩
                replace HB := Lib.hid (bel_call HB.out hb)
                clear hb HK
                go_wp2_with fail
                go_ret
                exact ⟨by rw [← HR2.out]; rfl, HB.out⟩
            have t1 : ¬ ((j : Int) < m.ns.length) := by omega
            have hst := HR.out
            rw [fst0_end _ _ _ _ (by omega)] at hst
            clear HR
            have HR := Lib.hid hst
            clear hst
            go_wp2_with fail
            rw [rounds_succ]
            go_wp2_with fail
            refine (HCR.out _ HB.out HX.out).mono ?_; rintro e w9 ⟨rfl, hb⟩
            replace HX := Lib.hid (HX.out.below (by simp) hb)
            replace HB := Lib.hid (bel_call HB.out hb)
            clear hb
            go_wp2_with fail
            go_loopg [35] m.ar.length (fun g v35 wr => ∃ j : Nat, j + g = m.ar.length ∧ v35 = .int .i64 j ∧ Hid (fst0 ((m.ar.drop j).map (fun x => (It.r x).err) ++ []) = R) ∧ Hid (Below w.heap.size w wr) ∧ Hid (Cel wr M [.int .i64 i0, .int .i64 i1, q, a, n, r]))
            case atStart => exact ⟨0, by omega, rfl, HR, HB, HX⟩
            case round =>
              clear HR HB HX
              obtain ⟨j, hj, rfl, HR, HB, HX⟩ := hrel
              by_cases hlt : j < m.ar.length
              · have HK := Lib.hid (HKR.out wr HB.out HX.out j hlt)
                have hst := HR.out
                rw [fst0_step _ _ _ _ hlt] at hst
                have hst : (if (It.r m.ar[j]).err ≠ 0 then (It.r m.ar[j]).err else fst0 ((m.ar.drop (j + 1)).map (fun x => (It.r x).err) ++ [])) = R := hst
                obtain ⟨E, hE⟩ : ∃ E, (It.r m.ar[j]).err = E := ⟨_, rfl⟩
                rw [hE] at HK hst
                clear hE
                by_cases hE0 : E = 0
                · subst hE0
                  rw [if_neg (by simp)] at hst
                  have HR2 := Lib.hid hst
                  clear hst HR
                  go_wp2_with fail
                  refine HK.out.mono ?_; rintro e wx ⟨rfl, hb⟩
                  replace HX := Lib.hid (HX.out.below (by simp) hb)
                  replace HB := Lib.hid (bel_call HB.out hb)
                  clear hb HK
                  go_wp2_with fail
                  go_roundg (m.ar.length - (j + 1))
                  case measure => omega
                  case rel => exact ⟨j + 1, by omega, by go_num, HR2, HB, HX⟩
                · have tE : (E != 0) = true := by simpa using hE0
                  rw [if_pos hE0] at hst
                  have HR2 := Lib.hid hst
                  clear hst HR
                  go_wp2_with fail
                  refine HK.out.mono ?_; rintro e wx ⟨rfl, hb⟩
                  replace HB := Lib.hid (bel_call HB.out hb)
                  clear hb HK
                  go_wp2_with fail
                  go_ret
                  exact ⟨by rw [← HR2.out]; rfl, HB.out⟩
              have t1 : ¬ ((j : Int) < m.ar.length) := by omega
              have hst := HR.out
              rw [fst0_end _ _ _ _ (by omega)] at hst
              clear HR
              have HR := Lib.hid hst
              clear hst
              go_wp2_with fail
              rw [rounds_succ]
              go_wp2_with fail
              go_ret
              exact ⟨by rw [← HR.out]; rfl, HB.out⟩
    · rw [decide_eq_true hi] at HI0
      rw [decide_eq_false hfl] at HI1
      have hR2 := HR.out
      rw [if_pos (by omega)] at hR2
      have HR2 := Lib.hid hR2
      have c0 : W.cell? ⟨M, 0, none⟩ = some (.int .i64 i0) := hx.c 0 (by simp)
      have c1 : W.cell? ⟨M, 1, none⟩ = some (.int .i64 i1) := hx.c 1 (by simp)
      clear hx HR hR2
      go_enter Tryz.func18, Tryz.ntmps18
      go_wp2_with fail
      refine (HI0.out _).mono ?_; rintro e w1 ⟨rfl, rfl⟩
      go_wp2_with fail
      refine (HI1.out _).mono ?_; rintro e w1 ⟨rfl, rfl⟩
      go_wp2_with fail
      go_ret
      exact ⟨by rw [← HR2.out]; rfl, HB.out⟩
  · rw [decide_eq_false hi] at HI0
    have hR2 := HR.out
    rw [if_pos (by omega)] at hR2
    have HR2 := Lib.hid hR2
    have c0 : W.cell? ⟨M, 0, none⟩ = some (.int .i64 i0) := hx.c 0 (by simp)
    clear hx HR hR2
    go_enter Tryz.func18, Tryz.ntmps18
    go_wp2_with fail
    refine (HI0.out _).mono ?_; rintro e w1 ⟨rfl, rfl⟩
    go_wp2_with fail
    go_ret
    exact ⟨by rw [← HR2.out]; rfl, HB.out⟩
end Go.Proofs.YteegekpanadmkaaGreat

/-
  What Write stands on: two bytes of a number, the deferred function, the bytes so far and the packer.
-/
namespace Go.Proofs.YteegekpanadmkaaGreat
open Go.RowKit Go.Shelf
set_option linter.unusedVariables false
set_option linter.unusedSimpArgs false
set_option maxRecDepth 100000

theorem mtwo_any (n : Int) (h0 : 0 ≤ n) (h1 : n ≤ 65535) (w : World) : Calls Tryz.prog 51 #[.int .i64 n] w fun e w' => ∃ a c, e = .returned (.slice a 2 c) ∧ OwnB w' w.heap.size (.slice a 2 c) (two n) ∧ Below w.heap.size w w' := by
  have HP : Hid (Calls Tryz.prog 73 #[.int .i64 n] w fun e w' => ∃ a c, e = .returned (.tuple #[.slice a 2 c, .int .i64 (putE 65535 n)]) ∧ OwnB w' w.heap.size (.slice a 2 c) (two n) ∧ Below w.heap.size w w') := by
    refine (put16_any n w).mono ?_
    rintro e w' ⟨v, g, rfl, ho, hg, _, hb⟩
    rw [← iz_two n h0 h1] at ho
    have hs := (OwnB.of_own ho (by rw [two_len]; omega)).mono hg
    obtain ⟨a, c, rfl⟩ := hs.shape
    exact ⟨a, c, rfl, hs, hb⟩
  obtain ⟨E, hE⟩ : ∃ E, putE 65535 n = E := ⟨_, rfl⟩
  rw [hE] at HP
  clear hE
  go_enter Tryz.func51, Tryz.ntmps51
  go_wp2_with fail
  refine HP.out.mono ?_; rintro e w1 ⟨a, c, rfl, hs, hb⟩
  have HQ := Lib.hid (And.intro hs hb)
  clear hs hb
  go_wp2_with fail
  go_ret
  exact ⟨a, c, rfl, HQ.out⟩

theorem rowB_all {l : List UInt8} {cap : Nat} : ∀ u ∈ rowB l cap, ∃ x : Int, u = .int .u8 x := by
  intro u hu
  unfold rowB at hu
  rcases List.mem_append.mp hu with hu | hu
  · rw [ub_iz] at hu
    obtain ⟨x, _, rfl⟩ := List.mem_map.mp hu
    exact ⟨x, rfl⟩
  · exact ⟨0, (List.mem_replicate.mp hu).2⟩

/-- A packer's blocks are not those of a row of bytes. -/
theorem pk_apart {w : World} {p bm e B : Nat} {K : KK} {v : Value} {l : List UInt8} (h : Pk w p bm K e) (ho : OwnB w B v l) (b : Nat) (hb : v.ownBlock = some b) : ¬ (b = p ∨ b = bm) := by
  rcases ho with ⟨rfl, _⟩ | ⟨g, cap, fz, rfl, _, _, _, _, hg⟩
  · simp [Value.ownBlock] at hb
  · simp [Value.ownBlock] at hb
    subst hb
    rintro (rfl | rfl)
    · have := h.self
      rw [World.cell?, hg] at this
      simp only [List.getElem?_toArray] at this
      have hm := rowB_all _ (List.mem_of_getElem? (by simpa using this))
      obtain ⟨x, hx⟩ := hm
      cases hx
    · obtain ⟨D, ⟨es, clock, hm, _⟩, _⟩ := h.map
      rw [hg] at hm
      cases hm

/-- What is written so far: the message's cells, the slice of the bytes, no error, the pointers to the lists, the bytes. -/
structure W0 (w wr : World) (M N B0 : Nat) (xs ys : List Value) (bv : Value) (b : List UInt8) : Prop where
  x : Cel wr M xs
  xl : 0 < xs.length
  c2 : Cel wr (M + 1) [bv]
  c3 : Cel wr (M + 2) [.int .i64 0]
  y : Cel wr N ys
  yl : 0 < ys.length
  hN : N < B0
  hM : M + 3 ≤ B0
  ne : N ≠ M + 1 ∧ N ≠ M + 2
  row : OwnB wr B0 bv b
  bel : Below M w wr
  size : B0 ≤ wr.heap.size

section
variable {w wr w' : World} {M N B0 p bm e : Nat} {xs ys : List Value} {bv : Value} {b : List UInt8} {K : KK}
theorem W0.aside {G : Nat → Prop} (h : W0 w wr M N B0 xs ys bv b) (ha : Aside G wr w') (hG : ∀ k, k < B0 → ¬ G k) (hr : ∀ k, bv.ownBlock = some k → ¬ G k) : W0 w w' M N B0 xs ys bv b := by
  have hm := h.hM
  exact ⟨h.x.aside h.xl ha (hG _ (by omega)), h.xl, h.c2.aside (by simp) ha (hG _ (by omega)), h.c3.aside (by simp) ha (hG _ (by omega)), h.y.aside h.yl ha (hG _ h.hN), h.yl, h.hN, hm, h.ne, h.row.aside ha hr, below_aside h.bel ha fun k hk => ⟨Nat.lt_of_lt_of_le (by omega) h.size, hG k (by omega)⟩, Nat.le_trans h.size ha.size⟩
theorem W0.later (h : W0 w wr M N B0 xs ys bv b) (hb : Below wr.heap.size wr w') : W0 w w' M N B0 xs ys bv b :=
  h.aside (G := fun _ => False) (Aside.of_all hb) (fun _ _ h => h) (fun _ _ h => h)
theorem W0.name (h : W0 w wr M N B0 xs ys bv b) (hp : Pk wr p bm K e) (h1 : B0 ≤ p) (h2 : B0 ≤ bm) (ha : Aside (fun k => k = p ∨ k = bm) wr w') : W0 w w' M N B0 xs ys bv b :=
  h.aside ha (fun k hk hg => by omega) (fun k hk hg => pk_apart hp h.row k hk hg)
/-- Another slice of the bytes is stored. -/
theorem W0.put {v : Value} {b' : List UInt8} (h : W0 w wr M N B0 xs ys bv b) (ho : OwnB wr B0 v b') : W0 w (wr.setCell ⟨M + 1, 0, none⟩ v) M N B0 xs ys v b' := by
  have hm := h.hM
  refine ⟨h.x.other (by simp) _, h.xl, ?_, h.c3.other (by simp) _, h.y.other (by simpa using h.ne.1.symm) _, h.yl, h.hN, hm, h.ne, ?_, h.bel.setCell (by simp) _, Nat.le_trans h.size (by simp [World.setCell])⟩
  · have := h.c2.set (o := 0) (by simp) v
    simpa using this
  · refine ho.aside (G := fun k => k = M + 1) (Aside.setCell _ _ rfl) fun k hk hg => ?_
    have := (ho.lt k hk).1
    omega
/-- No error is stored. -/
theorem W0.noerr (h : W0 w wr M N B0 xs ys bv b) : W0 w (wr.setCell ⟨M + 2, 0, none⟩ (.int .i64 0)) M N B0 xs ys bv b := by
  have hm := h.hM
  refine ⟨h.x.other (by simp) _, h.xl, h.c2.other (by simp) _, ?_, h.y.other (by simpa using h.ne.2.symm) _, h.yl, h.hN, hm, h.ne, ?_, h.bel.setCell (by simp) _, Nat.le_trans h.size (by simp [World.setCell])⟩
  · have := h.c3.set (o := 0) (by simp) (.int .i64 0)
    simpa using this
  · refine h.row.aside (G := fun k => k = M + 2) (Aside.setCell _ _ rfl) fun k hk hg => ?_
    have := (h.row.lt k hk).1
    omega
/-- The pointers to the lists are laid down. -/
theorem W0.lists {N' : Nat} {zs : List Value} (h : W0 w wr M N B0 xs ys (.slice none 0 0) []) (hy : Cel wr N' zs) (hz : 0 < zs.length) (hN : B0 ≤ N') (hs : N' + 1 ≤ wr.heap.size) : W0 w wr M N' (N' + 1) xs zs (.slice none 0 0) [] := by
  have hm := h.hM
  exact ⟨h.x, h.xl, h.c2, h.c3, hy, hz, by omega, by omega, ⟨by omega, by omega⟩, OwnB.nil _ _, h.bel, hs⟩

/-- The bytes so far are laid in another row, and its slice is stored. -/
theorem W0.app (h : W0 w wr M N B0 xs ys bv b) {xv : Value} {l' : List UInt8} {lo hi : Nat} (hx : Sl wr lo hi xv (iz l')) (hb : b.length + l'.length ≤ 1000000) :
    ∃ a' c' w', (Builtin.append_ #[28, 28] 28 #[bv, xv]).run Tryz.prog wr = .ok (.slice a' (b.length + l'.length) c') w' ∧
      w'.cell? ⟨M + 1, 0, none⟩ = some bv ∧ (∀ j, w'.frozen? ⟨M + 1, j, none⟩ = false) ∧ W0 w (w'.setCell ⟨M + 1, 0, none⟩ (.slice a' (b.length + l'.length) c')) M N B0 xs ys (.slice a' (b.length + l'.length) c') (b ++ l') ∧
      ∀ p bm K e, Pk wr p bm K e → B0 ≤ p → B0 ≤ bm → Pk (w'.setCell ⟨M + 1, 0, none⟩ (.slice a' (b.length + l'.length) c')) p bm K e := by
  have hm := h.hM
  obtain ⟨a', c', w', h1, h2, ha⟩ := run_appBs B0 bv xv b l' h.row hx hb h.size
  have hlt := h.row.lt
  have hG : ∀ k, k < B0 → ¬ bv.ownBlock = some k := fun k hk hg => by have := (hlt k hg).1; omega
  have k2 := h.c2.aside (by simp) ha (hG _ (by omega))
  have k0 := h.x.aside h.xl ha (hG _ (by omega))
  have k3 := h.c3.aside (by simp) ha (hG _ (by omega))
  have k4 := h.y.aside h.yl ha (hG _ h.hN)
  refine ⟨a', c', w', h1, k2.c 0 (by simp), k2.fz, ⟨k0.other (by simp) _, h.xl, ?_, k3.other (by simp) _, k4.other (by simpa using h.ne.1.symm) _, h.yl, h.hN, hm, h.ne, ?_, ?_, ?_⟩, fun p bm K e hp p1 p2 => ?_⟩
  · have := k2.set (o := 0) (by simp) (.slice a' (b.length + l'.length) c')
    simpa using this
  · refine h2.aside (G := fun k => k = M + 1) (Aside.setCell _ _ rfl) fun k hk hg => ?_
    have := (h2.lt k hk).1
    omega
  · exact (below_aside h.bel ha fun k hk => ⟨Nat.lt_of_lt_of_le (by omega) h.size, hG k (by omega)⟩).setCell (by simp) _
  · exact Nat.le_trans h.size (Nat.le_trans ha.size (by simp [World.setCell]))
  · have := hp.aside ha (fun hg => pk_apart hp h.row p hg (.inl rfl)) (fun hg => pk_apart hp h.row bm hg (.inr rfl))
    exact this.aside (G := fun k => k = M + 1) (Aside.setCell _ _ rfl) (by omega) (by omega)
end

theorem cel_new1 (w : World) (a : Value) (T : TypeId) : Cel (w.alloc (.cells #[a] T)) w.heap.size [a] := ⟨fun j hj => by
    match j, hj with
    | 0, _ => simp [go_sem], fun j => by simp [go_sem]⟩

/-- How Write begins. -/
theorem W0.start {w : World} {M : Nat} (hM : w.heap.size = M) (i0 i1 q a n r : Value) : ∃ W1 W2 W3, w.alloc (.cells #[i0, i1, q, a, n, r] 25) = W1 ∧ W1.alloc (.cells #[.slice none 0 0] 28) = W2 ∧ W2.alloc (.cells #[.int .i64 0] 29) = W3 ∧
    W1.heap.size = M + 1 ∧ W2.heap.size = M + 2 ∧ W3.heap.size = M + 3 ∧ W0 w W3 M M (M + 3) [i0, i1, q, a, n, r] [i0, i1, q, a, n, r] (.slice none 0 0) [] := by
  refine ⟨_, _, _, rfl, rfl, rfl, by simp [hM], by simp [hM], by simp [hM], ?_⟩
  have hx := cel_new6 w i0 i1 q a n r 25
  have hy := cel_new1 (w.alloc (.cells #[i0, i1, q, a, n, r] 25)) (.slice none 0 0) 28
  have hz := cel_new1 ((w.alloc (.cells #[i0, i1, q, a, n, r] 25)).alloc (.cells #[.slice none 0 0] 28)) (.int .i64 0) 29
  simp only [World.size_alloc, hM] at hx hy hz
  have hx' := hx.below (by simp) (((Below.refl _ _).alloc (Nat.le_refl _) (.cells #[.slice none 0 0] 28)).alloc (by simp) (.cells #[.int .i64 0] 29))
  refine ⟨hx', by simp, ?_, hz, hx', by simp, by omega, by omega, ⟨by omega, by omega⟩, OwnB.nil _ _, ?_, by simp [hM]⟩
  · exact hy.below (by simp) ((Below.refl _ _).alloc (Nat.le_refl _) _)
  · rw [← hM]
    exact (((Below.refl _ _).alloc (Nat.le_refl _) _).alloc (by simp) _).alloc (by simp; omega) _

theorem oper_app_run {w w' : World} {v v' xv : Value} {ops : Array Oper} {o : Oper} {a : Act} {K : Act → World → Prop} {Q : Exit → Act → World → Prop} (s x : Operand) (t u : TypeId)
    (ho : o.op = .call { callee := .builtin .append, args := #[s, x], argTypes := #[t, u] }) (hgd : o.guard = .none) (hs : a.eval s = v) (hx : a.eval x = xv)
    (hrun : (Builtin.append_ #[t, u] o.type #[v, xv]).run Tryz.prog w = .ok v' w') (h : K (a.put o.dst v') w') : if Region.wanted o (yielded ops a.tmps) = true then Oper.wp Tryz.prog o a w K Q else K (a.put o.dst undef) w := by
  rw [if_pos (by simp [Region.wanted, hgd])]
  unfold Oper.wp
  simp [execOp, ho, resolve, invoke, builtin, hs, hx, hrun, Result.andThen]
  exact h

/-- What a function leaves hangs on its results' slots alone. -/
theorem leaves_of {P : Program} {fn : Func} {R : Ending → World → Prop} {tmps tmps' : Array Value} (h : ∀ w, (results fn tmps).run P w = (results fn tmps').run P w) : ∀ (ds : List Deferred) (u : FrameMode) (w : World), Leaves P fn tmps R ds u w → Leaves P fn tmps' R ds u w
  | [], .returning, w, ⟨v, h1, h2⟩ => ⟨v, (h w).symm.trans h1, h2⟩
  | [], .panicking chain, w, hl => hl
  | [], .run, w, hl => hl
  | d :: ds, u, w, ⟨hu, fv, cap, f, args, ht, hi, hc⟩ => ⟨hu, fv, cap, f, args, ht, hi, hc.mono fun e u' w' hr => by
      cases e with
      | returned v => exact leaves_of h ds _ _ hr
      | panicked ch => exact leaves_of h ds _ _ hr
      | outgrown => exact hr⟩

theorem wres_put (a : Act) (d : Option Nat) (v : Value) (hd : d ≠ some 2 ∧ d ≠ some 3) (w : World) : (results Tryz.f24 (a.put d v).tmps).run Tryz.prog w = (results Tryz.f24 a.tmps).run Tryz.prog w := by
  cases d with
  | none => rfl
  | some d =>
    have e2 : (a.tmps.setIfInBounds d v).getD 2 undef = a.tmps.getD 2 undef := by
      simp only [Array.getD_eq_getD_getElem?]
      rw [Array.getElem?_setIfInBounds_ne (by intro e; exact hd.1 (by rw [e]))]
    have e3 : (a.tmps.setIfInBounds d v).getD 3 undef = a.tmps.getD 3 undef := by
      simp only [Array.getD_eq_getD_getElem?]
      rw [Array.getElem?_setIfInBounds_ne (by intro e; exact hd.2 (by rw [e]))]
    show (results Tryz.f24 (a.tmps.setIfInBounds d v)).run Tryz.prog w = _
    simp [results, Tryz.results24, go_sem, -Array.getD_eq_getD_getElem?, e2, e3]
/-- A scratch slot of Write does not matter to how a panic goes. -/
theorem wq_put {R : Ending → World → Prop} {ch : List PanicEntry} {a : Act} {w : World} {d : Option Nat} {v : Value} (hd : d ≠ some 2 ∧ d ≠ some 3) (h : bodyPostD Tryz.prog Tryz.f24 R (.panic ch) (a.put d v) w) : bodyPostD Tryz.prog Tryz.f24 R (.panic ch) a w := by
  have h2 : Leaves Tryz.prog Tryz.f24 (a.put d v).tmps R (a.put d v).defers (.panicking ch) w := h
  have e : (a.put d v).defers = a.defers := by cases d <;> rfl
  rw [e] at h2
  exact leaves_of (fun w => wres_put a d v hd w) _ _ _ h2

/-- The deferred function, no error: nothing. -/
theorem wend_ok (g h : Nat) (w : World) (hp : w.cell? ⟨g, 0, none⟩ = some (.int .i64 0)) :
    CallsD Tryz.prog 50 #[.pointer (some ⟨g, 0, none⟩), .pointer (some ⟨h, 0, none⟩)] .returning w fun e u' w' => u' = .returning ∧ (e = .returned (.tuple #[]) ∧ w = w') := by
  refine callsD_of_wp Tryz.func50 rfl ?_
  simp only [Tryz.ntmps50, List.size_toArray, List.length_cons, List.length_nil, Nat.reduceAdd, Nat.reduceSub, Array.replicate_succ, Array.replicate_zero, List.push_toArray, List.append_toArray, List.nil_append, List.cons_append]
  go_wp2
  exact ⟨rfl, .tuple #[], by simp [results, Tryz.results50], rfl, rfl⟩
/-- The deferred function, an error: the bytes are nil. -/
theorem wend_bad (g h : Nat) (E : Int) (v : Value) (hE : E ≠ 0) (w : World) (hp : w.cell? ⟨g, 0, none⟩ = some (.int .i64 E)) (hq : w.cell? ⟨h, 0, none⟩ = some v) (hf : ∀ j, w.frozen? ⟨h, j, none⟩ = false) :
    CallsD Tryz.prog 50 #[.pointer (some ⟨g, 0, none⟩), .pointer (some ⟨h, 0, none⟩)] .returning w fun e u' w' => u' = .returning ∧ (e = .returned (.tuple #[]) ∧ w' = w.setCell ⟨h, 0, none⟩ (.slice none 0 0)) := by
  have tE : (E != 0) = true := by simpa using hE
  refine callsD_of_wp Tryz.func50 rfl ?_
  simp only [Tryz.ntmps50, List.size_toArray, List.length_cons, List.length_nil, Nat.reduceAdd, Nat.reduceSub, Array.replicate_succ, Array.replicate_zero, List.push_toArray, List.append_toArray, List.nil_append, List.cons_append]
  go_wp2
  exact ⟨rfl, .tuple #[], by simp [results, Tryz.results50], rfl, rfl⟩
end Go.Proofs.YteegekpanadmkaaGreat
