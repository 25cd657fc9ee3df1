/-
  A message of too many entries, or of too long names and data: BigMessage.
-/
import Derived.Test.YtdikgjbpjdnodaaGreatT19
import Derived.Test.YtdikgjbpjdnodaaGreatT21
import Derived.Test.YtdikgjbpjdnodaaGreatT27
import Derived.Test.YtdikgjbpjdnodaaGreatT26
import Derived.Test.YtdikgjbpjdnodaaGreatT16
import Derived.SizedLaws
namespace Go.Proofs.YtdikgjbpjdnodaaGreat
open Go.RowKit Go.Shelf
set_option linter.unusedVariables false
set_option linter.unusedSimpArgs false
set_option maxRecDepth 100000

def bigRm (M : Nat) (x : Rc) : Bool := decide (M < x.n.length) || decide (M < x.d.length)
def bigQm (M : Nat) (x : Qn) : Bool := decide (M < x.n.length)
/-- More than so many entries, or a name or data of more than so many bytes. -/
def bigMs (most M : Nat) (m : Ms) : Bool := decide (most < m.q.length + m.an.length + m.ns.length + m.ar.length) || (m.q.any (bigQm M) || (m.an.any (bigRm M) || (m.ns.any (bigRm M) || m.ar.any (bigRm M))))

set_option maxHeartbeats 2000000 in
theorem bigRs_any {w : World} {hi : Nat} {u : Value} {l : List Rc} (M : Nat) (hM : M ≤ 1000000) (h : SR w hi u l) (h1 : hi ≤ w.heap.size) :
    Calls Tryz.prog 51 #[u, .int .i64 M] w fun e w' => e = .returned (.bool (l.any (bigRm M))) ∧ w = w' := by
  obtain ⟨r, hr⟩ : ∃ r, l.any (bigRm M) = r := ⟨_, rfl⟩
  rw [hr]
  have HR := Lib.hid hr
  have HX := Lib.hid h
  have HN := Lib.hid (Lst.len h)
  obtain ⟨a, c, rfl⟩ := Lst.shape h
  clear hr h
  go_enter Tryz.func51, Tryz.ntmps51
  go_wp2
  go_loopg [5] l.length (fun k v5 wr => ∃ j : Nat, j + k = l.length ∧ v5 = .int .i64 j ∧ Hid ((l.take j).any (bigRm M) = false) ∧ w = wr)
  case atStart => exact ⟨0, by omega, rfl, by simp [Hid], rfl⟩
  case round =>
    obtain ⟨j, hj, rfl, HA, rfl⟩ := hrel
    have hlen := HN.out
    by_cases hlt : j < l.length
    · obtain ⟨b, off, c2, he, hb, c0, _, _, _, c4⟩ := HX.out.at_ j hlt
      injection he with he hn3 hc3
      clear hn3 hc3
      subst he
      have hany := HA.out
      have htk : l.take (j + 1) = l.take j ++ [l[j]] := by rw [List.take_add_one, List.getElem?_eq_getElem hlt]; rfl
      have HM := Lib.hid (List.getElem_mem hlt)
      obtain ⟨x, hx⟩ : ∃ x, l[j] = x := ⟨_, rfl⟩
      rw [hx] at c0 c4 htk HM
      obtain ⟨n, t, cl, tl, d⟩ := x
      simp only at c0 c4
      have hns : (bs n).size = n.length := bs_size n
      have hds : (bs d).size = d.length := bs_size d
      by_cases h1 : M < n.length
      · have HE := Lib.hid (show r = true by rw [← HR.out]; exact List.any_eq_true.mpr ⟨_, HM.out, by unfold bigRm; simp [h1]⟩)
        have t1 : decide ((M : Int) < n.length) = true := by simp; omega
        clear hany htk hx HA HM
        go_wp2_with fail
        go_ret
        exact ⟨by rw [HE.out]; rfl, rfl⟩
      · have t1 : decide ((M : Int) < n.length) = false := by simp; omega
        by_cases h2 : M < d.length
        · have HE := Lib.hid (show r = true by rw [← HR.out]; exact List.any_eq_true.mpr ⟨_, HM.out, by unfold bigRm; simp [h2]⟩)
          have t2 : decide ((M : Int) < d.length) = true := by simp; omega
          clear hany htk hx HA HM
          go_wp2_with fail
          go_ret
          exact ⟨by rw [HE.out]; rfl, rfl⟩
        · have t2 : decide ((M : Int) < d.length) = false := by simp; omega
          have HA2 := Lib.hid (show (l.take (j + 1)).any (bigRm M) = false by rw [htk, List.any_append, hany]; simp [bigRm]; omega)
          clear hany htk hx HA HM
          go_wp2_with fail
          go_roundg (l.length - (j + 1))
          case measure => omega
          case rel => exact ⟨j + 1, by omega, by go_num, HA2, rfl⟩
    · have hje : j = l.length := by omega
      have HE := Lib.hid (show r = false by
        rw [← HR.out]
        have := HA.out
        rw [List.take_of_length_le (by omega)] at this
        exact this)
      clear HA
      have t1 : ¬ ((j : Int) < l.length) := by omega
      go_wp2_with fail
      go_ret
      exact ⟨by rw [HE.out]; rfl, rfl⟩

set_option maxHeartbeats 4000000 in
theorem bigM_any {w : World} {hi : Nat} {u : Value} {m : Ms} (most M : Nat) (hmo : most ≤ 1000000) (hM : M ≤ 1000000) (h : Mg w hi u m) (h1 : hi ≤ w.heap.size) :
    Calls Tryz.prog 29 #[u, .int .i64 most, .int .i64 M] w (Tells w (.bool (bigMs most M m))) := by
  obtain ⟨q, a, n, r, rfl, hq, ha, hn, hr⟩ := h
  have HLQ := Lib.hid (Lst.len hq)
  have HLA := Lib.hid (Lst.len ha)
  have HLN := Lib.hid (Lst.len hn)
  have HLR := Lib.hid (Lst.len hr)
  have HCA := Lib.hid (fun wx (hb : Below w.heap.size w wx) => bigRs_any M hM (Lst.below ha hb h1) (Nat.le_trans h1 hb.size))
  have HCN := Lib.hid (fun wx (hb : Below w.heap.size w wx) => bigRs_any M hM (Lst.below hn hb h1) (Nat.le_trans h1 hb.size))
  have HCR := Lib.hid (fun wx (hb : Below w.heap.size w wx) => bigRs_any M hM (Lst.below hr hb h1) (Nat.le_trans h1 hb.size))
  have HQ := Lib.hid hq
  have HHI := Lib.hid h1
  obtain ⟨qa, qc, rfl⟩ := Lst.shape hq
  obtain ⟨aa, ac, rfl⟩ := Lst.shape ha
  obtain ⟨na, nc, rfl⟩ := Lst.shape hn
  obtain ⟨ra, rc, rfl⟩ := Lst.shape hr
  obtain ⟨i0, hi0⟩ : ∃ i, m.id = i := ⟨_, rfl⟩
  obtain ⟨f0, hf0⟩ : ∃ i, m.fl = i := ⟨_, rfl⟩
  obtain ⟨R, hR⟩ : ∃ r, bigMs most M m = r := ⟨_, rfl⟩
  rw [hi0, hf0, hR]
  unfold bigMs at hR
  obtain ⟨b1, hb1⟩ : ∃ r, m.an.any (bigRm M) = r := ⟨_, rfl⟩
  obtain ⟨b2, hb2⟩ : ∃ r, m.ns.any (bigRm M) = r := ⟨_, rfl⟩
  obtain ⟨b3, hb3⟩ : ∃ r, m.ar.any (bigRm M) = r := ⟨_, rfl⟩
  rw [hb1, hb2, hb3] at hR
  rw [hb1] at HCA
  rw [hb2] at HCN
  rw [hb3] at HCR
  obtain ⟨l, hlq⟩ : ∃ l, m.q = l := ⟨_, rfl⟩
  rw [hlq] at hR HQ HLQ ⊢
  obtain ⟨ln, hln⟩ : ∃ l, m.an.length = l := ⟨_, rfl⟩
  rw [hln] at hR HLA HCA ⊢
  obtain ⟨lm, hlm⟩ : ∃ l, m.ns.length = l := ⟨_, rfl⟩
  rw [hlm] at hR HLN HCN ⊢
  obtain ⟨lr, hlr⟩ : ∃ l, m.ar.length = l := ⟨_, rfl⟩
  rw [hlr] at hR HLR HCR ⊢
  have hb0 : Below w.heap.size w (w.alloc (.cells #[.int .i64 i0, .int .i64 f0, .slice qa l.length qc, .slice aa ln ac, .slice na lm nc, .slice ra lr rc] 25)) := (Below.refl _ _).alloc (Nat.le_refl _) _
  have HB := Lib.hid hb0
  have HX := Lib.hid (cel_new6 w (.int .i64 i0) (.int .i64 f0) (.slice qa l.length qc) (.slice aa ln ac) (.slice na lm nc) (.slice ra lr rc) 25)
  have HR := Lib.hid hR
  clear hb1 hb2 hb3 hlq hln hlm hlr hi0 hf0 hq ha hn hr h1 hb0 hR
  have g1 := HLQ.out
  have g2 := HLA.out
  have g3 := HLN.out
  have g4 := HLR.out
  by_cases hbig : most < l.length + ln + lm + lr
  · have t0 : decide ((most : Int) < (l.length : Int) + ln + lm + lr) = true := by simp; omega
    have HE := Lib.hid (show R = true by rw [← HR.out]; simp [hbig])
    go_enter Tryz.func29, Tryz.ntmps29
    go_wp2_with fail
    go_ret
    exact ⟨by rw [HE.out]; rfl, HB.out⟩
  · have t0 : decide ((most : Int) < (l.length : Int) + ln + lm + lr) = false := by simp; omega
    have e0 : decide (most < l.length + ln + lm + lr) = false := by simp; omega
    have HR2 := Lib.hid (show (l.any (bigQm M) || (b1 || (b2 || b3))) = R by rw [← HR.out, e0]; rfl)
    obtain ⟨W, hW⟩ : ∃ W, w.alloc (.cells #[.int .i64 i0, .int .i64 f0, .slice qa l.length qc, .slice aa ln ac, .slice na lm nc, .slice ra lr rc] 25) = W := ⟨_, rfl⟩
    obtain ⟨N, hN⟩ : ∃ N, w.heap.size = N := ⟨_, rfl⟩
    rw [hW] at HB HX
    rw [hN] at HX
    obtain ⟨c0, c1, c2, c3, c4, c5⟩ := HX.out.six
    clear e0 HR
    go_enter Tryz.func29, Tryz.ntmps29
    go_wp2_with fail
    clear t0 hbig
    go_loopg [7] l.length (fun k v7 wr => ∃ j : Nat, j + k = l.length ∧ v7 = .int .i64 j ∧ Hid ((l.take j).any (bigQm M) = false) ∧ W = wr)
    case atStart => exact ⟨0, by omega, rfl, by simp [Hid], by first | rfl | exact hW.symm⟩
    case round =>
      clear hW
      obtain ⟨j, hj, rfl, HA, rfl⟩ := hrel
      by_cases hlt : j < l.length
      · obtain ⟨b, off, cc, he, hb, hc⟩ := HQ.out.at_ j hlt
        obtain ⟨d0, d1, d2⟩ := hc.keep fun o => HB.out.cell (p := ⟨b, o, none⟩) (Nat.lt_of_lt_of_le hb HHI.out)
        injection he with he hn3 hc3
        clear hn3 hc3
        subst he
        have hany := HA.out
        have htk : l.take (j + 1) = l.take j ++ [l[j]] := by rw [List.take_add_one, List.getElem?_eq_getElem hlt]; rfl
        have HM := Lib.hid (List.getElem_mem hlt)
        obtain ⟨x, hx⟩ : ∃ x, l[j] = x := ⟨_, rfl⟩
        rw [hx] at d0 htk HM
        obtain ⟨n, t, cl⟩ := x
        simp only at d0
        have hns : (bs n).size = n.length := bs_size n
        by_cases h1 : M < n.length
        · have HE := Lib.hid (show R = true by rw [← HR2.out, show l.any (bigQm M) = true from List.any_eq_true.mpr ⟨_, HM.out, by unfold bigQm; simp [h1]⟩]; rfl)
          have t1 : decide ((M : Int) < n.length) = true := by simp; omega
          clear hany htk hx HA HM hc hb d1 d2
          go_wp2_with fail
          go_ret
          exact ⟨by rw [HE.out]; rfl, by rw [← hN] at *; exact HB.out⟩
        · have t1 : decide ((M : Int) < n.length) = false := by simp; omega
          have HA2 := Lib.hid (show (l.take (j + 1)).any (bigQm M) = false by rw [htk, List.any_append, hany]; simp [bigQm]; omega)
          clear hany htk hx HA HM hc hb d1 d2
          go_wp2_with fail
          go_roundg (l.length - (j + 1))
          case measure => omega
          case rel => exact ⟨j + 1, by omega, by go_num, HA2, rfl⟩
      · have hje : j = l.length := by omega
        have HE := Lib.hid (show (b1 || (b2 || b3)) = R by
          rw [← HR2.out]
          have := HA.out
          rw [List.take_of_length_le (by omega)] at this
          rw [this]
          rfl)
        clear HA
        have t1 : ¬ ((j : Int) < l.length) := by omega
        cases b1 with
        | true =>
          go_wp2_with fail
          refine (HCA.out _ HB.out).mono ?_; rintro e w1 ⟨rfl, rfl⟩
          go_wp2_with fail
          go_ret
          exact ⟨by rw [← HE.out]; rfl, HB.out⟩
        | false =>
          cases b2 with
          | true =>
            go_wp2_with fail
            refine (HCA.out _ HB.out).mono ?_; rintro e w1 ⟨rfl, rfl⟩
            go_wp2_with fail
            refine (HCN.out _ HB.out).mono ?_; rintro e w1 ⟨rfl, rfl⟩
            go_wp2_with fail
            go_ret
            exact ⟨by rw [← HE.out]; rfl, HB.out⟩
          | false =>
            go_wp2_with fail
            refine (HCA.out _ HB.out).mono ?_; rintro e w1 ⟨rfl, rfl⟩
            go_wp2_with fail
            refine (HCN.out _ HB.out).mono ?_; rintro e w1 ⟨rfl, rfl⟩
            go_wp2_with fail
            refine (HCR.out _ HB.out).mono ?_; rintro e w1 ⟨rfl, rfl⟩
            go_wp2_with fail
            go_ret
            exact ⟨by rw [← HE.out]; rfl, HB.out⟩

theorem bigMs_no {most M : Nat} {m : Ms} (h : bigMs most M m = false) : m.q.length + m.an.length + m.ns.length + m.ar.length ≤ most ∧ (∀ x ∈ m.q, x.n.length ≤ M) ∧ (∀ x ∈ m.an, x.n.length ≤ M ∧ x.d.length ≤ M) ∧ (∀ x ∈ m.ns, x.n.length ≤ M ∧ x.d.length ≤ M) ∧ (∀ x ∈ m.ar, x.n.length ≤ M ∧ x.d.length ≤ M) := by
  unfold bigMs at h
  simp only [Bool.or_eq_false_iff, List.any_eq_false, decide_eq_false_iff_not, Nat.not_lt] at h
  obtain ⟨h0, h1, h2, h3, h4⟩ := h
  have k : ∀ l : List Rc, (∀ x ∈ l, ¬ bigRm M x = true) → ∀ x ∈ l, x.n.length ≤ M ∧ x.d.length ≤ M := fun l hl x hx => by
    have := hl x hx
    unfold bigRm at this
    simp at this
    exact this
  refine ⟨h0, fun x hx => ?_, k _ h2, k _ h3, k _ h4⟩
  have := h1 x hx
  unfold bigQm at this
  simpa using this
end Go.Proofs.YtdikgjbpjdnodaaGreat

/-
  A message that is too big for a statement: ostiarylaw08.big.
-/
namespace Go.Proofs.YtdikgjbpjdnodaaGreat
open Go.RowKit Go.Shelf
set_option linter.unusedVariables false
set_option linter.unusedSimpArgs false
set_option maxRecDepth 100000

set_option maxHeartbeats 2000000 in
theorem bigL_any {w : World} {hi : Nat} {u : Value} {m : Ms} (h : Mg w hi u m) (h1 : hi ≤ w.heap.size) : Calls Tryz.prog 9 #[u] w (Tells w (.bool (bigMs 200 66000 m))) := by
  obtain ⟨q, a, n, r, rfl, hq, ha, hn, hr⟩ := h
  have hm : Mg w w.heap.size (.agg #[.int .i64 m.id, .int .i64 m.fl, q, a, n, r]) m := Mg.wide ⟨_, _, _, _, rfl, hq, ha, hn, hr⟩ h1
  obtain ⟨qa, qc, rfl⟩ := Lst.shape hq
  obtain ⟨aa, ac, rfl⟩ := Lst.shape ha
  obtain ⟨na, nc, rfl⟩ := Lst.shape hn
  obtain ⟨ra, rc, rfl⟩ := Lst.shape hr
  obtain ⟨i0, hi0⟩ : ∃ i, m.id = i := ⟨_, rfl⟩
  obtain ⟨f0, hf0⟩ : ∃ i, m.fl = i := ⟨_, rfl⟩
  rw [hi0, hf0] at hm ⊢
  obtain ⟨R, hR⟩ : ∃ r, bigMs 200 66000 m = r := ⟨_, rfl⟩
  rw [hR]
  have hb : Below w.heap.size w (w.alloc (.cells #[.int .i64 i0, .int .i64 f0, .slice qa m.q.length qc, .slice aa m.an.length ac, .slice na m.ns.length nc, .slice ra m.ar.length rc] 25)) := (Below.refl _ _).alloc (Nat.le_refl _) _
  have HB := Lib.hid hb
  have HM := Lib.hid (hm.later hb)
  clear hm hb hq ha hn hr h1
  go_enter Tryz.func9, Tryz.ntmps9
  go_wp2_with fail
  refine (bigM_any 200 66000 (by decide) (by decide) HM.out (Nat.le_refl _)).mono ?_; rw [hR]; rintro e w1 ⟨rfl, hb⟩
  replace HB := Lib.hid (bel_call HB.out hb)
  go_wp2_with fail
  go_ret
  exact ⟨rfl, HB.out⟩
end Go.Proofs.YtdikgjbpjdnodaaGreat

/-
  A message's bytes are the document's own: MsgWrites.
-/
namespace Go.Proofs.YtdikgjbpjdnodaaGreat
open Go.RowKit Go.Shelf
set_option linter.unusedVariables false
set_option linter.unusedSimpArgs false
set_option maxRecDepth 100000

theorem cel_y {wX w : World} {q Z : Nat} {l : List Value} (h : Cel wX q l) (hZ : wX.heap.size = Z) (hb : Below Z wX w) (h0 : 0 < l.length := by simp) : Cel w q l := h.below h0 (by rw [hZ]; exact hb)
theorem mg_y {wX w : World} {Z : Nat} {v : Value} {m : Ms} (h : Mg wX wX.heap.size v m) (hZ : wX.heap.size = Z) (hb : Below Z wX w) : Mg w Z v m := by rw [hZ] at h; exact h.below hb (Nat.le_refl _)
theorem big_fine {most : Nat} {m : Ms} {M : Nat} (hM : M ≤ 1000000) (h : bigMs most M m = false) : m.Fine := by
  obtain ⟨_, h1, h2, h3, h4⟩ := bigMs_no h
  exact ⟨fun x hx => Nat.le_trans (h1 x hx) hM, fun x hx => ⟨Nat.le_trans (h2 x hx).1 hM, Nat.le_trans (h2 x hx).2 hM⟩, fun x hx => ⟨Nat.le_trans (h3 x hx).1 hM, Nat.le_trans (h3 x hx).2 hM⟩, fun x hx => ⟨Nat.le_trans (h4 x hx).1 hM, Nat.le_trans (h4 x hx).2 hM⟩⟩

set_option maxHeartbeats 16000000 in
theorem writesM_any {w : World} {hi : Nat} {u : Value} {m : Ms} (h : Mg w hi u m) (h1 : hi ≤ w.heap.size) : Calls Tryz.prog 3 #[u] w (Tells w (.bool true)) := by
  have HAw := Lib.hid (fun wx => awakeM_any wx)
  obtain ⟨q, a, n, r, rfl, hq, ha, hn, hr⟩ := h
  obtain ⟨qa, qc, rfl⟩ := Lst.shape hq
  obtain ⟨aa, ac, rfl⟩ := Lst.shape ha
  obtain ⟨na, nc, rfl⟩ := Lst.shape hn
  obtain ⟨ra, rc, rfl⟩ := Lst.shape hr
  have hm : Mg w w.heap.size (.agg #[.int .i64 m.id, .int .i64 m.fl, .slice qa m.q.length qc, .slice aa m.an.length ac, .slice na m.ns.length nc, .slice ra m.ar.length rc]) m := Mg.wide ⟨_, _, _, _, rfl, hq, ha, hn, hr⟩ h1
  obtain ⟨i0, hi0⟩ : ∃ i, m.id = i := ⟨_, rfl⟩
  obtain ⟨f0, hf0⟩ : ∃ i, m.fl = i := ⟨_, rfl⟩
  obtain ⟨lq, hlq⟩ : ∃ i, m.q.length = i := ⟨_, rfl⟩
  obtain ⟨la, hla⟩ : ∃ i, m.an.length = i := ⟨_, rfl⟩
  obtain ⟨ln, hln⟩ : ∃ i, m.ns.length = i := ⟨_, rfl⟩
  obtain ⟨lr, hlr⟩ : ∃ i, m.ar.length = i := ⟨_, rfl⟩
  obtain ⟨R, hR⟩ : ∃ r, bigMs 200 66000 m = r := ⟨_, rfl⟩
  rw [hi0, hf0, hlq, hla, hln, hlr] at hm ⊢
  have hb : Below w.heap.size w (w.alloc (.cells #[.int .i64 i0, .int .i64 f0, .slice qa lq qc, .slice aa la ac, .slice na ln nc, .slice ra lr rc] 25)) := (Below.refl _ _).alloc (Nat.le_refl _) _
  have hx := cel_new6 w (.int .i64 i0) (.int .i64 f0) (.slice qa lq qc) (.slice aa la ac) (.slice na ln nc) (.slice ra lr rc) 25
  obtain ⟨N, hN⟩ : ∃ N, w.heap.size = N := ⟨_, rfl⟩
  rw [hN] at hx
  have HB := Lib.hid hb
  have HX := Lib.hid hx
  have HM := Lib.hid (hm.later hb)
  clear hq ha hn hr h1 hm hb hx
  go_enter Tryz.func3, Tryz.ntmps3
  go_wp2_with fail
  refine (bigL_any HM.out (Nat.le_refl _)).mono ?_; rw [hR]; rintro e w2 ⟨rfl, hb⟩
  replace HB := Lib.hid (bel_call HB.out hb)
  replace HX := Lib.hid (HX.out.below (by simp) hb)
  replace HM := Lib.hid (HM.out.later hb)
  clear hb
  cases R with
  | true =>
    go_wp2_with fail
    go_ret
    exact ⟨rfl, HB.out⟩
  | false =>
    have HTOT := Lib.hid (bigMs_no hR).1
    have HF := Lib.hid (big_fine (by decide) hR)
    obtain ⟨c0, c1, c2, c3, c4, c5⟩ := HX.out.six
    go_wp2_with fail
    clear c0 c1 c2 c3 c4 c5
    refine (copyM_any HM.out (Nat.le_refl _) (Nat.le_trans HTOT.out (by decide))).mono ?_; rintro e w3 ⟨vin, rfl, hcp, hb⟩
    replace HB := Lib.hid (bel_call HB.out hb)
    replace HX := Lib.hid (HX.out.below (by simp) hb)
    replace HM := Lib.hid (HM.out.later hb)
    obtain ⟨B3, hB3⟩ : ∃ B, w2.heap.size = B := ⟨_, rfl⟩
    rw [hB3] at hcp
    clear hb hB3
    have HC := Lib.hid hcp
    obtain ⟨q1, a1, n1, r1, rfl, ⟨qa1, qc1, rfl, _⟩, ⟨aa1, ac1, rfl, _⟩, ⟨na1, nc1, rfl, _⟩, ⟨ra1, rc1, rfl, _⟩⟩ := hcp
    rw [hi0, hf0, hlq, hla, hln, hlr] at HC ⊢
    have hb : Below w3.heap.size w3 (w3.alloc (.cells #[.int .i64 i0, .int .i64 f0, .slice qa1 lq qc1, .slice aa1 la ac1, .slice na1 ln nc1, .slice ra1 lr rc1] 25)) := (Below.refl _ _).alloc (Nat.le_refl _) _
    have hy := cel_new6 w3 (.int .i64 i0) (.int .i64 f0) (.slice qa1 lq qc1) (.slice aa1 la ac1) (.slice na1 ln nc1) (.slice ra1 lr rc1) 25
    obtain ⟨gi, hgi⟩ : ∃ N, w3.heap.size = N := ⟨_, rfl⟩
    rw [hgi] at hy
    replace HB := Lib.hid (bel_call HB.out hb)
    replace HX := Lib.hid (HX.out.below (by simp) hb)
    replace HM := Lib.hid (HM.out.later hb)
    replace HC := Lib.hid (HC.out.below hb)
    have HI := Lib.hid hy
    clear hb hy
    obtain ⟨c0, c1, c2, c3, c4, c5⟩ := HX.out.six
    obtain ⟨d0, d1, d2, d3, d4, d5⟩ := HI.out.six
    go_wp2_with fail
    clear c0 c1 c2 c3 c4 c5 d0 d1 d2 d3 d4 d5 hgi
    obtain ⟨wX, hwX⟩ : ∃ X, w3.alloc (.cells #[.int .i64 i0, .int .i64 f0, .slice qa1 lq qc1, .slice aa1 la ac1, .slice na1 ln nc1, .slice ra1 lr rc1] 25) = X := ⟨_, rfl⟩
    rw [hwX] at HB HX HM HC HI ⊢
    clear hwX
    clear hlq hla hln hlr hi0 hf0 hN
    obtain ⟨Z, hZ⟩ : ∃ Z, wX.heap.size = Z := ⟨_, rfl⟩
    have HZE := Lib.hid hZ
    obtain ⟨wc, hwc⟩ : ∃ X, wX = X := ⟨_, rfl⟩
    have HZZ := Lib.hid (show Below Z wX wc by rw [← hwc]; exact Below.refl _ _)
    have HWS := Lib.hid (show Z ≤ wc.heap.size by rw [← hwc, HZE.out]; exact Nat.le_refl _)
    rw [show (wX : World) = wc from hwc]
    have HMI := Lib.hid (HC.out.mg (Nat.le_trans HTOT.out (by decide)))
    clear hZ hwc
    obtain ⟨R, hR2⟩ : ∃ x, wrM m = x := ⟨_, rfl⟩
    have hwa := fun wx (hm : Mg wx Z (.agg #[.int .i64 i0, .int .i64 f0, .slice qa1 lq qc1, .slice aa1 la ac1, .slice na1 ln nc1, .slice ra1 lr rc1]) m) (hs : Z ≤ wx.heap.size) => writeM_any hm hs HF.out (Nat.le_trans HTOT.out (by decide))
    have hwb := fun wx (hm : Mg wx Z (.agg #[.int .i64 i0, .int .i64 f0, .slice qa lq qc, .slice aa la ac, .slice na ln nc, .slice ra lr rc]) m) (hs : Z ≤ wx.heap.size) => rwriteM_any hm hs HF.out (Nat.le_trans HTOT.out (by decide))
    rw [hR2] at hwa hwb
    obtain ⟨Ob, Cd⟩ := R
    unfold MWPost at hwa hwb
    simp only at hwa hwb
    obtain ⟨bl, hbl⟩ : ∃ x, Ob.getD [] = x := ⟨_, rfl⟩
    rw [hbl] at hwa hwb
    have HWA := Lib.hid hwa
    have HWB := Lib.hid hwb
    obtain ⟨E, hE⟩ : ∃ x, chkM m = x := ⟨_, rfl⟩
    have hca := fun wx (hm : Mg wx Z (.agg #[.int .i64 i0, .int .i64 f0, .slice qa1 lq qc1, .slice aa1 la ac1, .slice na1 ln nc1, .slice ra1 lr rc1]) m) (hs : Z ≤ wx.heap.size) => checkM_any hm hs HF.out
    have hcb := fun wx (hm : Mg wx Z (.agg #[.int .i64 i0, .int .i64 f0, .slice qa lq qc, .slice aa la ac, .slice na ln nc, .slice ra lr rc]) m) (hs : Z ≤ wx.heap.size) => rcheckM_any hm hs HF.out (Nat.le_trans HTOT.out (by decide))
    rw [hE] at hca hcb
    have HCA := Lib.hid hca
    have HCB := Lib.hid hcb
    clear hwa hwb hca hcb hE hR2 hbl hR
    refine (HWA.out _ (mg_y HMI.out HZE.out HZZ.out) HWS.out).mono ?_; rintro e w4 ⟨va, rfl, hoA, hb⟩
    have HOA := Lib.hid (hoA.mono HWS.out)
    replace HZZ := Lib.hid (below_aside HZZ.out (Aside.of_all hb : Aside (fun _ => False) _ _) (fun k hk => ⟨Nat.lt_of_lt_of_le hk HWS.out, id⟩))
    replace HWS := Lib.hid (Nat.le_trans HWS.out hb.size)
    clear hb hoA
    obtain ⟨c0, c1, c2, c3, c4, c5⟩ := (cel_y HX.out HZE.out HZZ.out).six
    obtain ⟨d0, d1, d2, d3, d4, d5⟩ := (cel_y HI.out HZE.out HZZ.out).six
    go_wp2_with fail
    clear c0 c1 c2 c3 c4 c5 d0 d1 d2 d3 d4 d5
    refine (HWB.out _ (mg_y HM.out HZE.out HZZ.out) HWS.out).mono ?_; rintro e w5 ⟨vb, rfl, hoB, hb⟩
    have HOB := Lib.hid (hoB.mono HWS.out)
    replace HOA := Lib.hid (HOA.out.below hb)
    replace HZZ := Lib.hid (below_aside HZZ.out (Aside.of_all hb : Aside (fun _ => False) _ _) (fun k hk => ⟨Nat.lt_of_lt_of_le hk HWS.out, id⟩))
    replace HWS := Lib.hid (Nat.le_trans HWS.out hb.size)
    clear hb hoB
    go_wp2_with fail
    replace HZZ := Lib.hid (HZZ.out.drew)
    replace HOA := Lib.hid (HOA.out.below (Below.refl _ _).drew)
    replace HOB := Lib.hid (HOB.out.below (Below.refl _ _).drew)
    obtain ⟨wc2, hwc2⟩ : ∃ X, w5.drew = X := ⟨_, rfl⟩
    replace HWS := Lib.hid (show Z ≤ wc2.heap.size by rw [← hwc2]; exact HWS.out)
    rw [hwc2] at HZZ HOA HOB
    refine wp_region_held_drew (S := (fun wx => (wx.cell? ⟨N, 0, none⟩ = some (.int .i64 i0) ∧ wx.cell? ⟨N, 1, none⟩ = some (.int .i64 f0) ∧ wx.cell? ⟨N, 2, none⟩ = some (.slice qa lq qc) ∧ wx.cell? ⟨N, 3, none⟩ = some (.slice aa la ac) ∧ wx.cell? ⟨N, 4, none⟩ = some (.slice na ln nc) ∧ wx.cell? ⟨N, 5, none⟩ = some (.slice ra lr rc)) ∧ wx.cell? ⟨gi, 0, none⟩ = some (.int .i64 i0) ∧ wx.cell? ⟨gi, 1, none⟩ = some (.int .i64 f0) ∧ wx.cell? ⟨gi, 2, none⟩ = some (.slice qa1 lq qc1) ∧ wx.cell? ⟨gi, 3, none⟩ = some (.slice aa1 la ac1) ∧ wx.cell? ⟨gi, 4, none⟩ = some (.slice na1 ln nc1) ∧ wx.cell? ⟨gi, 5, none⟩ = some (.slice ra1 lr rc1))) (by kernel_rfl) (by rw [hwc2]; exact ⟨(cel_y HX.out HZE.out HZZ.out).six, (cel_y HI.out HZE.out HZZ.out).six⟩) (fun hHeld => ?_)
    refine wpAnyH_take (i := 0) (oi := { dst := some 23, op := Op.load 25 (Operand.tmp 3), type := 25, pos := "law.go:22", after := #[], guard := none }) (v := ?_) rfl (by kernel_rfl) (by kernel_rfl) (by kernel_rfl) (fun _ _ _ h => h) (Or.inl ⟨by rfl, ?_⟩) (by assumption) ?_
    rotate_left 1
    · intro w hSw; (try dsimp only at hSw); go_simp; try (with_reducible rfl)
    try simp only [Act.put, List.setIfInBounds_toArray, List.set_cons_zero, List.set_cons_succ]
    refine wpAnyH_take (i := 2) (oi := { dst := some 25, op := Op.load 25 (Operand.tmp 1), type := 25, pos := "law.go:22", after := #[], guard := none }) (v := ?_) rfl (by kernel_rfl) (by kernel_rfl) (by kernel_rfl) (fun _ _ _ h => h) (Or.inl ⟨by rfl, ?_⟩) (by assumption) ?_
    rotate_left 1
    · intro w hSw; (try dsimp only at hSw); go_simp; try (with_reducible rfl)
    try simp only [Act.put, List.setIfInBounds_toArray, List.set_cons_zero, List.set_cons_succ]
    refine wpAnyH_ready (rs := [1]) (by kernel_rfl) (by simp) ?_
    refine AllReadyH.cons (o := { dst := some 24, op := Op.call { callee := Callee.value (Operand.func 13), args := #[Operand.tmp 23], argTypes := #[25] }, type := 29, pos := "law.go:22", after := #[{ on := 0, ground := Ground.data }], guard := none }) rfl (fun K hK => ?_) (AllReadyH.nil)
    go_simp
    refine (HCA.out _ (mg_y HMI.out HZE.out HZZ.out) HWS.out).mono ?_; rintro e0 wc2 ⟨rfl, hb⟩
    replace HZZ := Lib.hid (below_aside HZZ.out (Aside.of_all hb : Aside (fun _ => False) _ _) (fun k hk => ⟨Nat.lt_of_lt_of_le hk HWS.out, id⟩))
    replace HWS := Lib.hid (Nat.le_trans HWS.out hb.size)
    replace HOA := Lib.hid (HOA.out.below hb)
    replace HOB := Lib.hid (HOB.out.below hb)
    clear hb
    focus (try go_wp2_with fail)
    refine hK.out _ _ ⟨(cel_y HX.out HZE.out HZZ.out).six, (cel_y HI.out HZE.out HZZ.out).six⟩ (fun hHeld => ?_)
    clear hK K
    try simp only [Act.put, List.setIfInBounds_toArray, List.set_cons_zero, List.set_cons_succ]
    refine wpAnyH_ready (rs := [3]) (by kernel_rfl) (by simp) ?_
    refine AllReadyH.cons (o := { dst := some 26, op := Op.call { callee := Callee.value (Operand.func 14), args := #[Operand.tmp 25], argTypes := #[25] }, type := 29, pos := "law.go:22", after := #[{ on := 2, ground := Ground.data }, { on := 1, ground := Ground.chain }], guard := none }) rfl (fun K hK => ?_) (AllReadyH.nil)
    go_simp
    refine (HCB.out _ (mg_y HM.out HZE.out HZZ.out) HWS.out).mono ?_; rintro e0 wc2 ⟨rfl, hb⟩
    replace HZZ := Lib.hid (below_aside HZZ.out (Aside.of_all hb : Aside (fun _ => False) _ _) (fun k hk => ⟨Nat.lt_of_lt_of_le hk HWS.out, id⟩))
    replace HWS := Lib.hid (Nat.le_trans HWS.out hb.size)
    replace HOA := Lib.hid (HOA.out.below hb)
    replace HOB := Lib.hid (HOB.out.below hb)
    clear hb
    focus (try go_wp2_with fail)
    refine hK.out _ _ ⟨(cel_y HX.out HZE.out HZZ.out).six, (cel_y HI.out HZE.out HZZ.out).six⟩ (fun hHeld => ?_)
    clear hK K
    try simp only [Act.put, List.setIfInBounds_toArray, List.set_cons_zero, List.set_cons_succ]
    refine wpAnyH_take (i := 4) (oi := { dst := some 27, op := Op.binOp BinOp.eql 29 (Operand.tmp 24) (Operand.tmp 26) 29, type := 4, pos := "law.go:22", after := #[{ on := 1, ground := Ground.data }, { on := 3, ground := Ground.data }], guard := none }) (v := (.bool true)) rfl (by kernel_rfl) (by kernel_rfl) (by kernel_rfl) (fun _ _ _ h => h) (Or.inl ⟨by rfl, ?_⟩) (by assumption) ?_
    · intro w hSw; (try dsimp only at hSw); go_simp; skip
    try simp only [Act.put, List.setIfInBounds_toArray, List.set_cons_zero, List.set_cons_succ]
    refine wpAnyH_take (i := 5) (oi := { dst := some 28, op := Op.move (Operand.tmp 27), type := 4, pos := "law.go:22", after := #[{ on := 4, ground := Ground.data }, { on := 3, ground := Ground.chain }], guard := none }) (v := ?_) rfl (by kernel_rfl) (by kernel_rfl) (by kernel_rfl) (fun _ _ _ h => h) (Or.inl ⟨by rfl, ?_⟩) (by assumption) ?_
    rotate_left 1
    · intro w hSw; (try dsimp only at hSw); go_simp; try (with_reducible rfl)
    try simp only [Act.put, List.setIfInBounds_toArray, List.set_cons_zero, List.set_cons_succ]
    refine wpAnyH_take (i := 6) (oi := { dst := some 29, op := Op.move (Operand.tmp 4), type := 28, pos := "law.go:22", after := #[{ on := 5, ground := Ground.guard }], guard := some (5, true) }) (v := ?_) rfl (by kernel_rfl) (by kernel_rfl) (by kernel_rfl) (fun _ _ _ h => h) (Or.inl ⟨by rfl, ?_⟩) (by assumption) ?_
    rotate_left 1
    · intro w hSw; (try dsimp only at hSw); go_simp; try (with_reducible rfl)
    try simp only [Act.put, List.setIfInBounds_toArray, List.set_cons_zero, List.set_cons_succ]
    refine wpAnyH_take (i := 7) (oi := { dst := some 30, op := Op.move (Operand.tmp 6), type := 28, pos := "law.go:22", after := #[{ on := 5, ground := Ground.guard }], guard := some (5, true) }) (v := ?_) rfl (by kernel_rfl) (by kernel_rfl) (by kernel_rfl) (fun _ _ _ h => h) (Or.inl ⟨by rfl, ?_⟩) (by assumption) ?_
    rotate_left 1
    · intro w hSw; (try dsimp only at hSw); go_simp; try (with_reducible rfl)
    try simp only [Act.put, List.setIfInBounds_toArray, List.set_cons_zero, List.set_cons_succ]
    refine wpAnyH_ready (rs := [8]) (by kernel_rfl) (by simp) ?_
    refine AllReadyH.cons (o := { dst := some 31, op := Op.call { callee := Callee.value (Operand.func 15), args := #[Operand.tmp 29, Operand.tmp 30], argTypes := #[28, 28] }, type := 4, pos := "law.go:22", after := #[{ on := 6, ground := Ground.data }, { on := 7, ground := Ground.data }, { on := 5, ground := Ground.chain }, { on := 5, ground := Ground.guard }], guard := some (5, true) }) rfl (fun K hK => ?_) (AllReadyH.nil)
    go_simp
    refine (same_any HOA.out.sl HOB.out.sl).mono ?_; rintro e0 w6 ⟨rfl, rfl⟩
    focus (try go_wp2_with fail)
    refine hK.out _ _ ⟨(cel_y HX.out HZE.out HZZ.out).six, (cel_y HI.out HZE.out HZZ.out).six⟩ (fun hHeld => ?_)
    clear hK K
    try simp only [Act.put, List.setIfInBounds_toArray, List.set_cons_zero, List.set_cons_succ]
    refine wpAnyH_take (i := 9) (oi := { dst := some 32, op := Op.pick (Operand.tmp 28) (Operand.tmp 31) (Operand.const (Value.bool false)), type := 4, pos := "law.go:22", after := #[{ on := 5, ground := Ground.data }, { on := 8, ground := Ground.data }], guard := none }) (v := ?_) rfl (by kernel_rfl) (by kernel_rfl) (by kernel_rfl) (fun _ _ _ h => h) (Or.inl ⟨by rfl, ?_⟩) (by assumption) ?_
    rotate_left 1
    · intro w hSw; (try dsimp only at hSw); go_simp; try (with_reducible rfl)
    try simp only [Act.put, List.setIfInBounds_toArray, List.set_cons_zero, List.set_cons_succ]
    refine wpAnyH_take (i := 10) (oi := { dst := some 33, op := Op.move (Operand.tmp 32), type := 4, pos := "law.go:22", after := #[{ on := 9, ground := Ground.data }, { on := 8, ground := Ground.chain }], guard := none }) (v := ?_) rfl (by kernel_rfl) (by kernel_rfl) (by kernel_rfl) (fun _ _ _ h => h) (Or.inl ⟨by rfl, ?_⟩) (by assumption) ?_
    rotate_left 1
    · intro w hSw; (try dsimp only at hSw); go_simp; try (with_reducible rfl)
    try simp only [Act.put, List.setIfInBounds_toArray, List.set_cons_zero, List.set_cons_succ]
    refine wpAnyH_take (i := 11) (oi := { dst := some 34, op := Op.move (Operand.tmp 5), type := 29, pos := "law.go:22", after := #[{ on := 10, ground := Ground.guard }], guard := some (10, true) }) (v := ?_) rfl (by kernel_rfl) (by kernel_rfl) (by kernel_rfl) (fun _ _ _ h => h) (Or.inl ⟨by rfl, ?_⟩) (by assumption) ?_
    rotate_left 1
    · intro w hSw; (try dsimp only at hSw); go_simp; try (with_reducible rfl)
    try simp only [Act.put, List.setIfInBounds_toArray, List.set_cons_zero, List.set_cons_succ]
    refine wpAnyH_take (i := 12) (oi := { dst := some 35, op := Op.move (Operand.tmp 7), type := 29, pos := "law.go:22", after := #[{ on := 10, ground := Ground.guard }], guard := some (10, true) }) (v := ?_) rfl (by kernel_rfl) (by kernel_rfl) (by kernel_rfl) (fun _ _ _ h => h) (Or.inl ⟨by rfl, ?_⟩) (by assumption) ?_
    rotate_left 1
    · intro w hSw; (try dsimp only at hSw); go_simp; try (with_reducible rfl)
    try simp only [Act.put, List.setIfInBounds_toArray, List.set_cons_zero, List.set_cons_succ]
    refine wpAnyH_take (i := 13) (oi := { dst := some 36, op := Op.binOp BinOp.eql 29 (Operand.tmp 34) (Operand.tmp 35) 29, type := 4, pos := "law.go:22", after := #[{ on := 11, ground := Ground.data }, { on := 12, ground := Ground.data }, { on := 10, ground := Ground.guard }], guard := some (10, true) }) (v := (.bool true)) rfl (by kernel_rfl) (by kernel_rfl) (by kernel_rfl) (fun _ _ _ h => h) (Or.inl ⟨by rfl, ?_⟩) (by assumption) ?_
    · intro w hSw; (try dsimp only at hSw); go_simp; skip
    try simp only [Act.put, List.setIfInBounds_toArray, List.set_cons_zero, List.set_cons_succ]
    refine wpAnyH_take (i := 14) (oi := { dst := some 37, op := Op.pick (Operand.tmp 33) (Operand.tmp 36) (Operand.const (Value.bool false)), type := 4, pos := "law.go:22", after := #[{ on := 10, ground := Ground.data }, { on := 13, ground := Ground.data }], guard := none }) (v := ?_) rfl (by kernel_rfl) (by kernel_rfl) (by kernel_rfl) (fun _ _ _ h => h) (Or.inl ⟨by rfl, ?_⟩) (by assumption) ?_
    rotate_left 1
    · intro w hSw; (try dsimp only at hSw); go_simp; try (with_reducible rfl)
    try simp only [Act.put, List.setIfInBounds_toArray, List.set_cons_zero, List.set_cons_succ]
    refine wpAnyH_take (i := 15) (oi := { dst := some 8, op := Op.assign (Operand.tmp 37), type := 4, pos := "law.go:22", after := #[{ on := 14, ground := Ground.data }, { on := 10, ground := Ground.chain }, { on := 0, ground := Ground.phase }, { on := 1, ground := Ground.phase }, { on := 2, ground := Ground.phase }, { on := 3, ground := Ground.phase }, { on := 4, ground := Ground.phase }, { on := 5, ground := Ground.phase }, { on := 6, ground := Ground.phase }, { on := 7, ground := Ground.phase }, { on := 8, ground := Ground.phase }, { on := 9, ground := Ground.phase }, { on := 10, ground := Ground.phase }, { on := 11, ground := Ground.phase }, { on := 12, ground := Ground.phase }, { on := 13, ground := Ground.phase }, { on := 14, ground := Ground.phase }], guard := none }) (v := ?_) rfl (by kernel_rfl) (by kernel_rfl) (by kernel_rfl) (fun _ _ _ h => h) (Or.inl ⟨by rfl, ?_⟩) (by assumption) ?_
    rotate_left 1
    · intro w hSw; (try dsimp only at hSw); go_simp; try (with_reducible rfl)
    try simp only [Act.put, List.setIfInBounds_toArray, List.set_cons_zero, List.set_cons_succ]
    refine wpAnyH_done (by kernel_rfl) ?_ _
    clear hHeld
    clear hwc2
    go_wp2_with fail
    refine (over_B HOA.out).mono ?_; rintro e w7 ⟨rfl, hst⟩
    replace HZZ := Lib.hid (below_aside HZZ.out hst (fun k hk => ⟨Nat.lt_of_lt_of_le hk HWS.out, fun hg => by omega⟩))
    replace HWS := Lib.hid (Nat.le_trans HWS.out hst.size)
    clear hst HOA HOB
    obtain ⟨c0, c1, c2, c3, c4, c5⟩ := (cel_y HX.out HZE.out HZZ.out).six
    obtain ⟨d0, d1, d2, d3, d4, d5⟩ := (cel_y HI.out HZE.out HZZ.out).six
    go_wp2_with fail
    clear c0 c1 c2 c3 c4 c5 d0 d1 d2 d3 d4 d5
    refine (keptM_any (HC.out.below (by rw [HZE.out]; exact HZZ.out)) (mg_y HM.out HZE.out HZZ.out) HWS.out (Nat.le_trans HTOT.out (by decide))).mono ?_; rintro e w8 ⟨rfl, hb⟩
    replace HZZ := Lib.hid (below_aside HZZ.out (Aside.of_all hb : Aside (fun _ => False) _ _) (fun k hk => ⟨Nat.lt_of_lt_of_le hk HWS.out, id⟩))
    replace HWS := Lib.hid (Nat.le_trans HWS.out hb.size)
    clear hb
    go_wp2_with fail
    refine (HAw.out _).mono ?_; rintro e w9 ⟨rfl, hb⟩
    replace HZZ := Lib.hid (below_aside HZZ.out (Aside.of_all hb : Aside (fun _ => False) _ _) (fun k hk => ⟨Nat.lt_of_lt_of_le hk HWS.out, id⟩))
    replace HWS := Lib.hid (Nat.le_trans HWS.out hb.size)
    clear hb
    go_wp2_with fail
    go_ret
    exact ⟨rfl, bel_call HB.out (by rw [HZE.out]; exact HZZ.out)⟩
end Go.Proofs.YtdikgjbpjdnodaaGreat

/-
  Messages that came in.
-/
namespace Go.Proofs.YtdikgjbpjdnodaaGreat
open Go.RowKit Go.Shelf
set_option linter.unusedVariables false
set_option linter.unusedSimpArgs false
set_option maxRecDepth 100000

theorem flat_of {α : Type} {f : α → List Value} {k : Nat} (hf : ∀ x, (f x).length = k) : ∀ (l : List α) (i : Nat) (u : Value), (l.flatMap f)[i]? = some u → ∃ j r, ∃ h : j < l.length, i = j * k + r ∧ (f l[j])[r]? = some u
  | [], i, u, h => by simp at h
  | x :: l, i, u, h => by
    rw [List.flatMap_cons] at h
    by_cases hi : i < k
    · rw [List.getElem?_append_left (by rw [hf]; exact hi)] at h
      exact ⟨0, i, by simp, by omega, h⟩
    · rw [List.getElem?_append_right (by rw [hf]; omega), hf] at h
      obtain ⟨j, r, h1, h2, h3⟩ := flat_of hf l _ u h
      exact ⟨j + 1, r, by simpa using h1, by rw [Nat.add_mul]; omega, h3⟩

/-- What is known of a slice of questions, of records that came in. -/
def IsQs (w : World) (a : Option Addr) (len cap : Nat) : Prop :=
  (a = none ∧ len = 0 ∧ cap = 0) ∨ ∃ x, a = some x ∧ ∀ i, i < len → ∃ (s : ByteArray) (t c : Int), w.cell? (x.add (i * 3)) = some (.string s) ∧ w.cell? (x.add (i * 3 + 1)) = some (.int .i64 t) ∧ w.cell? (x.add (i * 3 + 2)) = some (.int .i64 c)
def IsRs (w : World) (a : Option Addr) (len cap : Nat) : Prop :=
  (a = none ∧ len = 0 ∧ cap = 0) ∨ ∃ x, a = some x ∧ ∀ i, i < len → ∃ (s : ByteArray) (t c l : Int) (d : ByteArray), w.cell? (x.add (i * 5)) = some (.string s) ∧ w.cell? (x.add (i * 5 + 1)) = some (.int .i64 t) ∧ w.cell? (x.add (i * 5 + 2)) = some (.int .i64 c) ∧ w.cell? (x.add (i * 5 + 3)) = some (.int .i64 l) ∧ w.cell? (x.add (i * 5 + 4)) = some (.string d)

theorem cells_qn : Tryz.prog.cellsOf 56 = 3 := by kernel_rfl
theorem cells_msg : Tryz.prog.cellsOf 25 = 6 := by kernel_rfl
theorem cells_sqn : Tryz.prog.cellsOf 22 = 1 := by kernel_rfl
theorem cells_src : Tryz.prog.cellsOf 23 = 1 := by kernel_rfl
theorem bytes_qn : Tryz.prog.bytesOf 56 = 32 := by kernel_rfl
theorem bytes_rc : Tryz.prog.bytesOf 78 = 56 := by kernel_rfl

theorem open_qn {H : Type} {enc : TypeId × Value → H} {w : World} {base fuel : Nat} {spare : Nat → Bool} {held : Bool} {cs : List Value} {x : DataW H × List MemPlace}
    (h : DataW.trod enc Tryz.prog w base spare held fuel 56 cs = some x) (hl : cs.length = 3) : ∃ (s : ByteArray) (t c : Int), cs = [.string s, .int .i64 t, .int .i64 c] := by
  cases fuel with
  | zero => simp [DataW.trod] at h
  | succ fuel =>
    obtain ⟨xs, k, _, _, _, h9, h10⟩ := DataW.trod_struct Tryz.underlying56 h
    match cs, hl with
    | [v0, v1, v2], _ =>
      have g0 := h10 0 _ rfl
      have g1 := h10 1 _ rfl
      have g2 := h10 2 _ rfl
      match xs, h9 with
      | [y0, y1, y2], _ =>
        simp [cellsC_str, cellsC_int] at g0 g1 g2
        obtain ⟨s, k0, _, _⟩ := DataW.trod_string Tryz.underlying9 g0
        obtain ⟨t, k1, _, _⟩ := DataW.trod_int Tryz.underlying3 g1
        obtain ⟨c, k2, _, _⟩ := DataW.trod_int Tryz.underlying3 g2
        injection k0 with k0 _
        injection k1 with k1 _
        injection k2 with k2 _
        subst k0; subst k1; subst k2
        exact ⟨s, t, c, rfl⟩

theorem open_qs {H : Type} {enc : TypeId × Value → H} {w : World} {base fuel : Nat} {spare : Nat → Bool} {held : Bool} {cs : List Value} {x : DataW H × List MemPlace}
    (h : DataW.trod enc Tryz.prog w base spare held fuel 22 cs = some x) (hw : ∀ n ∈ x.1.weights Tryz.prog 22, n ≤ reachBytes) :
    ∃ a len cap, cs = [.slice a len cap] ∧ IsQs w a len cap ∧ len ≤ 140737488351232 := by
  rcases Deep.open_slice Tryz.underlying22 h with ⟨h1, _⟩ | ⟨b, l, c, m, n, D, Pl, h1, _, h2, _, h3, h5, h4⟩
  · exact ⟨none, 0, 0, h1, .inl ⟨rfl, rfl, rfl⟩, by omega⟩
  · have hm : l ≤ m := by rw [h3]; split <;> omega
    refine ⟨some b, l, c, h1, .inr ⟨b, rfl, fun i hi => ?_⟩, ?_⟩
    · obtain ⟨cs', h6, h7⟩ := h4 i (by omega)
      rw [cells_qn] at h6
      obtain ⟨_, h8, h9⟩ := World.cells?_some h6
      obtain ⟨s, t, c, rfl⟩ := open_qn h7 h8
      have c0 := h9 0 (by omega)
      have c1 := h9 1 (by omega)
      have c2 := h9 2 (by omega)
      rw [Deep.add_add] at c0 c1 c2
      exact ⟨s, t, c, by simpa using c0, by simpa using c1, by simpa using c2⟩
    · have := hw ((l + (m - l)) * 32) (by rw [h5]; simp [DataW.weights, Tryz.underlying22, bytes_qn])
      unfold reachBytes at this
      omega
theorem open_rs {H : Type} {enc : TypeId × Value → H} {w : World} {base fuel : Nat} {spare : Nat → Bool} {held : Bool} {cs : List Value} {x : DataW H × List MemPlace}
    (h : DataW.trod enc Tryz.prog w base spare held fuel 23 cs = some x) (hw : ∀ n ∈ x.1.weights Tryz.prog 23, n ≤ reachBytes) :
    ∃ a len cap, cs = [.slice a len cap] ∧ IsRs w a len cap ∧ len ≤ 140737488351232 := by
  rcases Deep.open_slice Tryz.underlying23 h with ⟨h1, _⟩ | ⟨b, l, c, m, n, D, Pl, h1, _, h2, _, h3, h5, h4⟩
  · exact ⟨none, 0, 0, h1, .inl ⟨rfl, rfl, rfl⟩, by omega⟩
  · have hm : l ≤ m := by rw [h3]; split <;> omega
    refine ⟨some b, l, c, h1, .inr ⟨b, rfl, fun i hi => ?_⟩, ?_⟩
    · obtain ⟨cs', h6, h7⟩ := h4 i (by omega)
      rw [cells_rec] at h6
      obtain ⟨_, h8, h9⟩ := World.cells?_some h6
      obtain ⟨s, t, c, tl, d, rfl⟩ := open_rec h7 h8
      have c0 := h9 0 (by omega)
      have c1 := h9 1 (by omega)
      have c2 := h9 2 (by omega)
      have c3 := h9 3 (by omega)
      have c4 := h9 4 (by omega)
      rw [Deep.add_add] at c0 c1 c2 c3 c4
      exact ⟨s, t, c, tl, d, by simpa using c0, by simpa using c1, by simpa using c2, by simpa using c3, by simpa using c4⟩
    · have := hw ((l + (m - l)) * 56) (by rw [h5]; simp [DataW.weights, Tryz.underlying23, bytes_rc])
      unfold reachBytes at this
      omega

/-- Such slices as questions, as records. -/
theorem qs_of {w : World} {a : Option Addr} {len cap : Nat} (h : IsQs w a len cap) (hl : len ≤ 140737488351232) : ∃ l : List Qn, SQ w w.heap.size (.slice a len cap) l := by
  rcases h with ⟨rfl, rfl, rfl⟩ | ⟨x, rfl, hx⟩
  · exact ⟨[], Lst.nil _ _⟩
  · have hch : ∀ n, n ≤ len → ∃ l : List Qn, l.length = n ∧ ∀ i (h : i < l.length), w.cell? (x.add (i * 3)) = some (.string (bs l[i].n)) ∧ w.cell? (x.add (i * 3 + 1)) = some (.int .i64 l[i].t) ∧ w.cell? (x.add (i * 3 + 2)) = some (.int .i64 l[i].c) := by
      intro n
      induction n with
      | zero => intro _; exact ⟨[], rfl, fun i h => by simp at h⟩
      | succ n ih =>
        intro hn
        obtain ⟨l, h1, h2⟩ := ih (by omega)
        obtain ⟨s, t, c, c0, c1, c2⟩ := hx n (by omega)
        refine ⟨l ++ [⟨s.data.toList, t, c⟩], by simp [h1], fun i hi => ?_⟩
        rw [List.length_append, List.length_singleton] at hi
        by_cases e : i < l.length
        · rw [List.getElem_append_left e]; exact h2 i e
        · have : i = l.length := by omega
          subst this
          rw [List.getElem_append_right (Nat.le_refl _)]
          simp only [Nat.sub_self, List.getElem_cons_zero]
          rw [h1, ← bs_eta]
          exact ⟨c0, c1, c2⟩
    obtain ⟨l, h1, h2⟩ := hch len (Nat.le_refl _)
    refine ⟨l, some x, cap, by rw [h1], by omega, fun h => by simp at h, fun h0 => ?_⟩
    obtain ⟨b, off, spot⟩ := x
    have c0 := (h2 0 h0).1
    have hspot : spot = none := by simpa [Addr.add] using World.cell?_spot c0
    subst hspot
    have hlt : b < w.heap.size := by
      rw [WideShapes.add_plain] at c0
      exact World.block_lt_of_cell? w _ c0
    refine ⟨b, off, rfl, hlt, fun i u hu => ?_⟩
    obtain ⟨j, r, hj, rfl, hr⟩ := flat_of (f := cq) (k := 3) (fun _ => rfl) l i u hu
    obtain ⟨c0, c1, c2⟩ := h2 j hj
    rw [WideShapes.add_plain] at c0 c1 c2
    match r, hr with
    | 0, hr => simp [cq] at hr; subst hr; exact c0
    | 1, hr => simp [cq] at hr; subst hr; exact c1
    | 2, hr => simp [cq] at hr; subst hr; exact c2
    | r + 3, hr => simp [cq] at hr
theorem rs_of {w : World} {a : Option Addr} {len cap : Nat} (h : IsRs w a len cap) (hl : len ≤ 140737488351232) : ∃ l : List Rc, SR w w.heap.size (.slice a len cap) l := by
  rcases h with ⟨rfl, rfl, rfl⟩ | ⟨x, rfl, hx⟩
  · exact ⟨[], Lst.nil _ _⟩
  · have hch : ∀ n, n ≤ len → ∃ l : List Rc, l.length = n ∧ ∀ i (h : i < l.length), w.cell? (x.add (i * 5)) = some (.string (bs l[i].n)) ∧ w.cell? (x.add (i * 5 + 1)) = some (.int .i64 l[i].t) ∧ w.cell? (x.add (i * 5 + 2)) = some (.int .i64 l[i].c) ∧ w.cell? (x.add (i * 5 + 3)) = some (.int .i64 l[i].l) ∧ w.cell? (x.add (i * 5 + 4)) = some (.string (bs l[i].d)) := by
      intro n
      induction n with
      | zero => intro _; exact ⟨[], rfl, fun i h => by simp at h⟩
      | succ n ih =>
        intro hn
        obtain ⟨l, h1, h2⟩ := ih (by omega)
        obtain ⟨s, t, c, tl, d, c0, c1, c2, c3, c4⟩ := hx n (by omega)
        refine ⟨l ++ [⟨s.data.toList, t, c, tl, d.data.toList⟩], by simp [h1], fun i hi => ?_⟩
        rw [List.length_append, List.length_singleton] at hi
        by_cases e : i < l.length
        · rw [List.getElem_append_left e]; exact h2 i e
        · have : i = l.length := by omega
          subst this
          rw [List.getElem_append_right (Nat.le_refl _)]
          simp only [Nat.sub_self, List.getElem_cons_zero]
          rw [h1, ← bs_eta, ← bs_eta]
          exact ⟨c0, c1, c2, c3, c4⟩
    obtain ⟨l, h1, h2⟩ := hch len (Nat.le_refl _)
    refine ⟨l, some x, cap, by rw [h1], by omega, fun h => by simp at h, fun h0 => ?_⟩
    obtain ⟨b, off, spot⟩ := x
    have c0 := (h2 0 h0).1
    have hspot : spot = none := by simpa [Addr.add] using World.cell?_spot c0
    subst hspot
    have hlt : b < w.heap.size := by
      rw [WideShapes.add_plain] at c0
      exact World.block_lt_of_cell? w _ c0
    refine ⟨b, off, rfl, hlt, fun i u hu => ?_⟩
    obtain ⟨j, r, hj, rfl, hr⟩ := flat_of (f := cr) (k := 5) (fun _ => rfl) l i u hu
    obtain ⟨c0, c1, c2, c3, c4⟩ := h2 j hj
    rw [WideShapes.add_plain] at c0 c1 c2 c3 c4
    match r, hr with
    | 0, hr => simp [cr] at hr; subst hr; exact c0
    | 1, hr => simp [cr] at hr; subst hr; exact c1
    | 2, hr => simp [cr] at hr; subst hr; exact c2
    | 3, hr => simp [cr] at hr; subst hr; exact c3
    | 4, hr => simp [cr] at hr; subst hr; exact c4
    | r + 5, hr => simp [cr] at hr

/-- A message that came in reads as one. -/
theorem open_msg {H : Type} {enc : TypeId × Value → H} {w : World} {base fuel : Nat} {spare : Nat → Bool} {held : Bool} {cs : Array Value} {x : DataW H × List MemPlace}
    (h : DataW.trod enc Tryz.prog w base spare held fuel 25 cs.toList = some x) (hl : cs.size = 6) (hw : ∀ n ∈ x.1.weights Tryz.prog 25, n ≤ reachBytes) : ∃ m : Ms, Mg w w.heap.size (.agg cs) m := by
  obtain ⟨cs⟩ := cs
  simp only [List.size_toArray] at hl
  cases fuel with
  | zero => simp [DataW.trod] at h
  | succ fuel =>
    obtain ⟨xs, k, _, h8, _, h9, h10⟩ := DataW.trod_struct Tryz.underlying25 h
    match cs, hl with
    | [v0, v1, v2, v3, v4, v5], _ =>
      have g0 := h10 0 _ rfl
      have g1 := h10 1 _ rfl
      have g2 := h10 2 _ rfl
      have g3 := h10 3 _ rfl
      have g4 := h10 4 _ rfl
      have g5 := h10 5 _ rfl
      match xs, h9 with
      | [y0, y1, y2, y3, y4, y5], _ =>
        simp [cellsC_int, cells_sqn, cells_src] at g0 g1 g2 g3 g4 g5
        have hw2 : ∀ n, (n ∈ y2.1.weights Tryz.prog 22 ∨ n ∈ y3.1.weights Tryz.prog 23 ∨ n ∈ y4.1.weights Tryz.prog 23 ∨ n ∈ y5.1.weights Tryz.prog 23) → n ≤ reachBytes := fun n hn => hw n (by
          rw [h8]
          simp only [List.map_cons, List.map_nil, DataW.weights, Tryz.underlying25, List.toList_toArray, DataW.weightsEach, List.mem_append, List.not_mem_nil, or_false]
          rcases hn with h | h | h | h <;> simp [h])
        obtain ⟨i, k0, _, _⟩ := DataW.trod_int Tryz.underlying3 g0
        obtain ⟨f, k1, _, _⟩ := DataW.trod_int Tryz.underlying3 g1
        obtain ⟨qa, ql, qc, k2, q1, q2⟩ := open_qs g2 (fun n hn => hw2 n (.inl hn))
        obtain ⟨aa, al, ac, k3, a1, a2⟩ := open_rs g3 (fun n hn => hw2 n (.inr (.inl hn)))
        obtain ⟨na, nl, nc, k4, n1, n2⟩ := open_rs g4 (fun n hn => hw2 n (.inr (.inr (.inl hn))))
        obtain ⟨ra, rl, rc, k5, r1, r2⟩ := open_rs g5 (fun n hn => hw2 n (.inr (.inr (.inr hn))))
        injection k0 with k0 _
        injection k1 with k1 _
        injection k2 with k2 _
        injection k3 with k3 _
        injection k4 with k4 _
        injection k5 with k5 _
        subst k0; subst k1; subst k2; subst k3; subst k4; subst k5
        obtain ⟨lq, h1⟩ := qs_of q1 q2
        obtain ⟨la, h2⟩ := rs_of a1 a2
        obtain ⟨ln, h3⟩ := rs_of n1 n2
        obtain ⟨lr, h4⟩ := rs_of r1 r2
        exact ⟨⟨i, f, lq, la, ln, lr⟩, _, _, _, _, rfl, h1, h2, h3, h4⟩
end Go.Proofs.YtdikgjbpjdnodaaGreat
