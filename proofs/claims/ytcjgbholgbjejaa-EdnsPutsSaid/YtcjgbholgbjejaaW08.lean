/-
  A message of too many entries, or of too long names and data: BigMessage.
-/
import Derived.Deep.RegionHeld3
import Derived.Lib.FrozenHead
import Derived.Outline
import Derived.Laws.OwnMore
import Derived.BigRegion
import Derived.RegionTactic
import Derived.Recover
import Derived.Defers
import Derived.BigQuiet
import Derived.Test.YtcjgbholgbjejaaW02
import Derived.Test.YtcjgbholgbjejaaW01
import Derived.WalkLawsBesides
import Derived.Deep.LoopGhost
import Derived.Deep.RegionLaw
import Derived.Test.YtcjgbholgbjejaaW00
import Derived.Test.YtcjgbholgbjejaaShelf
import Derived.Test.YtcjgbholgbjejaaW03
import Derived.Test.YtcjgbholgbjejaaW07
namespace Go.Proofs.Ytcjgbholgbjejaa
open Go.RowKit Go.Shelf
set_option linter.unusedVariables false
set_option linter.unusedSimpArgs false
set_option maxRecDepth 100000

def bigRm (M : Nat) (x : Rc) : Bool := decide (M < x.n.length) || decide (M < x.d.length)
def bigQm (M : Nat) (x : Qn) : Bool := decide (M < x.n.length)
/-- More than so many entries, or a name or data of more than so many bytes. -/
def bigMs (most M : Nat) (m : Ms) : Bool := decide (most < m.q.length + m.an.length + m.ns.length + m.ar.length) || (m.q.any (bigQm M) || (m.an.any (bigRm M) || (m.ns.any (bigRm M) || m.ar.any (bigRm M))))

set_option maxHeartbeats 2000000 in
theorem bigRs_any {w : World} {hi : Nat} {u : Value} {l : List Rc} (M : Nat) (hM : M ≤ 1000000) (h : SR w hi u l) (h1 : hi ≤ w.heap.size) :
    Calls Try.prog 29 #[u, .int .i64 M] w fun e w' => e = .returned (.bool (l.any (bigRm M))) ∧ w = w' := by
  obtain ⟨r, hr⟩ : ∃ r, l.any (bigRm M) = r := ⟨_, rfl⟩
  rw [hr]
  have HR := Lib.hid hr
  have HX := Lib.hid h
  have HN := Lib.hid (Lst.len h)
  obtain ⟨a, c, rfl⟩ := Lst.shape h
  clear hr h
  go_enter Try.func29, Try.ntmps29
  go_wp2
  go_loopg [5] l.length (fun k v5 wr => ∃ j : Nat, j + k = l.length ∧ v5 = .int .i64 j ∧ Hid ((l.take j).any (bigRm M) = false) ∧ w = wr)
  case atStart => exact ⟨0, by omega, rfl, by simp [Hid], rfl⟩
  case round =>
    obtain ⟨j, hj, rfl, HA, rfl⟩ := hrel
    have hlen := HN.out
    by_cases hlt : j < l.length
    · obtain ⟨b, off, c2, he, hb, c0, _, _, _, c4⟩ := HX.out.at_ j hlt
      injection he with he hn3 hc3
      clear hn3 hc3
      subst he
      have hany := HA.out
      have htk : l.take (j + 1) = l.take j ++ [l[j]] := by rw [List.take_add_one, List.getElem?_eq_getElem hlt]; rfl
      have HM := Lib.hid (List.getElem_mem hlt)
      obtain ⟨x, hx⟩ : ∃ x, l[j] = x := ⟨_, rfl⟩
      rw [hx] at c0 c4 htk HM
      obtain ⟨n, t, cl, tl, d⟩ := x
      simp only at c0 c4
      have hns : (bs n).size = n.length := bs_size n
      have hds : (bs d).size = d.length := bs_size d
      by_cases h1 : M < n.length
      · have HE := Lib.hid (show r = true by rw [← HR.out]; exact List.any_eq_true.mpr ⟨_, HM.out, by unfold bigRm; simp [h1]⟩)
        have t1 : decide ((M : Int) < n.length) = true := by simp; omega
        clear hany htk hx HA HM
        go_wp2_with fail
        go_ret
        exact ⟨by rw [HE.out]; rfl, rfl⟩
      · have t1 : decide ((M : Int) < n.length) = false := by simp; omega
        by_cases h2 : M < d.length
        · have HE := Lib.hid (show r = true by rw [← HR.out]; exact List.any_eq_true.mpr ⟨_, HM.out, by unfold bigRm; simp [h2]⟩)
          have t2 : decide ((M : Int) < d.length) = true := by simp; omega
          clear hany htk hx HA HM
          go_wp2_with fail
          go_ret
          exact ⟨by rw [HE.out]; rfl, rfl⟩
        · have t2 : decide ((M : Int) < d.length) = false := by simp; omega
          have HA2 := Lib.hid (show (l.take (j + 1)).any (bigRm M) = false by rw [htk, List.any_append, hany]; simp [bigRm]; omega)
          clear hany htk hx HA HM
          go_wp2_with fail
          go_roundg (l.length - (j + 1))
          case measure => omega
          case rel => exact ⟨j + 1, by omega, by go_num, HA2, rfl⟩
    · have hje : j = l.length := by omega
      have HE := Lib.hid (show r = false by
        rw [← HR.out]
        have := HA.out
        rw [List.take_of_length_le (by omega)] at this
        exact this)
      clear HA
      have t1 : ¬ ((j : Int) < l.length) := by omega
      go_wp2_with fail
      go_ret
      exact ⟨by rw [HE.out]; rfl, rfl⟩

set_option maxHeartbeats 4000000 in
theorem bigM_any {w : World} {hi : Nat} {u : Value} {m : Ms} (most M : Nat) (hmo : most ≤ 1000000) (hM : M ≤ 1000000) (h : Mg w hi u m) (h1 : hi ≤ w.heap.size) :
    Calls Try.prog 7 #[u, .int .i64 most, .int .i64 M] w (Tells w (.bool (bigMs most M m))) := by
  obtain ⟨q, a, n, r, rfl, hq, ha, hn, hr⟩ := h
  have HLQ := Lib.hid (Lst.len hq)
  have HLA := Lib.hid (Lst.len ha)
  have HLN := Lib.hid (Lst.len hn)
  have HLR := Lib.hid (Lst.len hr)
  have HCA := Lib.hid (fun wx (hb : Below w.heap.size w wx) => bigRs_any M hM (Lst.below ha hb h1) (Nat.le_trans h1 hb.size))
  have HCN := Lib.hid (fun wx (hb : Below w.heap.size w wx) => bigRs_any M hM (Lst.below hn hb h1) (Nat.le_trans h1 hb.size))
  have HCR := Lib.hid (fun wx (hb : Below w.heap.size w wx) => bigRs_any M hM (Lst.below hr hb h1) (Nat.le_trans h1 hb.size))
  have HQ := Lib.hid hq
  have HHI := Lib.hid h1
  obtain ⟨qa, qc, rfl⟩ := Lst.shape hq
  obtain ⟨aa, ac, rfl⟩ := Lst.shape ha
  obtain ⟨na, nc, rfl⟩ := Lst.shape hn
  obtain ⟨ra, rc, rfl⟩ := Lst.shape hr
  obtain ⟨i0, hi0⟩ : ∃ i, m.id = i := ⟨_, rfl⟩
  obtain ⟨f0, hf0⟩ : ∃ i, m.fl = i := ⟨_, rfl⟩
  obtain ⟨R, hR⟩ : ∃ r, bigMs most M m = r := ⟨_, rfl⟩
  rw [hi0, hf0, hR]
  unfold bigMs at hR
  obtain ⟨b1, hb1⟩ : ∃ r, m.an.any (bigRm M) = r := ⟨_, rfl⟩
  obtain ⟨b2, hb2⟩ : ∃ r, m.ns.any (bigRm M) = r := ⟨_, rfl⟩
  obtain ⟨b3, hb3⟩ : ∃ r, m.ar.any (bigRm M) = r := ⟨_, rfl⟩
  rw [hb1, hb2, hb3] at hR
  rw [hb1] at HCA
  rw [hb2] at HCN
  rw [hb3] at HCR
  obtain ⟨l, hlq⟩ : ∃ l, m.q = l := ⟨_, rfl⟩
  rw [hlq] at hR HQ HLQ ⊢
  obtain ⟨ln, hln⟩ : ∃ l, m.an.length = l := ⟨_, rfl⟩
  rw [hln] at hR HLA HCA ⊢
  obtain ⟨lm, hlm⟩ : ∃ l, m.ns.length = l := ⟨_, rfl⟩
  rw [hlm] at hR HLN HCN ⊢
  obtain ⟨lr, hlr⟩ : ∃ l, m.ar.length = l := ⟨_, rfl⟩
  rw [hlr] at hR HLR HCR ⊢
  have hb0 : Below w.heap.size w (w.alloc (.cells #[.int .i64 i0, .int .i64 f0, .slice qa l.length qc, .slice aa ln ac, .slice na lm nc, .slice ra lr rc] 25)) := (Below.refl _ _).alloc (Nat.le_refl _) _
  have HB := Lib.hid hb0
  have HX := Lib.hid (cel_new6 w (.int .i64 i0) (.int .i64 f0) (.slice qa l.length qc) (.slice aa ln ac) (.slice na lm nc) (.slice ra lr rc) 25)
  have HR := Lib.hid hR
  clear hb1 hb2 hb3 hlq hln hlm hlr hi0 hf0 hq ha hn hr h1 hb0 hR
  have g1 := HLQ.out
  have g2 := HLA.out
  have g3 := HLN.out
  have g4 := HLR.out
  by_cases hbig : most < l.length + ln + lm + lr
  · have t0 : decide ((most : Int) < (l.length : Int) + ln + lm + lr) = true := by simp; omega
    have HE := Lib.hid (show R = true by rw [← HR.out]; simp [hbig])
    go_enter Try.func7, Try.ntmps7
    go_wp2_with fail
    go_ret
    exact ⟨by rw [HE.out]; rfl, HB.out⟩
  · have t0 : decide ((most : Int) < (l.length : Int) + ln + lm + lr) = false := by simp; omega
    have e0 : decide (most < l.length + ln + lm + lr) = false := by simp; omega
    have HR2 := Lib.hid (show (l.any (bigQm M) || (b1 || (b2 || b3))) = R by rw [← HR.out, e0]; rfl)
    obtain ⟨W, hW⟩ : ∃ W, w.alloc (.cells #[.int .i64 i0, .int .i64 f0, .slice qa l.length qc, .slice aa ln ac, .slice na lm nc, .slice ra lr rc] 25) = W := ⟨_, rfl⟩
    obtain ⟨N, hN⟩ : ∃ N, w.heap.size = N := ⟨_, rfl⟩
    rw [hW] at HB HX
    rw [hN] at HX
    obtain ⟨c0, c1, c2, c3, c4, c5⟩ := HX.out.six
    clear e0 HR
    go_enter Try.func7, Try.ntmps7
    go_wp2_with fail
    clear t0 hbig
    go_loopg [7] l.length (fun k v7 wr => ∃ j : Nat, j + k = l.length ∧ v7 = .int .i64 j ∧ Hid ((l.take j).any (bigQm M) = false) ∧ W = wr)
    case atStart => exact ⟨0, by omega, rfl, by simp [Hid], by first | rfl | exact hW.symm⟩
    case round =>
      clear hW
      obtain ⟨j, hj, rfl, HA, rfl⟩ := hrel
      by_cases hlt : j < l.length
      · obtain ⟨b, off, cc, he, hb, hc⟩ := HQ.out.at_ j hlt
        obtain ⟨d0, d1, d2⟩ := hc.keep fun o => HB.out.cell (p := ⟨b, o, none⟩) (Nat.lt_of_lt_of_le hb HHI.out)
        injection he with he hn3 hc3
        clear hn3 hc3
        subst he
        have hany := HA.out
        have htk : l.take (j + 1) = l.take j ++ [l[j]] := by rw [List.take_add_one, List.getElem?_eq_getElem hlt]; rfl
        have HM := Lib.hid (List.getElem_mem hlt)
        obtain ⟨x, hx⟩ : ∃ x, l[j] = x := ⟨_, rfl⟩
        rw [hx] at d0 htk HM
        obtain ⟨n, t, cl⟩ := x
        simp only at d0
        have hns : (bs n).size = n.length := bs_size n
        by_cases h1 : M < n.length
        · have HE := Lib.hid (show R = true by rw [← HR2.out, show l.any (bigQm M) = true from List.any_eq_true.mpr ⟨_, HM.out, by unfold bigQm; simp [h1]⟩]; rfl)
          have t1 : decide ((M : Int) < n.length) = true := by simp; omega
          clear hany htk hx HA HM hc hb d1 d2
          go_wp2_with fail
          go_ret
          exact ⟨by rw [HE.out]; rfl, by rw [← hN] at *; exact HB.out⟩
        · have t1 : decide ((M : Int) < n.length) = false := by simp; omega
          have HA2 := Lib.hid (show (l.take (j + 1)).any (bigQm M) = false by rw [htk, List.any_append, hany]; simp [bigQm]; omega)
          clear hany htk hx HA HM hc hb d1 d2
          go_wp2_with fail
          go_roundg (l.length - (j + 1))
          case measure => omega
          case rel => exact ⟨j + 1, by omega, by go_num, HA2, rfl⟩
      · have hje : j = l.length := by omega
        have HE := Lib.hid (show (b1 || (b2 || b3)) = R by
          rw [← HR2.out]
          have := HA.out
          rw [List.take_of_length_le (by omega)] at this
          rw [this]
          rfl)
        clear HA
        have t1 : ¬ ((j : Int) < l.length) := by omega
        cases b1 with
        | true =>
          go_wp2_with fail
          refine (HCA.out _ HB.out).mono ?_; rintro e w1 ⟨rfl, rfl⟩
          go_wp2_with fail
          go_ret
          exact ⟨by rw [← HE.out]; rfl, HB.out⟩
        | false =>
          cases b2 with
          | true =>
            go_wp2_with fail
            refine (HCA.out _ HB.out).mono ?_; rintro e w1 ⟨rfl, rfl⟩
            go_wp2_with fail
            refine (HCN.out _ HB.out).mono ?_; rintro e w1 ⟨rfl, rfl⟩
            go_wp2_with fail
            go_ret
            exact ⟨by rw [← HE.out]; rfl, HB.out⟩
          | false =>
            go_wp2_with fail
            refine (HCA.out _ HB.out).mono ?_; rintro e w1 ⟨rfl, rfl⟩
            go_wp2_with fail
            refine (HCN.out _ HB.out).mono ?_; rintro e w1 ⟨rfl, rfl⟩
            go_wp2_with fail
            refine (HCR.out _ HB.out).mono ?_; rintro e w1 ⟨rfl, rfl⟩
            go_wp2_with fail
            go_ret
            exact ⟨by rw [← HE.out]; rfl, HB.out⟩

theorem bigMs_no {most M : Nat} {m : Ms} (h : bigMs most M m = false) : m.q.length + m.an.length + m.ns.length + m.ar.length ≤ most ∧ (∀ x ∈ m.q, x.n.length ≤ M) ∧ (∀ x ∈ m.an, x.n.length ≤ M ∧ x.d.length ≤ M) ∧ (∀ x ∈ m.ns, x.n.length ≤ M ∧ x.d.length ≤ M) ∧ (∀ x ∈ m.ar, x.n.length ≤ M ∧ x.d.length ≤ M) := by
  unfold bigMs at h
  simp only [Bool.or_eq_false_iff, List.any_eq_false, decide_eq_false_iff_not, Nat.not_lt] at h
  obtain ⟨h0, h1, h2, h3, h4⟩ := h
  have k : ∀ l : List Rc, (∀ x ∈ l, ¬ bigRm M x = true) → ∀ x ∈ l, x.n.length ≤ M ∧ x.d.length ≤ M := fun l hl x hx => by
    have := hl x hx
    unfold bigRm at this
    simp at this
    exact this
  refine ⟨h0, fun x hx => ?_, k _ h2, k _ h3, k _ h4⟩
  have := h1 x hx
  unfold bigQm at this
  simpa using this
end Go.Proofs.Ytcjgbholgbjejaa

/-
  A message copied with room to spare: CopyMessage.
-/
namespace Go.Proofs.Ytcjgbholgbjejaa
open Go.RowKit Go.Shelf
set_option linter.unusedVariables false
set_option linter.unusedSimpArgs false
set_option maxRecDepth 100000

theorem sq_cel {w : World} {b : Nat} {x : Qn} (h : Cel w b [.string (bs x.n), .int .i64 x.t, .int .i64 x.c]) : SQ w (b + 1) (.slice (some ⟨b, 0, none⟩) 1 1) [x] :=
  ⟨_, 1, rfl, by simp, fun h => by simp at h, fun _ => ⟨b, 0, rfl, by omega, fun i u hu => by
    rw [Nat.zero_add]
    match i, hu with
    | 0, hu => rw [h.c 0 (by simp)]; simpa [acq, cq] using hu
    | 1, hu => rw [h.c 1 (by simp)]; simpa [acq, cq] using hu
    | 2, hu => rw [h.c 2 (by simp)]; simpa [acq, cq] using hu
    | i + 3, hu => simp [acq, cq] at hu⟩⟩

set_option maxHeartbeats 8000000 in
theorem copyM_any {w : World} {hi : Nat} {u : Value} {m : Ms} (h : Mg w hi u m) (h1 : hi ≤ w.heap.size) (hl : m.q.length + m.an.length + m.ns.length + m.ar.length ≤ 900000) :
    Calls Try.prog 8 #[u] w (fun e w' => ∃ v, e = .returned v ∧ CpM w' w.heap.size v m ∧ Below w.heap.size w w') := by
  obtain ⟨q, a, n, r, rfl, hq, ha, hn, hr⟩ := h
  have HCA := Lib.hid (fun wx (hb : Below w.heap.size w wx) => copyR_any (Lst.below ha hb h1) (Nat.le_trans h1 hb.size) (by omega))
  have HCN := Lib.hid (fun wx (hb : Below w.heap.size w wx) => copyR_any (Lst.below hn hb h1) (Nat.le_trans h1 hb.size) (by omega))
  have HCR := Lib.hid (fun wx (hb : Below w.heap.size w wx) => copyR_any (Lst.below hr hb h1) (Nat.le_trans h1 hb.size) (by omega))
  obtain ⟨qa, qc, rfl⟩ := Lst.shape hq
  obtain ⟨aa, ac, rfl⟩ := Lst.shape ha
  obtain ⟨na, nc, rfl⟩ := Lst.shape hn
  obtain ⟨ra, rc, rfl⟩ := Lst.shape hr
  unfold CpM
  obtain ⟨i0, hi0⟩ : ∃ i, m.id = i := ⟨_, rfl⟩
  obtain ⟨f0, hf0⟩ : ∃ i, m.fl = i := ⟨_, rfl⟩
  obtain ⟨l, hl0⟩ : ∃ i, m.q = i := ⟨_, rfl⟩
  obtain ⟨lan, hlan⟩ : ∃ i, m.an = i := ⟨_, rfl⟩
  obtain ⟨lns, hlns⟩ : ∃ i, m.ns = i := ⟨_, rfl⟩
  obtain ⟨lar, hlar⟩ : ∃ i, m.ar = i := ⟨_, rfl⟩
  rw [hi0, hf0, hl0, hlan, hlns, hlar]
  rw [hl0, hlan, hlns, hlar] at hl
  rw [hl0] at hq
  rw [hlan] at HCA
  rw [hlns] at HCN
  rw [hlar] at HCR
  obtain ⟨lq, hlq⟩ : ∃ i, l.length = i := ⟨_, rfl⟩
  obtain ⟨la, hla⟩ : ∃ i, lan.length = i := ⟨_, rfl⟩
  obtain ⟨ln, hln⟩ : ∃ i, lns.length = i := ⟨_, rfl⟩
  obtain ⟨lr, hlr⟩ : ∃ i, lar.length = i := ⟨_, rfl⟩
  rw [hla] at HCA
  rw [hln] at HCN
  rw [hlr] at HCR
  rw [hlq, hla, hln, hlr] at hl ⊢
  rw [hlq] at hq
  obtain ⟨N, hN⟩ : ∃ N, w.heap.size = N := ⟨_, rfl⟩
  have hx := cel_new6 w (.int .i64 i0) (.int .i64 f0) (.slice qa lq qc) (.slice aa la ac) (.slice na ln nc) (.slice ra lr rc) 25
  obtain ⟨W1, hW1⟩ : ∃ X, w.alloc (.cells #[.int .i64 i0, .int .i64 f0, .slice qa lq qc, .slice aa la ac, .slice na ln nc, .slice ra lr rc] 25) = X := ⟨_, rfl⟩
  have hz := cel_new6 W1 (.int .i64 0) (.int .i64 0) (.slice none 0 0) (.slice none 0 0) (.slice none 0 0) (.slice none 0 0) 25
  obtain ⟨W2, hW2⟩ : ∃ X, W1.alloc (.cells #[.int .i64 0, .int .i64 0, .slice none 0 0, .slice none 0 0, .slice none 0 0, .slice none 0 0] 25) = X := ⟨_, rfl⟩
  have s1 : W1.heap.size = N + 1 := by rw [← hW1, World.size_alloc, hN]
  have s2 : W2.heap.size = N + 2 := by rw [← hW2, World.size_alloc, s1]
  rw [hW1, hN] at hx
  rw [hW2, s1] at hz
  have b2 : Below N w W2 := by rw [← hW2, ← hW1]; exact ((Below.refl _ _).alloc (by rw [hN]; exact Nat.le_refl _) _).alloc (by simp [hN]) _
  replace hx := hx.below (by simp) (by rw [← hW2]; exact (Below.refl _ _).alloc (Nat.le_refl _) _ : Below W1.heap.size W1 W2)
  obtain ⟨wc, hwc⟩ : ∃ X, W2.drew = X := ⟨_, rfl⟩
  have HX := Lib.hid (show Cel wc N [.int .i64 i0, .int .i64 f0, .slice qa lq qc, .slice aa la ac, .slice na ln nc, .slice ra lr rc] by rw [← hwc]; exact ⟨hx.c, hx.fz⟩)
  have HZ := Lib.hid (show Cel wc (N + 1) [.int .i64 0, .int .i64 0, .slice none 0 0, .slice none 0 0, .slice none 0 0, .slice none 0 0] by rw [← hwc]; exact ⟨hz.c, hz.fz⟩)
  have HB := Lib.hid (show Below N w wc by rw [← hwc]; exact b2.drew)
  have HU := Lib.hid (show Lst wc hi (.slice qa lq qc) l.length (acq l) from Lst.below hq HB.out (by omega))
  have HSZ := Lib.hid (show N + 2 ≤ wc.heap.size by rw [← hwc]; exact Nat.le_of_eq s2.symm)
  have HL := Lib.hid hl
  have HN := Lib.hid hN
  have HHI := Lib.hid (show hi ≤ N by omega)
  have HLQ := Lib.hid hlq
  clear hq ha hn hr h1 hx hz b2 s2 hl0 hlan hlns hlar hla hln hlr hi0 hf0 hl hlq
  rw [hN] at HCA HCN HCR ⊢
  have hlq9 : lq ≤ 900000 := by have := HL.out; omega
  have hwr : IntKind.i64.wrap ((lq : Int) + 2) = (lq : Int) + 2 := wraps_i64 _ (by omega) (by have e : (2 : Int) ^ 63 = 9223372036854775808 := by decide
                                                                                              omega)
  go_enter Try.func8, Try.ntmps8
  go_wp2_with fail
  clear hN
  have d2 : wc.cell? ⟨N, 2, none⟩ = some (.slice qa lq qc) := HX.out.c 2 (by simp)
  refine wp_region_till (S := (fun wx => wx.cell? ⟨N, 2, none⟩ = some (.slice qa lq qc))) 16 (by kernel_rfl) (by rw [hwc]; exact (HX.out.c 2 (by simp))) (fun hHeld => ?_)
  refine till_take (i := 0) (oi := { dst := some 3, op := Op.fieldAddr 25 (Operand.tmp 1) 2, type := 0, pos := "messages.go:24", after := #[], guard := none }) (v := ?_) rfl (by kernel_rfl) (by kernel_rfl) (by kernel_rfl) (fun _ _ _ h => h) (Or.inl ⟨by rfl, ?_⟩) (by assumption) ?_
  rotate_left 1
  · intro w hSw; (try dsimp only at hSw); go_simp; try (with_reducible rfl)
  try simp only [Act.put, List.setIfInBounds_toArray, List.set_cons_zero, List.set_cons_succ]
  refine till_take (i := 1) (oi := { dst := some 4, op := Op.load 22 (Operand.tmp 3), type := 22, pos := "messages.go:24", after := #[{ on := 0, ground := Ground.data }], guard := none }) (v := ?_) rfl (by kernel_rfl) (by kernel_rfl) (by kernel_rfl) (fun _ _ _ h => h) (Or.inl ⟨by rfl, ?_⟩) (by assumption) ?_
  rotate_left 1
  · intro w hSw; (try dsimp only at hSw); go_simp; try (with_reducible rfl)
  try simp only [Act.put, List.setIfInBounds_toArray, List.set_cons_zero, List.set_cons_succ]
  refine till_take (i := 2) (oi := { dst := some 5, op := Op.call { callee := Callee.builtin Builtin.len, args := #[Operand.tmp 4], argTypes := #[22] }, type := 3, pos := "messages.go:24", after := #[{ on := 1, ground := Ground.data }], guard := none }) (v := ?_) rfl (by kernel_rfl) (by kernel_rfl) (by kernel_rfl) (fun _ _ _ h => h) (Or.inl ⟨by rfl, ?_⟩) (by assumption) ?_
  rotate_left 1
  · intro w hSw; (try dsimp only at hSw); go_simp; try (with_reducible rfl)
  try simp only [Act.put, List.setIfInBounds_toArray, List.set_cons_zero, List.set_cons_succ]
  refine till_take (i := 3) (oi := { dst := some 6, op := Op.binOp BinOp.add 3 (Operand.tmp 5) (Operand.const (Value.int IntKind.i64 2)) 3, type := 3, pos := "messages.go:24", after := #[{ on := 2, ground := Ground.data }], guard := none }) (v := ?_) rfl (by kernel_rfl) (by kernel_rfl) (by kernel_rfl) (fun _ _ _ h => h) (Or.inl ⟨by rfl, ?_⟩) (by assumption) ?_
  rotate_left 1
  · intro w hSw; (try dsimp only at hSw); go_simp; try (with_reducible rfl)
  try simp only [Act.put, List.setIfInBounds_toArray, List.set_cons_zero, List.set_cons_succ]
  refine till_take (i := 5) (oi := { dst := some 8, op := Op.fieldAddr 25 (Operand.tmp 1) 2, type := 0, pos := "messages.go:24", after := #[], guard := none }) (v := ?_) rfl (by kernel_rfl) (by kernel_rfl) (by kernel_rfl) (fun _ _ _ h => h) (Or.inl ⟨by rfl, ?_⟩) (by assumption) ?_
  rotate_left 1
  · intro w hSw; (try dsimp only at hSw); go_simp; try (with_reducible rfl)
  try simp only [Act.put, List.setIfInBounds_toArray, List.set_cons_zero, List.set_cons_succ]
  refine till_take (i := 6) (oi := { dst := some 9, op := Op.load 22 (Operand.tmp 8), type := 22, pos := "messages.go:24", after := #[{ on := 5, ground := Ground.data }], guard := none }) (v := ?_) rfl (by kernel_rfl) (by kernel_rfl) (by kernel_rfl) (fun _ _ _ h => h) (Or.inl ⟨by rfl, ?_⟩) (by assumption) ?_
  rotate_left 1
  · intro w hSw; (try dsimp only at hSw); go_simp; try (with_reducible rfl)
  try simp only [Act.put, List.setIfInBounds_toArray, List.set_cons_zero, List.set_cons_succ]
  refine till_take (i := 8) (oi := { dst := some 11, op := Op.build 50 #[(1, Operand.const (Value.int IntKind.i64 7))], type := 50, pos := "messages.go:24", after := #[], guard := none }) (v := ?_) rfl (by kernel_rfl) (by kernel_rfl) (by kernel_rfl) (fun _ _ _ h => h) (Or.inl ⟨by rfl, ?_⟩) (by assumption) ?_
  rotate_left 1
  · intro w hSw; (try dsimp only at hSw); go_simp; try (with_reducible rfl)
  try simp only [Act.put, List.setIfInBounds_toArray, List.set_cons_zero, List.set_cons_succ]
  refine till_take (i := 11) (oi := { dst := some 14, op := Op.fieldAddr 25 (Operand.tmp 1) 2, type := 0, pos := "messages.go:24", after := #[], guard := none }) (v := ?_) rfl (by kernel_rfl) (by kernel_rfl) (by kernel_rfl) (fun _ _ _ h => h) (Or.inl ⟨by rfl, ?_⟩) (by assumption) ?_
  rotate_left 1
  · intro w hSw; (try dsimp only at hSw); go_simp; try (with_reducible rfl)
  try simp only [Act.put, List.setIfInBounds_toArray, List.set_cons_zero, List.set_cons_succ]
  refine till_take (i := 12) (oi := { dst := some 15, op := Op.load 22 (Operand.tmp 14), type := 22, pos := "messages.go:24", after := #[{ on := 11, ground := Ground.data }], guard := none }) (v := ?_) rfl (by kernel_rfl) (by kernel_rfl) (by kernel_rfl) (fun _ _ _ h => h) (Or.inl ⟨by rfl, ?_⟩) (by assumption) ?_
  rotate_left 1
  · intro w hSw; (try dsimp only at hSw); go_simp; try (with_reducible rfl)
  try simp only [Act.put, List.setIfInBounds_toArray, List.set_cons_zero, List.set_cons_succ]
  refine till_take (i := 13) (oi := { dst := some 16, op := Op.call { callee := Callee.builtin Builtin.len, args := #[Operand.tmp 15], argTypes := #[22] }, type := 3, pos := "messages.go:24", after := #[{ on := 12, ground := Ground.data }], guard := none }) (v := ?_) rfl (by kernel_rfl) (by kernel_rfl) (by kernel_rfl) (fun _ _ _ h => h) (Or.inl ⟨by rfl, ?_⟩) (by assumption) ?_
  rotate_left 1
  · intro w hSw; (try dsimp only at hSw); go_simp; try (with_reducible rfl)
  try simp only [Act.put, List.setIfInBounds_toArray, List.set_cons_zero, List.set_cons_succ]
  refine till_ready (rs := [4, 9]) (by kernel_rfl) (by simp) ?_
  refine TillAll.cons (o := { dst := some 7, op := Op.makeSlice 22 (Operand.const (Value.int IntKind.i64 0)) (Operand.tmp 6), type := 22, pos := "messages.go:24", after := #[{ on := 3, ground := Ground.data }], guard := none }) rfl (fun K hK => ?_) (TillAll.cons (o := { dst := some 12, op := Op.buildSlice 22 1 #[(0, Operand.tmp 11)], type := 22, pos := "messages.go:24", after := #[{ on := 8, ground := Ground.data }], guard := none }) rfl (fun K hK => ?_) (TillAll.nil))
  have HSZ0 := HSZ.out
  obtain ⟨g4, hg4⟩ : ∃ g, wc.heap.size = g := ⟨_, rfl⟩
  obtain ⟨wc, hmk, ho, hb⟩ := make_qn wc lq hlq9
  rw [hg4] at ho HSZ0
  replace HX := Lib.hid (HX.out.below (by simp) hb)
  replace HZ := Lib.hid (HZ.out.below (by simp) hb)
  replace HU := Lib.hid (HU.out.below hb (Nat.le_trans HHI.out (by have := HSZ.out; omega)))
  replace HB := Lib.hid (below_aside HB.out (Aside.of_all hb : Aside (fun _ => False) _ _) (fun k hk => ⟨by have := HSZ.out; omega, id⟩))
  replace HSZ := Lib.hid (Nat.le_trans HSZ.out hb.size)
  clear hb
  have HO := Lib.hid (show OwnQn _ (N + 2) _ _ from row_base ho HSZ0)
  clear ho HSZ0
  go_simp
  clear hmk hg4
  clear d2
  have d2 : wc.cell? ⟨N, 2, none⟩ = some (.slice qa lq qc) := HX.out.c 2 (by simp)
  refine hK.out _ _ (HX.out.c 2 (by simp)) (fun hHeld => ?_)
  clear hK K
  try simp only [Act.put, List.setIfInBounds_toArray, List.set_cons_zero, List.set_cons_succ]
  refine till_ready (rs := [7, 9]) (by kernel_rfl) (by simp) ?_
  refine TillAll.cons (o := { dst := some 10, op := Op.call { callee := Callee.builtin Builtin.append, args := #[Operand.tmp 7, Operand.tmp 9], argTypes := #[22, 22] }, type := 22, pos := "messages.go:24", after := #[{ on := 4, ground := Ground.data }, { on := 6, ground := Ground.data }], guard := none }) rfl (fun K hK => ?_) (TillAll.cons (o := { dst := some 12, op := Op.buildSlice 22 1 #[(0, Operand.tmp 11)], type := 22, pos := "messages.go:24", after := #[{ on := 8, ground := Ground.data }], guard := none }) rfl (fun K hK => ?_) (TillAll.nil))
  obtain ⟨a2, c2, wn, hrun, ho, ha, _⟩ := run_appQn HO.out (show SQ _ _ _ _ from HU.out) (by rw [List.length_nil, Nat.zero_add, HLQ.out]; omega) HSZ.out
  simp only [List.length_nil, Nat.zero_add, List.nil_append] at hrun ho
  rw [HLQ.out] at hrun ho
  have HRUN := Lib.hid hrun
  have hlt := World.ownsRow.lt HO.out
  have hbN : Below (N + 2) wc wn := ha.below fun k hk => ⟨by have := HSZ.out; omega, fun hg => by have := (hlt _ hg).1; omega⟩
  replace HX := Lib.hid (HX.out.aside (by simp) ha (fun hg => by have := (hlt _ hg).1; omega))
  replace HZ := Lib.hid (HZ.out.aside (by simp) ha (fun hg => by have := (hlt _ hg).1; omega))
  replace HU := Lib.hid (HU.out.below hbN (by have := HHI.out; omega))
  replace HB := Lib.hid (below_aside HB.out ha (fun k hk => ⟨by have := HSZ.out; omega, fun hg => by have := (hlt _ hg).1; omega⟩))
  replace HSZ := Lib.hid (Nat.le_trans HSZ.out ha.size)
  have HO := Lib.hid ho
  clear hrun ho ha hlt hbN
  refine oper_app_run (.tmp 7) (.tmp 9) 22 22 rfl rfl rfl rfl HRUN.out ?_
  obtain ⟨wc, hwc⟩ : ∃ X, wn = X := ⟨_, rfl⟩
  rw [hwc] at HX HZ HU HB HSZ HO ⊢
  clear hwc HRUN
  clear d2
  have d2 : wc.cell? ⟨N, 2, none⟩ = some (.slice qa lq qc) := HX.out.c 2 (by simp)
  refine hK.out _ _ (HX.out.c 2 (by simp)) (fun hHeld => ?_)
  clear hK K
  try simp only [Act.put, List.setIfInBounds_toArray, List.set_cons_zero, List.set_cons_succ]
  refine till_ready (rs := [9]) (by kernel_rfl) (by simp) ?_
  refine TillAll.cons (o := { dst := some 12, op := Op.buildSlice 22 1 #[(0, Operand.tmp 11)], type := 22, pos := "messages.go:24", after := #[{ on := 8, ground := Ground.data }], guard := none }) rfl (fun K hK => ?_) (TillAll.nil)
  go_simp
  obtain ⟨mb, hmb⟩ : ∃ g, wc.heap.size = g := ⟨_, rfl⟩
  have hone := cel_new3 wc (.string (bs qmark.n)) (.int .i64 qmark.t) (.int .i64 qmark.c) 50
  have hb : Below wc.heap.size wc (wc.alloc (.cells #[.string (bs qmark.n), .int .i64 qmark.t, .int .i64 qmark.c] 50)) := (Below.refl _ _).alloc (Nat.le_refl _) _
  obtain ⟨wn, hwn⟩ : ∃ X, wc.alloc (.cells #[.string (bs qmark.n), .int .i64 qmark.t, .int .i64 qmark.c] 50) = X := ⟨_, rfl⟩
  have hwn2 : wc.alloc (.cells #[.string ⟨#[]⟩, .int .i64 7, .int .i64 0] 50) = wn := hwn
  rw [hwn, hmb] at hone
  rw [hwn] at hb
  rw [hwn2]
  clear hwn hwn2
  replace HX := Lib.hid (HX.out.below (by simp) hb)
  replace HZ := Lib.hid (HZ.out.below (by simp) hb)
  replace HU := Lib.hid (HU.out.below hb (Nat.le_trans HHI.out (by have := HSZ.out; omega)))
  replace HB := Lib.hid (below_aside HB.out (Aside.of_all hb : Aside (fun _ => False) _ _) (fun k hk => ⟨by have := HSZ.out; omega, id⟩))
  replace HSZ := Lib.hid (Nat.le_trans HSZ.out hb.size)
  replace HO := Lib.hid (show OwnQn _ _ _ _ from row_below HO.out hb)
  clear hb
  have H1 := Lib.hid hone
  clear hone
  try rw [hmb]
  clear hmb
  obtain ⟨wc, hwc⟩ : ∃ X, wn = X := ⟨_, rfl⟩
  rw [hwc] at HX HZ HU HB HSZ H1 HO ⊢
  clear hwc
  clear d2
  have d2 : wc.cell? ⟨N, 2, none⟩ = some (.slice qa lq qc) := HX.out.c 2 (by simp)
  refine hK.out _ _ (HX.out.c 2 (by simp)) (fun hHeld => ?_)
  clear hK K
  try simp only [Act.put, List.setIfInBounds_toArray, List.set_cons_zero, List.set_cons_succ]
  rotate_left 1
  go_simp
  obtain ⟨mb, hmb⟩ : ∃ g, wc.heap.size = g := ⟨_, rfl⟩
  have hone := cel_new3 wc (.string (bs qmark.n)) (.int .i64 qmark.t) (.int .i64 qmark.c) 50
  have hb : Below wc.heap.size wc (wc.alloc (.cells #[.string (bs qmark.n), .int .i64 qmark.t, .int .i64 qmark.c] 50)) := (Below.refl _ _).alloc (Nat.le_refl _) _
  obtain ⟨wn, hwn⟩ : ∃ X, wc.alloc (.cells #[.string (bs qmark.n), .int .i64 qmark.t, .int .i64 qmark.c] 50) = X := ⟨_, rfl⟩
  have hwn2 : wc.alloc (.cells #[.string ⟨#[]⟩, .int .i64 7, .int .i64 0] 50) = wn := hwn
  rw [hwn, hmb] at hone
  rw [hwn] at hb
  rw [hwn2]
  clear hwn hwn2
  have hlt := World.ownsRow.lt HO.out
  have HD := Lib.hid (show ∀ k, (Value.slice (some ⟨g4, 0, none⟩) 0 (lq + 2)).ownBlock = some k → k ≠ mb from fun k hk => by have := (hlt k hk).2; omega)
  clear hlt
  replace HX := Lib.hid (HX.out.below (by simp) hb)
  replace HZ := Lib.hid (HZ.out.below (by simp) hb)
  replace HU := Lib.hid (HU.out.below hb (Nat.le_trans HHI.out (by have := HSZ.out; omega)))
  replace HB := Lib.hid (below_aside HB.out (Aside.of_all hb : Aside (fun _ => False) _ _) (fun k hk => ⟨by have := HSZ.out; omega, id⟩))
  replace HSZ := Lib.hid (Nat.le_trans HSZ.out hb.size)
  replace HO := Lib.hid (show OwnQn _ _ _ _ from row_below HO.out hb)
  clear hb
  have H1 := Lib.hid hone
  clear hone
  try rw [hmb]
  clear hmb
  obtain ⟨wc, hwc⟩ : ∃ X, wn = X := ⟨_, rfl⟩
  rw [hwc] at HX HZ HU HB HSZ H1 HO ⊢
  clear hwc
  clear d2
  have d2 : wc.cell? ⟨N, 2, none⟩ = some (.slice qa lq qc) := HX.out.c 2 (by simp)
  refine hK.out _ _ (HX.out.c 2 (by simp)) (fun hHeld => ?_)
  clear hK K
  try simp only [Act.put, List.setIfInBounds_toArray, List.set_cons_zero, List.set_cons_succ]
  refine till_ready (rs := [7]) (by kernel_rfl) (by simp) ?_
  refine TillAll.cons (o := { dst := some 10, op := Op.call { callee := Callee.builtin Builtin.append, args := #[Operand.tmp 7, Operand.tmp 9], argTypes := #[22, 22] }, type := 22, pos := "messages.go:24", after := #[{ on := 4, ground := Ground.data }, { on := 6, ground := Ground.data }], guard := none }) rfl (fun K hK => ?_) (TillAll.nil)
  obtain ⟨a2, c2, wn, hrun, ho, ha, _⟩ := run_appQn HO.out (show SQ _ _ _ _ from HU.out) (by rw [List.length_nil, Nat.zero_add, HLQ.out]; omega) HSZ.out
  simp only [List.length_nil, Nat.zero_add, List.nil_append] at hrun ho
  rw [HLQ.out] at hrun ho
  have HRUN := Lib.hid hrun
  have hlt := World.ownsRow.lt HO.out
  have hbN : Below (N + 2) wc wn := ha.below fun k hk => ⟨by have := HSZ.out; omega, fun hg => by have := (hlt _ hg).1; omega⟩
  replace HX := Lib.hid (HX.out.aside (by simp) ha (fun hg => by have := (hlt _ hg).1; omega))
  replace HZ := Lib.hid (HZ.out.aside (by simp) ha (fun hg => by have := (hlt _ hg).1; omega))
  replace HU := Lib.hid (HU.out.below hbN (by have := HHI.out; omega))
  replace HB := Lib.hid (below_aside HB.out ha (fun k hk => ⟨by have := HSZ.out; omega, fun hg => by have := (hlt _ hg).1; omega⟩))
  replace HSZ := Lib.hid (Nat.le_trans HSZ.out ha.size)
  replace H1 := Lib.hid (H1.out.aside (by simp) ha (fun hg => HD.out mb hg rfl))
  have HO := Lib.hid ho
  clear hrun ho ha hlt hbN
  refine oper_app_run (.tmp 7) (.tmp 9) 22 22 rfl rfl rfl rfl HRUN.out ?_
  obtain ⟨wc, hwc⟩ : ∃ X, wn = X := ⟨_, rfl⟩
  rw [hwc] at HX HZ HU HB HSZ HO H1 ⊢
  clear hwc HRUN
  clear d2
  have d2 : wc.cell? ⟨N, 2, none⟩ = some (.slice qa lq qc) := HX.out.c 2 (by simp)
  refine hK.out _ _ (HX.out.c 2 (by simp)) (fun hHeld => ?_)
  clear hK K
  try simp only [Act.put, List.setIfInBounds_toArray, List.set_cons_zero, List.set_cons_succ]
  rotate_left 1
  go_simp
  obtain ⟨mb, hmb⟩ : ∃ g, wc.heap.size = g := ⟨_, rfl⟩
  have hone := cel_new3 wc (.string (bs qmark.n)) (.int .i64 qmark.t) (.int .i64 qmark.c) 50
  have hb : Below wc.heap.size wc (wc.alloc (.cells #[.string (bs qmark.n), .int .i64 qmark.t, .int .i64 qmark.c] 50)) := (Below.refl _ _).alloc (Nat.le_refl _) _
  obtain ⟨wn, hwn⟩ : ∃ X, wc.alloc (.cells #[.string (bs qmark.n), .int .i64 qmark.t, .int .i64 qmark.c] 50) = X := ⟨_, rfl⟩
  have hwn2 : wc.alloc (.cells #[.string ⟨#[]⟩, .int .i64 7, .int .i64 0] 50) = wn := hwn
  rw [hwn, hmb] at hone
  rw [hwn] at hb
  rw [hwn2]
  clear hwn hwn2
  replace HX := Lib.hid (HX.out.below (by simp) hb)
  replace HZ := Lib.hid (HZ.out.below (by simp) hb)
  replace HU := Lib.hid (HU.out.below hb (Nat.le_trans HHI.out (by have := HSZ.out; omega)))
  replace HB := Lib.hid (below_aside HB.out (Aside.of_all hb : Aside (fun _ => False) _ _) (fun k hk => ⟨by have := HSZ.out; omega, id⟩))
  replace HSZ := Lib.hid (Nat.le_trans HSZ.out hb.size)
  clear hb
  have H1 := Lib.hid hone
  clear hone
  try rw [hmb]
  clear hmb
  obtain ⟨wc, hwc⟩ : ∃ X, wn = X := ⟨_, rfl⟩
  rw [hwc] at HX HZ HU HB HSZ H1 ⊢
  clear hwc
  clear d2
  have d2 : wc.cell? ⟨N, 2, none⟩ = some (.slice qa lq qc) := HX.out.c 2 (by simp)
  refine hK.out _ _ (HX.out.c 2 (by simp)) (fun hHeld => ?_)
  clear hK K
  try simp only [Act.put, List.setIfInBounds_toArray, List.set_cons_zero, List.set_cons_succ]
  refine till_ready (rs := [4]) (by kernel_rfl) (by simp) ?_
  refine TillAll.cons (o := { dst := some 7, op := Op.makeSlice 22 (Operand.const (Value.int IntKind.i64 0)) (Operand.tmp 6), type := 22, pos := "messages.go:24", after := #[{ on := 3, ground := Ground.data }], guard := none }) rfl (fun K hK => ?_) (TillAll.nil)
  have HSZ0 := HSZ.out
  obtain ⟨g4, hg4⟩ : ∃ g, wc.heap.size = g := ⟨_, rfl⟩
  obtain ⟨wc, hmk, ho, hb⟩ := make_qn wc lq hlq9
  rw [hg4] at ho HSZ0
  have hm1 := H1.out.lt (by simp)
  have HD := Lib.hid (show ∀ k, (Value.slice (some ⟨g4, 0, none⟩) 0 (lq + 2)).ownBlock = some k → k ≠ mb from fun k hk => by (have : g4 = k := by simpa [Value.ownBlock] using hk); omega)
  clear hm1
  replace HX := Lib.hid (HX.out.below (by simp) hb)
  replace HZ := Lib.hid (HZ.out.below (by simp) hb)
  replace HU := Lib.hid (HU.out.below hb (Nat.le_trans HHI.out (by have := HSZ.out; omega)))
  replace HB := Lib.hid (below_aside HB.out (Aside.of_all hb : Aside (fun _ => False) _ _) (fun k hk => ⟨by have := HSZ.out; omega, id⟩))
  replace HSZ := Lib.hid (Nat.le_trans HSZ.out hb.size)
  replace H1 := Lib.hid (H1.out.below (by simp) hb)
  clear hb
  have HO := Lib.hid (show OwnQn _ (N + 2) _ _ from row_base ho HSZ0)
  clear ho HSZ0
  go_simp
  clear hmk hg4
  clear d2
  have d2 : wc.cell? ⟨N, 2, none⟩ = some (.slice qa lq qc) := HX.out.c 2 (by simp)
  refine hK.out _ _ (HX.out.c 2 (by simp)) (fun hHeld => ?_)
  clear hK K
  try simp only [Act.put, List.setIfInBounds_toArray, List.set_cons_zero, List.set_cons_succ]
  refine till_ready (rs := [7]) (by kernel_rfl) (by simp) ?_
  refine TillAll.cons (o := { dst := some 10, op := Op.call { callee := Callee.builtin Builtin.append, args := #[Operand.tmp 7, Operand.tmp 9], argTypes := #[22, 22] }, type := 22, pos := "messages.go:24", after := #[{ on := 4, ground := Ground.data }, { on := 6, ground := Ground.data }], guard := none }) rfl (fun K hK => ?_) (TillAll.nil)
  obtain ⟨a2, c2, wn, hrun, ho, ha, _⟩ := run_appQn HO.out (show SQ _ _ _ _ from HU.out) (by rw [List.length_nil, Nat.zero_add, HLQ.out]; omega) HSZ.out
  simp only [List.length_nil, Nat.zero_add, List.nil_append] at hrun ho
  rw [HLQ.out] at hrun ho
  have HRUN := Lib.hid hrun
  have hlt := World.ownsRow.lt HO.out
  have hbN : Below (N + 2) wc wn := ha.below fun k hk => ⟨by have := HSZ.out; omega, fun hg => by have := (hlt _ hg).1; omega⟩
  replace HX := Lib.hid (HX.out.aside (by simp) ha (fun hg => by have := (hlt _ hg).1; omega))
  replace HZ := Lib.hid (HZ.out.aside (by simp) ha (fun hg => by have := (hlt _ hg).1; omega))
  replace HU := Lib.hid (HU.out.below hbN (by have := HHI.out; omega))
  replace HB := Lib.hid (below_aside HB.out ha (fun k hk => ⟨by have := HSZ.out; omega, fun hg => by have := (hlt _ hg).1; omega⟩))
  replace HSZ := Lib.hid (Nat.le_trans HSZ.out ha.size)
  replace H1 := Lib.hid (H1.out.aside (by simp) ha (fun hg => HD.out mb hg rfl))
  have HO := Lib.hid ho
  clear hrun ho ha hlt hbN
  refine oper_app_run (.tmp 7) (.tmp 9) 22 22 rfl rfl rfl rfl HRUN.out ?_
  obtain ⟨wc, hwc⟩ : ∃ X, wn = X := ⟨_, rfl⟩
  rw [hwc] at HX HZ HU HB HSZ HO H1 ⊢
  clear hwc HRUN
  clear d2
  have d2 : wc.cell? ⟨N, 2, none⟩ = some (.slice qa lq qc) := HX.out.c 2 (by simp)
  refine hK.out _ _ (HX.out.c 2 (by simp)) (fun hHeld => ?_)
  clear hK K
  try simp only [Act.put, List.setIfInBounds_toArray, List.set_cons_zero, List.set_cons_succ]
  rotate_left 1
  iterate 3
    · refine till_ready (rs := [10]) (by kernel_rfl) (by simp) ?_
      refine TillAll.cons (o := { dst := some 13, op := Op.call { callee := Callee.builtin Builtin.append, args := #[Operand.tmp 10, Operand.tmp 12], argTypes := #[22, 22] }, type := 22, pos := "messages.go:24", after := #[{ on := 7, ground := Ground.data }, { on := 9, ground := Ground.data }, { on := 7, ground := Ground.chain }], guard := none }) rfl (fun K hK => ?_) (TillAll.nil)
      obtain ⟨a2, c2, wn, hrun, ho, ha, _⟩ := run_appQn HO.out (show SQ _ _ _ _ from sq_cel H1.out) (by rw [HLQ.out, List.length_singleton]; omega) HSZ.out
      simp only [List.length_singleton] at hrun ho
      rw [HLQ.out] at hrun ho
      have HRUN := Lib.hid hrun
      have hlt := World.ownsRow.lt HO.out
      have hbN : Below (N + 2) wc wn := ha.below fun k hk => ⟨by have := HSZ.out; omega, fun hg => by have := (hlt _ hg).1; omega⟩
      replace HX := Lib.hid (HX.out.aside (by simp) ha (fun hg => by have := (hlt _ hg).1; omega))
      replace HZ := Lib.hid (HZ.out.aside (by simp) ha (fun hg => by have := (hlt _ hg).1; omega))
      replace HU := Lib.hid (HU.out.below hbN (by have := HHI.out; omega))
      replace HB := Lib.hid (below_aside HB.out ha (fun k hk => ⟨by have := HSZ.out; omega, fun hg => by have := (hlt _ hg).1; omega⟩))
      replace HSZ := Lib.hid (Nat.le_trans HSZ.out ha.size)
      have HO := Lib.hid ho
      have hcut := cut_qn a2 (lq + 1) lq c2 (by have := row_cap ho; rw [List.length_append, List.length_singleton, HLQ.out] at this; omega)
      clear hrun ho ha hlt hbN
      refine oper_app_run (.tmp 10) (.tmp 12) 22 22 rfl rfl rfl rfl HRUN.out ?_
      obtain ⟨wc, hwc⟩ : ∃ X, wn = X := ⟨_, rfl⟩
      rw [hwc] at HX HZ HU HB HSZ HO ⊢
      clear hwc HRUN
      clear d2
      have d2 : wc.cell? ⟨N, 2, none⟩ = some (.slice qa lq qc) := HX.out.c 2 (by simp)
      have f2 := HX.out.fz
      refine hK.out _ _ (HX.out.c 2 (by simp)) (fun hHeld => ?_)
      clear hK K
      try simp only [Act.put, List.setIfInBounds_toArray, List.set_cons_zero, List.set_cons_succ]
      refine till_take (i := 14) (oi := { dst := some 17, op := Op.slice 22 (Operand.tmp 13) none (some (Operand.tmp 16)) none, type := 22, pos := "messages.go:24", after := #[{ on := 10, ground := Ground.data }, { on := 13, ground := Ground.data }], guard := none }) (v := ?_) rfl (by kernel_rfl) (by kernel_rfl) (by kernel_rfl) (fun _ _ _ h => h) (Or.inl ⟨by rfl, ?_⟩) (by assumption) ?_
      rotate_left 1
      · intro w hSw; (try dsimp only at hSw); go_simp; try (with_reducible rfl)
      try simp only [Act.put, List.setIfInBounds_toArray, List.set_cons_zero, List.set_cons_succ]
      refine till_take (i := 15) (oi := { dst := some 18, op := Op.fieldAddr 25 (Operand.tmp 1) 2, type := 0, pos := "messages.go:24", after := #[{ on := 0, ground := Ground.phase }, { on := 1, ground := Ground.phase }, { on := 2, ground := Ground.phase }, { on := 3, ground := Ground.phase }, { on := 4, ground := Ground.phase }, { on := 5, ground := Ground.phase }, { on := 6, ground := Ground.phase }, { on := 7, ground := Ground.phase }, { on := 8, ground := Ground.phase }, { on := 9, ground := Ground.phase }, { on := 10, ground := Ground.phase }, { on := 11, ground := Ground.phase }, { on := 12, ground := Ground.phase }, { on := 13, ground := Ground.phase }, { on := 14, ground := Ground.phase }], guard := none }) (v := ?_) rfl (by kernel_rfl) (by kernel_rfl) (by kernel_rfl) (fun _ _ _ h => h) (Or.inl ⟨by rfl, ?_⟩) (by assumption) ?_
      rotate_left 1
      · intro w hSw; (try dsimp only at hSw); go_simp; try (with_reducible rfl)
      try simp only [Act.put, List.setIfInBounds_toArray, List.set_cons_zero, List.set_cons_succ]
      refine till_ready (rs := [16]) (by kernel_rfl) (by simp) ?_
      refine TillAll.last (o := { dst := none, op := Op.store 22 (Operand.tmp 18) (Operand.tmp 17), type := 0, pos := "messages.go:24", after := #[{ on := 15, ground := Ground.data }, { on := 14, ground := Ground.data }, { on := 10, ground := Ground.chain }, { on := 0, ground := Ground.phase }, { on := 1, ground := Ground.phase }, { on := 2, ground := Ground.phase }, { on := 3, ground := Ground.phase }, { on := 4, ground := Ground.phase }, { on := 5, ground := Ground.phase }, { on := 6, ground := Ground.phase }, { on := 7, ground := Ground.phase }, { on := 8, ground := Ground.phase }, { on := 9, ground := Ground.phase }, { on := 10, ground := Ground.phase }, { on := 11, ground := Ground.phase }, { on := 12, ground := Ground.phase }, { on := 13, ground := Ground.phase }, { on := 14, ground := Ground.phase }], guard := none }) rfl (fun K hK => ?_) (TillAll.nil)
      go_simp
      have HQ := Lib.hid (show CpQ wc (N + 2) (.slice a2 lq c2) l from ⟨a2, c2, by rw [HLQ.out], by rw [HLQ.out]; exact HO.out⟩)
      have hst : Aside (fun k => k = N) wc (wc.setCell ⟨N, 2, none⟩ (.slice a2 lq c2)) := Aside.setCell wc (p := ⟨N, 2, none⟩) _ rfl
      replace HX := Lib.hid (show Cel (wc.setCell ⟨N, 2, none⟩ (.slice a2 lq c2)) N [.int .i64 i0, .int .i64 f0, .slice a2 lq c2, .slice aa la ac, .slice na ln nc, .slice ra lr rc] from HX.out.set (o := 2) (by simp) (.slice a2 lq c2))
      replace HZ := Lib.hid (HZ.out.other (a := ⟨N, 2, none⟩) (by show N ≠ N + 1; omega) (.slice a2 lq c2))
      replace HQ := Lib.hid (HQ.out.aside hst (fun k hk hg => by have := (HQ.out.lt k hk).1; omega))
      replace HB := Lib.hid (below_aside HB.out hst (fun k hk => ⟨by have := HSZ.out; omega, by omega⟩))
      replace HSZ := Lib.hid (Nat.le_trans HSZ.out hst.size)
      clear hst HO HU H1 d2 hcut f2
      refine hK.out _ _ trivial (fun hHeld => ?_)
      clear hK K
      try simp only [Act.put, List.setIfInBounds_toArray, List.set_cons_zero, List.set_cons_succ]
      refine till_done (by kernel_rfl) ?_ _
      clear hHeld
      obtain ⟨w5, hw5⟩ : ∃ X, wc.setCell ⟨N, 2, none⟩ (.slice a2 lq c2) = X := ⟨_, rfl⟩
      rw [hw5] at HX HZ HQ HB HSZ ⊢
      clear hw5
      obtain ⟨c0, c1, c3, c4, c5, c6⟩ := HX.out.six
      go_wp2_with fail
      clear c0 c1 c3 c4 c5 c6
      refine (HCA.out _ HB.out).mono ?_; rintro e x3 ⟨v3, rfl, hcp, hb⟩
      obtain ⟨a3, k3, rfl, hown⟩ := hcp
      have HA := Lib.hid (show CpR x3 (N + 2) (.slice a3 lan.length k3) lan from ⟨a3, k3, rfl, row_base hown HSZ.out⟩)
      replace HX := Lib.hid (HX.out.below (by simp) hb)
      replace HZ := Lib.hid (HZ.out.below (by simp) hb)
      replace HB := Lib.hid (below_aside HB.out (Aside.of_all hb : Aside (fun _ => False) _ _) (fun k hk => ⟨by have := HSZ.out; omega, id⟩))
      replace HSZ := Lib.hid (Nat.le_trans HSZ.out hb.size)
      replace HQ := Lib.hid (HQ.out.below hb)
      clear hb hown
      obtain ⟨c0, c1, c3, c4, c5, c6⟩ := HX.out.six
      have fz := HX.out.fz
      have hst : Aside (fun k => k = N) x3 (x3.setCell ⟨N, 3, none⟩ (.slice a3 lan.length k3)) := Aside.setCell x3 (p := ⟨N, 3, none⟩) _ rfl
      replace HX := Lib.hid (show Cel (x3.setCell ⟨N, 3, none⟩ (.slice a3 lan.length k3)) N [.int .i64 i0, .int .i64 f0, .slice a2 lq c2, .slice a3 lan.length k3, .slice na ln nc, .slice ra lr rc] from HX.out.set (o := 3) (by simp) (.slice a3 lan.length k3))
      replace HZ := Lib.hid (HZ.out.other (a := ⟨N, 3, none⟩) (by show N ≠ N + 1; omega) (.slice a3 lan.length k3))
      replace HB := Lib.hid (below_aside HB.out hst (fun k hk => ⟨by have := HSZ.out; omega, by omega⟩))
      replace HSZ := Lib.hid (Nat.le_trans HSZ.out hst.size)
      replace HQ := Lib.hid (HQ.out.aside hst (fun k hk hg => by have := (HQ.out.lt k hk).1; omega))
      replace HA := Lib.hid (HA.out.aside hst (fun k hk hg => by have := (HA.out.lt k hk).1; omega))
      clear hst
      go_wp2_with fail
      clear c0 c1 c3 c4 c5 c6 fz
      refine (HCN.out _ HB.out).mono ?_; rintro e x4 ⟨v4, rfl, hcp, hb⟩
      obtain ⟨a4, k4, rfl, hown⟩ := hcp
      have HNN := Lib.hid (show CpR x4 (N + 2) (.slice a4 lns.length k4) lns from ⟨a4, k4, rfl, row_base hown HSZ.out⟩)
      replace HX := Lib.hid (HX.out.below (by simp) hb)
      replace HZ := Lib.hid (HZ.out.below (by simp) hb)
      replace HB := Lib.hid (below_aside HB.out (Aside.of_all hb : Aside (fun _ => False) _ _) (fun k hk => ⟨by have := HSZ.out; omega, id⟩))
      replace HSZ := Lib.hid (Nat.le_trans HSZ.out hb.size)
      replace HQ := Lib.hid (HQ.out.below hb)
      replace HA := Lib.hid (HA.out.below hb)
      clear hb hown
      obtain ⟨c0, c1, c3, c4, c5, c6⟩ := HX.out.six
      have fz := HX.out.fz
      have hst : Aside (fun k => k = N) x4 (x4.setCell ⟨N, 4, none⟩ (.slice a4 lns.length k4)) := Aside.setCell x4 (p := ⟨N, 4, none⟩) _ rfl
      replace HX := Lib.hid (show Cel (x4.setCell ⟨N, 4, none⟩ (.slice a4 lns.length k4)) N [.int .i64 i0, .int .i64 f0, .slice a2 lq c2, .slice a3 lan.length k3, .slice a4 lns.length k4, .slice ra lr rc] from HX.out.set (o := 4) (by simp) (.slice a4 lns.length k4))
      replace HZ := Lib.hid (HZ.out.other (a := ⟨N, 4, none⟩) (by show N ≠ N + 1; omega) (.slice a4 lns.length k4))
      replace HB := Lib.hid (below_aside HB.out hst (fun k hk => ⟨by have := HSZ.out; omega, by omega⟩))
      replace HSZ := Lib.hid (Nat.le_trans HSZ.out hst.size)
      replace HQ := Lib.hid (HQ.out.aside hst (fun k hk hg => by have := (HQ.out.lt k hk).1; omega))
      replace HA := Lib.hid (HA.out.aside hst (fun k hk hg => by have := (HA.out.lt k hk).1; omega))
      replace HNN := Lib.hid (HNN.out.aside hst (fun k hk hg => by have := (HNN.out.lt k hk).1; omega))
      clear hst
      go_wp2_with fail
      clear c0 c1 c3 c4 c5 c6 fz
      refine (HCR.out _ HB.out).mono ?_; rintro e x5 ⟨v5, rfl, hcp, hb⟩
      obtain ⟨a5, k5, rfl, hown⟩ := hcp
      have HRR := Lib.hid (show CpR x5 (N + 2) (.slice a5 lar.length k5) lar from ⟨a5, k5, rfl, row_base hown HSZ.out⟩)
      replace HX := Lib.hid (HX.out.below (by simp) hb)
      replace HZ := Lib.hid (HZ.out.below (by simp) hb)
      replace HB := Lib.hid (below_aside HB.out (Aside.of_all hb : Aside (fun _ => False) _ _) (fun k hk => ⟨by have := HSZ.out; omega, id⟩))
      replace HSZ := Lib.hid (Nat.le_trans HSZ.out hb.size)
      replace HQ := Lib.hid (HQ.out.below hb)
      replace HA := Lib.hid (HA.out.below hb)
      replace HNN := Lib.hid (HNN.out.below hb)
      clear hb hown
      obtain ⟨c0, c1, c3, c4, c5, c6⟩ := HX.out.six
      have fz := HX.out.fz
      obtain ⟨z0, z1, z2, z3, z4, z5⟩ := HZ.out.six
      have fy := HZ.out.fz
      have hst : Aside (fun k => k = N) x5 (x5.setCell ⟨N, 5, none⟩ (.slice a5 lar.length k5)) := Aside.setCell x5 (p := ⟨N, 5, none⟩) _ rfl
      replace HX := Lib.hid (show Cel (x5.setCell ⟨N, 5, none⟩ (.slice a5 lar.length k5)) N [.int .i64 i0, .int .i64 f0, .slice a2 lq c2, .slice a3 lan.length k3, .slice a4 lns.length k4, .slice a5 lar.length k5] from HX.out.set (o := 5) (by simp) (.slice a5 lar.length k5))
      replace HZ := Lib.hid (HZ.out.other (a := ⟨N, 5, none⟩) (by show N ≠ N + 1; omega) (.slice a5 lar.length k5))
      replace HB := Lib.hid (below_aside HB.out hst (fun k hk => ⟨by have := HSZ.out; omega, by omega⟩))
      replace HSZ := Lib.hid (Nat.le_trans HSZ.out hst.size)
      replace HQ := Lib.hid (HQ.out.aside hst (fun k hk hg => by have := (HQ.out.lt k hk).1; omega))
      replace HA := Lib.hid (HA.out.aside hst (fun k hk hg => by have := (HA.out.lt k hk).1; omega))
      replace HNN := Lib.hid (HNN.out.aside hst (fun k hk hg => by have := (HNN.out.lt k hk).1; omega))
      replace HRR := Lib.hid (HRR.out.aside hst (fun k hk hg => by have := (HRR.out.lt k hk).1; omega))
      clear hst
      go_wp2_with fail
      clear c0 c1 c3 c4 c5 c6 fz
      clear z0 z1 z2 z3 z4 z5 fy
      obtain ⟨wf, hwf⟩ : ∃ X, x5.setCell ⟨N, 5, none⟩ (.slice a5 lar.length k5) = X := ⟨_, rfl⟩
      rw [hwf] at HX HZ HB HSZ HQ HA HNN HRR ⊢
      have q6 := cel_put6 HZ.out (.int .i64 i0) (.int .i64 f0) (.slice a2 lq c2) (.slice a3 lan.length k3) (.slice a4 lns.length k4) (.slice a5 lar.length k5)
      have hst := aside_put6 wf (N + 1) (.int .i64 i0) (.int .i64 f0) (.slice a2 lq c2) (.slice a3 lan.length k3) (.slice a4 lns.length k4) (.slice a5 lar.length k5)
      obtain ⟨m0, m1, m2, m3, m4, m5⟩ := q6.six
      unfold put6 at m0 m1 m2 m3 m4 m5 hst
      refine bodyPost_ret (by simp [results, Try.results8, go_sem, m0, m1, m2, m3, m4, m5]) rfl ⟨_, rfl, ⟨.slice a2 lq c2, .slice a3 lan.length k3, .slice a4 lns.length k4, .slice a5 lar.length k5, rfl, ?_, ?_, ?_, ?_⟩, ?_⟩
      · exact (HQ.out.aside hst (fun k hk hg => by have := (HQ.out.lt k hk).1; omega)).base (by omega)
      · exact (HA.out.aside hst (fun k hk hg => by have := (HA.out.lt k hk).1; omega)).base (by omega)
      · exact (HNN.out.aside hst (fun k hk hg => by have := (HNN.out.lt k hk).1; omega)).base (by omega)
      · exact (HRR.out.aside hst (fun k hk hg => by have := (HRR.out.lt k hk).1; omega)).base (by omega)
      · exact below_aside HB.out hst (fun k hk => ⟨by have := HSZ.out; omega, by omega⟩)
end Go.Proofs.Ytcjgbholgbjejaa

/-
  What EdnsPuts needs of copies: rows that stand in no given block.
-/
namespace Go.Proofs.Ytcjgbholgbjejaa
open Go.RowKit Go.Shelf
set_option linter.unusedVariables false
set_option linter.unusedSimpArgs false
set_option maxRecDepth 100000

theorem mil_of {most M : Nat} {m : Ms} (h : bigMs most M m = false) (h1 : most ≤ 800000) (h2 : M ≤ 900000) : Mild m ∧ m.q.length + m.an.length + m.ns.length + m.ar.length ≤ 800000 := by
  obtain ⟨k1, k2, k3, k4, k5⟩ := bigMs_no h
  exact ⟨⟨by omega, fun x hx => by have := k2 x hx; omega, fun x hx => by have := k3 x hx; omega, fun x hx => by have := k4 x hx; omega, fun x hx => by have := k5 x hx; omega⟩, by omega⟩
theorem cely {wX w : World} {q Z : Nat} {l : List Value} (h : Cel wX q l) (hZ : wX.heap.size = Z) (hb : Below Z wX w) (h0 : 0 < l.length := by simp) : Cel w q l := h.below h0 (by rw [hZ]; exact hb)
theorem mgy {wX w : World} {Z : Nat} {v : Value} {m : Ms} (h : Mg wX wX.heap.size v m) (hZ : wX.heap.size = Z) (hb : Below Z wX w) : Mg w Z v m := by rw [hZ] at h; exact h.below hb (Nat.le_refl _)
theorem egy {wX w : World} {Z : Nat} {v : Value} {m : Ed} (h : Eg wX wX.heap.size v m) (hZ : wX.heap.size = Z) (hb : Below Z wX w) : Eg w Z v m := by rw [hZ] at h; exact h.below hb (Nat.le_refl _)
/-- No row of a message stands in that block. -/
def OffM (v : Value) (b : Nat) : Prop := ∃ i f q a n r, v = .agg #[i, f, q, a, n, r] ∧ (∀ k, q.ownBlock = some k → k ≠ b) ∧ (∀ k, a.ownBlock = some k → k ≠ b) ∧ (∀ k, n.ownBlock = some k → k ≠ b) ∧ (∀ k, r.ownBlock = some k → k ≠ b)
def OffE (v : Value) (b : Nat) : Prop := ∃ s x u c o, v = .agg #[s, x, u, c, o] ∧ (∀ k, o.ownBlock = some k → k ≠ b)
theorem OwnM.offm {w : World} {B b : Nat} {v : Value} {m : Ms} (h : OwnM w B v m) (hb : b < B ∨ w.heap.size ≤ b) : OffM v b := by
  obtain ⟨q, a, n, r, rfl, h1, h2, h3, h4⟩ := h
  exact ⟨_, _, q, a, n, r, rfl, fun k hk => by have := World.ownsRow.lt h1 k hk; omega, fun k hk => by have := World.ownsRow.lt h2 k hk; omega, fun k hk => by have := World.ownsRow.lt h3 k hk; omega, fun k hk => by have := World.ownsRow.lt h4 k hk; omega⟩
theorem CpM.offm {w : World} {B b : Nat} {v : Value} {m : Ms} (h : CpM w B v m) (hb : b < B ∨ w.heap.size ≤ b) : OffM v b := by
  obtain ⟨q, a, n, r, rfl, h1, h2, h3, h4⟩ := h
  exact ⟨_, _, q, a, n, r, rfl, fun k hk => by have := h1.lt k hk; omega, fun k hk => by have := h2.lt k hk; omega, fun k hk => by have := h3.lt k hk; omega, fun k hk => by have := h4.lt k hk; omega⟩
theorem CpM.asideB {w w' : World} {B b : Nat} {v : Value} {m : Ms} (h : CpM w B v m) (ho : OffM v b) (ha : Aside (fun k => k = b) w w') : CpM w' B v m := by
  obtain ⟨q, a, n, r, rfl, h1, h2, h3, h4⟩ := h
  obtain ⟨i, f, q', a', n', r', he, g1, g2, g3, g4⟩ := ho
  injection he with he
  simp only [Array.mk.injEq, List.cons.injEq, and_true] at he
  obtain ⟨e1, e2, rfl, rfl, rfl, rfl⟩ := he
  exact ⟨q, a, n, r, rfl, h1.aside ha fun k hk hg => g1 k hk hg, h2.aside ha fun k hk hg => g2 k hk hg, h3.aside ha fun k hk hg => g3 k hk hg, h4.aside ha fun k hk hg => g4 k hk hg⟩
theorem Egw.offe {w : World} {B b : Nat} {v : Value} {e : Ed} (h : Egw w B v e) (hb : b < B ∨ w.heap.size ≤ b) : OffE v b := by
  obtain ⟨o, rfl, h1⟩ := h
  exact ⟨_, _, _, _, o, rfl, fun k hk => by have := World.ownsRow.lt h1 k hk; omega⟩
theorem Egw.asideB {w w' : World} {B b : Nat} {v : Value} {e : Ed} (h : Egw w B v e) (ho : OffE v b) (ha : Aside (fun k => k = b) w w') : Egw w' B v e := by
  obtain ⟨o, rfl, h1⟩ := h
  obtain ⟨s, x, u, c, o', he, g⟩ := ho
  injection he with he
  simp only [Array.mk.injEq, List.cons.injEq, and_true] at he
  obtain ⟨e1, e2, e3, e4, rfl⟩ := he
  exact ⟨o, rfl, row_aside h1 ha fun k hk hg => g k hk hg⟩
theorem CpM.capR {w : World} {B : Nat} {v : Value} {m : Ms} (h : CpM w B v m) : CapR v m.ar.length := by
  obtain ⟨q, a, n, r, rfl, _, _, _, h4⟩ := h
  obtain ⟨g, c, rfl, hc, _⟩ := h4.spot
  exact ⟨_, _, _, _, _, _, _, rfl, by omega⟩
theorem cpm_shape {w : World} {B : Nat} {v : Value} {m : Ms} (h : CpM w B v m) : ∃ b1 e1 b2 e2 b3 e3 b4 e4, v = .agg #[.int .i64 m.id, .int .i64 m.fl, .slice b1 m.q.length e1, .slice b2 m.an.length e2, .slice b3 m.ns.length e3, .slice b4 m.ar.length e4] := by
  obtain ⟨q, a, n, r, rfl, ⟨b1, e1, rfl, _⟩, ⟨b2, e2, rfl, _⟩, ⟨b3, e3, rfl, _⟩, ⟨b4, e4, rfl, _⟩⟩ := h
  exact ⟨_, _, _, _, _, _, _, _, rfl⟩
theorem egw_shape {w : World} {B : Nat} {v : Value} {e : Ed} (h : Egw w B v e) : ∃ b c, v = .agg #[.int .i64 e.s, .int .i64 e.x, .int .i64 e.v, .bool e.b, .slice b e.o.length c] := by
  obtain ⟨o, rfl, h1⟩ := h
  obtain ⟨b, c, rfl⟩ := row_shape h1
  exact ⟨_, _, rfl⟩
theorem puM_tot (m : Ms) (e : Ed) : (puM m e).1.q.length + (puM m e).1.an.length + (puM m e).1.ns.length + (puM m e).1.ar.length ≤ m.q.length + m.an.length + m.ns.length + m.ar.length + 1 := by
  unfold puM
  split
  · simp
  · split
    · simp
    · unfold adM; simp; omega

set_option maxHeartbeats 1000000 in
theorem copyE2_any {w : World} {hi : Nat} {u : Value} {e : Ed} (h : Eg w hi u e) (h1 : hi ≤ w.heap.size) (hl : e.o.length ≤ 900000) :
    Calls Try.prog 23 #[u] w (fun x w' => ∃ v, x = .returned v ∧ Egw w' w.heap.size v e ∧ Below w.heap.size w w') := by
  obtain ⟨o, rfl, hs⟩ := h
  obtain ⟨es, ex, ev, eb, l⟩ := e
  unfold Egw
  simp only at hs hl ⊢
  obtain ⟨a, c, rfl⟩ := Lst.shape hs
  obtain ⟨N, hN⟩ : ∃ N, w.heap.size = N := ⟨_, rfl⟩
  have hl2 : l.length ≤ 140737488351232 := by omega
  have sX : (((w.alloc (.cells #[.int .i64 es, .int .i64 ex, .int .i64 ev, .bool eb, .slice a l.length c] 30)).alloc (.cells #[.int .i64 0, .int .i64 0, .int .i64 0, .bool false, .slice none 0 0] 30)).heap.size = N + 2) := by simp [hN]
  have hb1 : Below w.heap.size w ((w.alloc (.cells #[.int .i64 es, .int .i64 ex, .int .i64 ev, .bool eb, .slice a l.length c] 30)).alloc (.cells #[.int .i64 0, .int .i64 0, .int .i64 0, .bool false, .slice none 0 0] 30)) := ((Below.refl _ _).alloc (Nat.le_refl _) _).alloc (by simp) _
  have hx := (cel_new w (.int .i64 es) (.int .i64 ex) (.int .i64 ev) (.bool eb) (.slice a l.length c) 30).below (by simp) ((Below.refl _ _).alloc (Nat.le_refl _) (.cells #[.int .i64 0, .int .i64 0, .int .i64 0, .bool false, .slice none 0 0] 30))
  have hz := cel_new (w.alloc (.cells #[.int .i64 es, .int .i64 ex, .int .i64 ev, .bool eb, .slice a l.length c] 30)) (.int .i64 0) (.int .i64 0) (.int .i64 0) (.bool false) (.slice none 0 0) 30
  rw [World.size_alloc] at hz
  rw [hN] at hx hz hb1 h1
  obtain ⟨WX, hWX⟩ : ∃ X, (w.alloc (.cells #[.int .i64 es, .int .i64 ex, .int .i64 ev, .bool eb, .slice a l.length c] 30)).alloc (.cells #[.int .i64 0, .int .i64 0, .int .i64 0, .bool false, .slice none 0 0] 30) = X := ⟨_, rfl⟩
  rw [hWX] at hx hz hb1 sX
  have ho := World.ownsRow_made (e := 61) (size := 2) (base := N + 2) WX #[] 0 (by rw [sX]; exact Nat.le_refl _) (by decide) (by simp)
  rw [sX] at ho
  have hb2 : Below WX.heap.size WX (WX.alloc (.cells #[] 61)) := (Below.refl _ _).alloc (Nat.le_refl _) _
  have hs2 : SO (WX.alloc (.cells #[] 61)) hi (.slice a l.length c) l := Lst.below (Lst.below hs hb1 h1) hb2 (by omega)
  have hx2 := hx.below (by simp) hb2
  have hz2 := hz.below (by simp) hb2
  have hb3 : Below N w (WX.alloc (.cells #[] 61)) := hb1.alloc (by omega) _
  have sY : (WX.alloc (.cells #[] 61)).heap.size = N + 3 := by rw [World.size_alloc, sX]
  obtain ⟨a4, c4, w4, hr, ho4, ha4, _⟩ := run_appOt (l := []) (by exact ho) hs2 (by simp; omega) (by rw [sY]; omega)
  simp only [List.length_nil, Nat.zero_add, List.nil_append] at hr ho4
  have hbl : ∀ k, (Value.slice (some ⟨N + 2, 0, none⟩) 0 0).ownBlock = some k → k = N + 2 := fun k hk => by simpa [Value.ownBlock] using hk.symm
  have hx4 := hx2.aside (by simp) ha4 (fun h => by have := hbl _ h; omega)
  have hz4 := hz2.aside (by simp) ha4 (fun h => by have := hbl _ h; omega)
  have hb4 : Below N w w4 := below_aside hb3 ha4 (fun k hk => ⟨by omega, fun h => by have := hbl _ h; omega⟩)
  have s4 := ha4.size
  rw [sY] at s4
  have hst : Aside (fun k => k = N) w4 (w4.setCell ⟨N, 4, none⟩ (.slice a4 l.length c4)) := Aside.setCell w4 (p := ⟨N, 4, none⟩) _ rfl
  have hx5 := hx4.set (o := 4) (by simp) (.slice a4 l.length c4)
  simp only [List.set_cons_zero, List.set_cons_succ] at hx5
  have hz5 := hz4.aside (by simp) hst (by omega)
  have hk := cel_put5 hz5 (.int .i64 es) (.int .i64 ex) (.int .i64 ev) (.bool eb) (.slice a4 l.length c4)
  have hst2 := aside_put5 (w4.setCell ⟨N, 4, none⟩ (.slice a4 l.length c4)) (N + 1) (.int .i64 es) (.int .i64 ex) (.int .i64 ev) (.bool eb) (.slice a4 l.length c4)
  have hlo := World.ownsRow.lt ho4
  have ho5 : OwnO _ _ _ _ := row_aside (row_aside ho4 hst fun k hk hg => by have := (hlo k hk).1; omega) hst2 fun k hk hg => by have := (hlo k hk).1; omega
  have hb5 : Below N w (put5 (w4.setCell ⟨N, 4, none⟩ (.slice a4 l.length c4)) (N + 1) (.int .i64 es) (.int .i64 ex) (.int .i64 ev) (.bool eb) (.slice a4 l.length c4)) :=
    below_aside (below_aside hb4 hst (fun k hk => ⟨by omega, by omega⟩)) hst2 (fun k hk => ⟨by simp [World.setCell]; omega, by omega⟩)
  have HF := Lib.hid (And.intro (show OwnO _ N _ _ from row_base ho5 (by omega)) hb5)
  have HK := Lib.hid hk
  obtain ⟨x0, x1, x2, x3, x4⟩ := hx4.five
  obtain ⟨z0, z1, z2, z3, z4⟩ := hz4.five
  have fx := hx4.fz
  have fz := hz4.fz
  obtain ⟨i0, i1, i2, i3, i4⟩ := hx.five
  obtain ⟨j0, j1, j2, j3, j4⟩ := hx2.five
  have HR := Lib.hid hr
  clear hs ho hb1 hb2 hs2 hx hz hx2 hz2 hb3 hr ho4 ha4 hbl hx4 hz4 hb4 hst hx5 hz5 hk hst2 hlo ho5 hb5 s4 h1
  go_enter Try.func23, Try.ntmps23
  go_wp2_with (at_builtin; refine wpList_append_run (.tmp 3) (.tmp 5) 28 28 rfl rfl rfl rfl HR.out ?_)
  obtain ⟨m0, m1, m2, m3, m4⟩ := HK.out.five
  unfold put5 at HF m0 m1 m2 m3 m4
  refine bodyPost_ret (by simp [results, Try.results23, go_sem, m0, m1, m2, m3, m4]) rfl ⟨_, rfl, ⟨.slice a4 l.length c4, rfl, by rw [hN]; exact HF.out.1⟩, by rw [hN]; exact HF.out.2⟩
end Go.Proofs.Ytcjgbholgbjejaa
