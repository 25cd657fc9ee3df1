/-
  A message of too many entries, or of too long names and data: BigMessage.
-/
import Derived.Test.YteegekpanadmkaaGreatV08
import Derived.Test.YteegekpanadmkaaGreatV13
import Derived.Test.YteegekpanadmkaaGreatV12
import Derived.Test.YteegekpanadmkaaGreatV11
namespace Go.Proofs.YteegekpanadmkaaGreat
open Go.RowKit Go.Shelf
set_option linter.unusedVariables false
set_option linter.unusedSimpArgs false
set_option maxRecDepth 100000

def bigRm (M : Nat) (x : Rc) : Bool := decide (M < x.n.length) || decide (M < x.d.length)
def bigQm (M : Nat) (x : Qn) : Bool := decide (M < x.n.length)
def bigMs (most M : Nat) (m : Ms) : Bool := decide (most < m.q.length + m.an.length + m.ns.length + m.ar.length) || (m.q.any (bigQm M) || (m.an.any (bigRm M) || (m.ns.any (bigRm M) || m.ar.any (bigRm M))))

set_option maxHeartbeats 2000000 in
theorem bigRs_any {w : World} {hi : Nat} {u : Value} {l : List Rc} (M : Nat) (hM : M ≤ 1000000) (h : SR w hi u l) (h1 : hi ≤ w.heap.size) :
    Calls Tryz.prog 55 #[u, .int .i64 M] w fun e w' => e = .returned (.bool (l.any (bigRm M))) ∧ w = w' := by
  obtain ⟨r, hr⟩ : ∃ r, l.any (bigRm M) = r := ⟨_, rfl⟩
  rw [hr]
  have HR := Lib.hid hr
  have HX := Lib.hid h
  have HN := Lib.hid (Lst.len h)
  obtain ⟨a, c, rfl⟩ := Lst.shape h
  clear hr h
  go_enter Tryz.func55, Tryz.ntmps55
  go_wp2
  go_loopg [5] l.length (fun k v5 wr => ∃ j : Nat, j + k = l.length ∧ v5 = .int .i64 j ∧ Hid ((l.take j).any (bigRm M) = false) ∧ w = wr)
  case atStart => exact ⟨0, by omega, rfl, by simp [Hid], rfl⟩
  case round =>
    obtain ⟨j, hj, rfl, HA, rfl⟩ := hrel
    have hlen := HN.out
    by_cases hlt : j < l.length
    · obtain ⟨b, off, c2, he, hb, c0, _, _, _, c4⟩ := HX.out.at_ j hlt
      injection he with he hn3 hc3
      clear hn3 hc3
      subst he
      have hany := HA.out
      have htk : l.take (j + 1) = l.take j ++ [l[j]] := by rw [List.take_add_one, List.getElem?_eq_getElem hlt]; rfl
      have HM := Lib.hid (List.getElem_mem hlt)
      obtain ⟨x, hx⟩ : ∃ x, l[j] = x := ⟨_, rfl⟩
      rw [hx] at c0 c4 htk HM
      obtain ⟨n, t, cl, tl, d⟩ := x
      simp only at c0 c4
      have hns : (bs n).size = n.length := bs_size n
      have hds : (bs d).size = d.length := bs_size d
      by_cases h1 : M < n.length
      · have HE := Lib.hid (show r = true by rw [← HR.out]; exact List.any_eq_true.mpr ⟨_, HM.out, by unfold bigRm; simp [h1]⟩)
        have t1 : decide ((M : Int) < n.length) = true := by simp; omega
        clear hany htk hx HA HM
        go_wp2_with fail
        go_ret
        exact ⟨by rw [HE.out]; rfl, rfl⟩
      · have t1 : decide ((M : Int) < n.length) = false := by simp; omega
        by_cases h2 : M < d.length
        · have HE := Lib.hid (show r = true by rw [← HR.out]; exact List.any_eq_true.mpr ⟨_, HM.out, by unfold bigRm; simp [h2]⟩)
          have t2 : decide ((M : Int) < d.length) = true := by simp; omega
          clear hany htk hx HA HM
          go_wp2_with fail
          go_ret
          exact ⟨by rw [HE.out]; rfl, rfl⟩
        · have t2 : decide ((M : Int) < d.length) = false := by simp; omega
          have HA2 := Lib.hid (show (l.take (j + 1)).any (bigRm M) = false by rw [htk, List.any_append, hany]; simp [bigRm]; omega)
          clear hany htk hx HA HM
          go_wp2_with fail
          go_roundg (l.length - (j + 1))
          case measure => omega
          case rel => exact ⟨j + 1, by omega, by go_num, HA2, rfl⟩
    · have hje : j = l.length := by omega
      have HE := Lib.hid (show r = false by
        rw [← HR.out]
        have := HA.out
        rw [List.take_of_length_le (by omega)] at this
        exact this)
      clear HA
      have t1 : ¬ ((j : Int) < l.length) := by omega
      go_wp2_with fail
      go_ret
      exact ⟨by rw [HE.out]; rfl, rfl⟩

set_option maxHeartbeats 4000000 in
theorem bigM_any {w : World} {hi : Nat} {u : Value} {m : Ms} (most M : Nat) (hmo : most ≤ 1000000) (hM : M ≤ 1000000) (h : Mg w hi u m) (h1 : hi ≤ w.heap.size) :
    Calls Tryz.prog 28 #[u, .int .i64 most, .int .i64 M] w (Tells w (.bool (bigMs most M m))) := by
  obtain ⟨q, a, n, r, rfl, hq, ha, hn, hr⟩ := h
  have HLQ := Lib.hid (Lst.len hq)
  have HLA := Lib.hid (Lst.len ha)
  have HLN := Lib.hid (Lst.len hn)
  have HLR := Lib.hid (Lst.len hr)
  have HCA := Lib.hid (fun wx (hb : Below w.heap.size w wx) => bigRs_any M hM (Lst.below ha hb h1) (Nat.le_trans h1 hb.size))
  have HCN := Lib.hid (fun wx (hb : Below w.heap.size w wx) => bigRs_any M hM (Lst.below hn hb h1) (Nat.le_trans h1 hb.size))
  have HCR := Lib.hid (fun wx (hb : Below w.heap.size w wx) => bigRs_any M hM (Lst.below hr hb h1) (Nat.le_trans h1 hb.size))
  have HQ := Lib.hid hq
  have HHI := Lib.hid h1
  obtain ⟨qa, qc, rfl⟩ := Lst.shape hq
  obtain ⟨aa, ac, rfl⟩ := Lst.shape ha
  obtain ⟨na, nc, rfl⟩ := Lst.shape hn
  obtain ⟨ra, rc, rfl⟩ := Lst.shape hr
  obtain ⟨i0, hi0⟩ : ∃ i, m.id = i := ⟨_, rfl⟩
  obtain ⟨f0, hf0⟩ : ∃ i, m.fl = i := ⟨_, rfl⟩
  obtain ⟨R, hR⟩ : ∃ r, bigMs most M m = r := ⟨_, rfl⟩
  rw [hi0, hf0, hR]
  unfold bigMs at hR
  obtain ⟨b1, hb1⟩ : ∃ r, m.an.any (bigRm M) = r := ⟨_, rfl⟩
  obtain ⟨b2, hb2⟩ : ∃ r, m.ns.any (bigRm M) = r := ⟨_, rfl⟩
  obtain ⟨b3, hb3⟩ : ∃ r, m.ar.any (bigRm M) = r := ⟨_, rfl⟩
  rw [hb1, hb2, hb3] at hR
  rw [hb1] at HCA
  rw [hb2] at HCN
  rw [hb3] at HCR
  obtain ⟨l, hlq⟩ : ∃ l, m.q = l := ⟨_, rfl⟩
  rw [hlq] at hR HQ HLQ ⊢
  obtain ⟨ln, hln⟩ : ∃ l, m.an.length = l := ⟨_, rfl⟩
  rw [hln] at hR HLA HCA ⊢
  obtain ⟨lm, hlm⟩ : ∃ l, m.ns.length = l := ⟨_, rfl⟩
  rw [hlm] at hR HLN HCN ⊢
  obtain ⟨lr, hlr⟩ : ∃ l, m.ar.length = l := ⟨_, rfl⟩
  rw [hlr] at hR HLR HCR ⊢
  have hb0 : Below w.heap.size w (w.alloc (.cells #[.int .i64 i0, .int .i64 f0, .slice qa l.length qc, .slice aa ln ac, .slice na lm nc, .slice ra lr rc] 25)) := (Below.refl _ _).alloc (Nat.le_refl _) _
  have HB := Lib.hid hb0
  have HX := Lib.hid (cel_new6 w (.int .i64 i0) (.int .i64 f0) (.slice qa l.length qc) (.slice aa ln ac) (.slice na lm nc) (.slice ra lr rc) 25)
  have HR := Lib.hid hR
  clear hb1 hb2 hb3 hlq hln hlm hlr hi0 hf0 hq ha hn hr h1 hb0 hR
  have g1 := HLQ.out
  have g2 := HLA.out
  have g3 := HLN.out
  have g4 := HLR.out
  by_cases hbig : most < l.length + ln + lm + lr
  · have t0 : decide ((most : Int) < (l.length : Int) + ln + lm + lr) = true := by simp; omega
    have HE := Lib.hid (show R = true by rw [← HR.out]; simp [hbig])
    go_enter Tryz.func28, Tryz.ntmps28
    go_wp2_with fail
    go_ret
    exact ⟨by rw [HE.out]; rfl, HB.out⟩
  · have t0 : decide ((most : Int) < (l.length : Int) + ln + lm + lr) = false := by simp; omega
    have e0 : decide (most < l.length + ln + lm + lr) = false := by simp; omega
    have HR2 := Lib.hid (show (l.any (bigQm M) || (b1 || (b2 || b3))) = R by rw [← HR.out, e0]; rfl)
    obtain ⟨W, hW⟩ : ∃ W, w.alloc (.cells #[.int .i64 i0, .int .i64 f0, .slice qa l.length qc, .slice aa ln ac, .slice na lm nc, .slice ra lr rc] 25) = W := ⟨_, rfl⟩
    obtain ⟨N, hN⟩ : ∃ N, w.heap.size = N := ⟨_, rfl⟩
    rw [hW] at HB HX
    rw [hN] at HX
    obtain ⟨c0, c1, c2, c3, c4, c5⟩ := HX.out.six
    clear e0 HR
    go_enter Tryz.func28, Tryz.ntmps28
    go_wp2_with fail
    clear t0 hbig
    go_loopg [7] l.length (fun k v7 wr => ∃ j : Nat, j + k = l.length ∧ v7 = .int .i64 j ∧ Hid ((l.take j).any (bigQm M) = false) ∧ W = wr)
    case atStart => exact ⟨0, by omega, rfl, by simp [Hid], by first | rfl | exact hW.symm⟩
    case round =>
      clear hW
      obtain ⟨j, hj, rfl, HA, rfl⟩ := hrel
      by_cases hlt : j < l.length
      · obtain ⟨b, off, cc, he, hb, hc⟩ := HQ.out.at_ j hlt
        obtain ⟨d0, d1, d2⟩ := hc.keep fun o => HB.out.cell (p := ⟨b, o, none⟩) (Nat.lt_of_lt_of_le hb HHI.out)
        injection he with he hn3 hc3
        clear hn3 hc3
        subst he
        have hany := HA.out
        have htk : l.take (j + 1) = l.take j ++ [l[j]] := by rw [List.take_add_one, List.getElem?_eq_getElem hlt]; rfl
        have HM := Lib.hid (List.getElem_mem hlt)
        obtain ⟨x, hx⟩ : ∃ x, l[j] = x := ⟨_, rfl⟩
        rw [hx] at d0 htk HM
        obtain ⟨n, t, cl⟩ := x
        simp only at d0
        have hns : (bs n).size = n.length := bs_size n
        by_cases h1 : M < n.length
        · have HE := Lib.hid (show R = true by rw [← HR2.out, show l.any (bigQm M) = true from List.any_eq_true.mpr ⟨_, HM.out, by unfold bigQm; simp [h1]⟩]; rfl)
          have t1 : decide ((M : Int) < n.length) = true := by simp; omega
          clear hany htk hx HA HM hc hb d1 d2
          go_wp2_with fail
          go_ret
          exact ⟨by rw [HE.out]; rfl, by rw [← hN] at *; exact HB.out⟩
        · have t1 : decide ((M : Int) < n.length) = false := by simp; omega
          have HA2 := Lib.hid (show (l.take (j + 1)).any (bigQm M) = false by rw [htk, List.any_append, hany]; simp [bigQm]; omega)
          clear hany htk hx HA HM hc hb d1 d2
          go_wp2_with fail
          go_roundg (l.length - (j + 1))
          case measure => omega
          case rel => exact ⟨j + 1, by omega, by go_num, HA2, rfl⟩
      · have hje : j = l.length := by omega
        have HE := Lib.hid (show (b1 || (b2 || b3)) = R by
          rw [← HR2.out]
          have := HA.out
          rw [List.take_of_length_le (by omega)] at this
          rw [this]
          rfl)
        clear HA
        have t1 : ¬ ((j : Int) < l.length) := by omega
        cases b1 with
        | true =>
          go_wp2_with fail
          refine (HCA.out _ HB.out).mono ?_; rintro e w1 ⟨rfl, rfl⟩
          go_wp2_with fail
          go_ret
          exact ⟨by rw [← HE.out]; rfl, HB.out⟩
        | false =>
          cases b2 with
          | true =>
            go_wp2_with fail
            refine (HCA.out _ HB.out).mono ?_; rintro e w1 ⟨rfl, rfl⟩
            go_wp2_with fail
            refine (HCN.out _ HB.out).mono ?_; rintro e w1 ⟨rfl, rfl⟩
            go_wp2_with fail
            go_ret
            exact ⟨by rw [← HE.out]; rfl, HB.out⟩
          | false =>
            go_wp2_with fail
            refine (HCA.out _ HB.out).mono ?_; rintro e w1 ⟨rfl, rfl⟩
            go_wp2_with fail
            refine (HCN.out _ HB.out).mono ?_; rintro e w1 ⟨rfl, rfl⟩
            go_wp2_with fail
            refine (HCR.out _ HB.out).mono ?_; rintro e w1 ⟨rfl, rfl⟩
            go_wp2_with fail
            go_ret
            exact ⟨by rw [← HE.out]; rfl, HB.out⟩

theorem bigMs_no {most M : Nat} {m : Ms} (h : bigMs most M m = false) : m.q.length + m.an.length + m.ns.length + m.ar.length ≤ most ∧ (∀ x ∈ m.q, x.n.length ≤ M) ∧ (∀ x ∈ m.an, x.n.length ≤ M ∧ x.d.length ≤ M) ∧ (∀ x ∈ m.ns, x.n.length ≤ M ∧ x.d.length ≤ M) ∧ (∀ x ∈ m.ar, x.n.length ≤ M ∧ x.d.length ≤ M) := by
  unfold bigMs at h
  simp only [Bool.or_eq_false_iff, List.any_eq_false, decide_eq_false_iff_not, Nat.not_lt] at h
  obtain ⟨h0, h1, h2, h3, h4⟩ := h
  have k : ∀ l : List Rc, (∀ x ∈ l, ¬ bigRm M x = true) → ∀ x ∈ l, x.n.length ≤ M ∧ x.d.length ≤ M := fun l hl x hx => by
    have := hl x hx
    unfold bigRm at this
    simp at this
    exact this
  refine ⟨h0, fun x hx => ?_, k _ h2, k _ h3, k _ h4⟩
  have := h1 x hx
  unfold bigQm at this
  simpa using this
end Go.Proofs.YteegekpanadmkaaGreat

/-
  A message's entries are laid on a sheet, and put in the order in which they are left out.
-/
namespace Go.Proofs.YteegekpanadmkaaGreat
open Go.RowKit Go.Shelf
set_option linter.unusedVariables false
set_option linter.unusedSimpArgs false
set_option maxRecDepth 100000

theorem cells10 (w : World) (l : List Value) (T : TypeId) : ∀ i u, l[i]? = some u → (w.alloc (.cells l.toArray T)).cell? ⟨w.heap.size, i, none⟩ = some u := fun i u hu => by
  rw [World.cell?_alloc_at _ _ _ _ (by have := (List.getElem?_eq_some_iff.mp hu).1; simp [this])]
  simp [hu]
theorem ownP_ne {b g n c : Nat} (h : ¬ b = g) : ∀ k, (Value.slice (some ⟨b, 0, none⟩) n c).ownBlock = some k → ¬ k = g := fun k hk e => by
  have : b = k := by simpa [Value.ownBlock] using hk
  omega
theorem row_some {w : World} {B n c k : Nat} {e : TypeId} {a : Option Addr} {xs : List Value} (h : w.ownsRow B e k (.slice a n c) n xs) (h0 : 0 < n) : ∃ g, (Value.slice a n c) = .slice (some ⟨g, 0, none⟩) n c := by
  rcases h.2 with ⟨h1, h2⟩ | ⟨g, cap, cur, h1, _⟩
  · omega
  · injection h1 with h1 _ _
    exact ⟨g, by rw [h1]⟩
def Wd (w : World) (B p b : Nat) (i f : Int) (E : List En) (ord : List Nat) (va vo : Value) (O : List Bool) : Prop :=
  Cel w p [.int .i64 i, .int .i64 f, va, vo] ∧ O.length = E.length ∧ OwnEn w B va E O ∧ p < B ∧
    ((E.length = 0 ∧ vo = .slice none 0 0) ∨ ∃ c g d, va = .slice (some ⟨b, 0, none⟩) E.length c ∧ vo = .slice (some ⟨g, 0, none⟩) E.length d ∧ Pr w B b g d E.length ord)
def Sht (w : World) (B p b : Nat) (i f : Int) (E : List En) (ord : List Nat) : Prop := ∃ va vo O, Wd w B p b i f E ord va vo O
def LayPost (w : World) (i f : Int) (E : List En) (e : Ending) (w' : World) : Prop := ∃ p b ord, e = .returned (.pointer (some ⟨p, 0, none⟩)) ∧ w.heap.size ≤ p ∧ w.heap.size ≤ b ∧ b < w'.heap.size ∧ p ≠ b ∧ Sht w' (p + 1) p b i f E ord ∧ Mrg (kOf E) ord (List.range E.length).reverse ∧ Below w.heap.size w w'

set_option maxHeartbeats 8000000 in
theorem lay_any {w : World} {hi : Nat} {u : Value} {m : Ms} (h : Mg w hi u m) (h1 : hi ≤ w.heap.size) (hl : (ents m).length ≤ 100000) :
    Calls Tryz.prog 30 #[u] w (LayPost w m.id m.fl (ents m)) := by
  have hll := ents_len m
  obtain ⟨i0, f0, lq, lan, lns, lar⟩ := m
  obtain ⟨q, a, n, r, rfl, hq, ha, hn, hr⟩ := h
  simp only at hll hq ha hn hr ⊢
  obtain ⟨N, hN⟩ : ∃ g, w.heap.size = g := ⟨_, rfl⟩
  obtain ⟨qa, qc, rfl⟩ := Lst.shape hq
  obtain ⟨aa, ac, rfl⟩ := Lst.shape ha
  obtain ⟨na, nc, rfl⟩ := Lst.shape hn
  obtain ⟨ra, rc, rfl⟩ := Lst.shape hr
  obtain ⟨cq, hcq⟩ : ∃ k, lq.length = k := ⟨_, rfl⟩
  obtain ⟨ca, hca⟩ : ∃ k, lan.length = k := ⟨_, rfl⟩
  obtain ⟨cn, hcn⟩ : ∃ k, lns.length = k := ⟨_, rfl⟩
  obtain ⟨cr, hcr⟩ : ∃ k, lar.length = k := ⟨_, rfl⟩
  have HQ := Lib.hid (fun wx (hb : Below N w wx) => (Lst.below hq hb (by omega) : SQ wx hi _ lq))
  have HA := Lib.hid (fun wx (hb : Below N w wx) => (Lst.below ha hb (by omega) : SR wx hi _ lan))
  have HN := Lib.hid (fun wx (hb : Below N w wx) => (Lst.below hn hb (by omega) : SR wx hi _ lns))
  have HR := Lib.hid (fun wx (hb : Below N w wx) => (Lst.below hr hb (by omega) : SR wx hi _ lar))
  have HLEN := Lib.hid (And.intro hll (And.intro hcq (And.intro hca (And.intro hcn (And.intro hcr (And.intro hl (And.intro h1 hN)))))))
  have HQ0 := HQ
  have HA0 := HA
  have HN0 := HN
  have HR0 := HR
  rw [hcq] at HQ
  rw [hca] at HA
  rw [hcn] at HN
  rw [hcr] at HR
  rw [hcq, hca, hcn, hcr]
  have hbn : cq ≤ 100000 ∧ ca ≤ 100000 ∧ cn ≤ 100000 ∧ cr ≤ 100000 := by omega
  obtain ⟨b1, b2, b3, b4⟩ := hbn
  have HST := Lib.hid (show ShA w ((w.alloc (.cells #[.int .i64 i0, .int .i64 f0, .slice qa cq qc, .slice aa ca ac, .slice na cn nc, .slice ra cr rc] 25)).alloc (.cells #[.int .i64 i0, .int .i64 f0, .slice none 0 0, .slice none 0 0] 63)) N i0 f0 (.slice qa cq qc) (.slice aa ca ac) (.slice na cn nc) (.slice ra cr rc) (.slice none 0 0) [] by
    have hz := cel_new4 (w.alloc (.cells #[.int .i64 i0, .int .i64 f0, .slice qa cq qc, .slice aa ca ac, .slice na cn nc, .slice ra cr rc] 25)) (.int .i64 i0) (.int .i64 f0) (.slice none 0 0) (.slice none 0 0) 63
    rw [World.size_alloc, hN] at hz
    have hx := (cel_new6 w (.int .i64 i0) (.int .i64 f0) (.slice qa cq qc) (.slice aa ca ac) (.slice na cn nc) (.slice ra cr rc) 25).below (by simp) ((Below.refl _ _).alloc (Nat.le_refl _) (.cells #[.int .i64 i0, .int .i64 f0, .slice none 0 0, .slice none 0 0] 63))
    rw [hN] at hx
    refine ⟨?_, hx, hz, World.ownsRow_nil _ _ _ _, by simp [hN]⟩
    rw [← hN]
    exact ((Below.refl _ _).alloc (Nat.le_refl _) _).alloc (by simp) _)
  have hszN : (w.alloc (.cells #[.int .i64 i0, .int .i64 f0, .slice qa cq qc, .slice aa ca ac, .slice na cn nc, .slice ra cr rc] 25)).heap.size = N + 1 := by simp [hN]
  clear hq ha hn hr hll hcq hca hcn hcr hl h1
  go_enter Tryz.func30, Tryz.ntmps30
  go_wp2_with fail
  go_loopg [22] cq (fun kx s wr => ∃ (j : Nat) (va : Value), j + kx = cq ∧ s = .int .i64 j ∧ Hid (ShA w wr N i0 f0 (.slice qa cq qc) (.slice aa ca ac) (.slice na cn nc) (.slice ra cr rc) va (([] : List En) ++ (lq.take j).map enQ)))
  case atStart => exact ⟨0, _, by omega, rfl, Lib.hid (by simpa using HST.out)⟩
  case round =>
    clear HST
    obtain ⟨j, va, hj, rfl, HS⟩ := hrel
    by_cases hlt : j < cq
    · have hjl : j < lq.length := by have := HLEN.out; omega
      obtain ⟨bb, off, c0, hv, hbb, hat⟩ := SQ.at_ (HQ0.out wr HS.out.bel) j hjl
      injection hv with hv hv2 hv3
      clear hv2
      subst hv; subst hv3
      obtain ⟨x, hx⟩ : ∃ x, lq[j] = x := ⟨_, rfl⟩
      rw [hx] at hat
      have HX := Lib.hid (show (lq.take (j + 1)).map enQ = (lq.take j).map enQ ++ [enQ x] by rw [List.take_succ_eq_append_getElem hjl, hx, List.map_append]; rfl)
      obtain ⟨x1, x2, x3⟩ := x
      obtain ⟨d1, d2, d3⟩ := hat
      simp only at d1 d2 d3
      obtain ⟨sb, sc, rfl⟩ := HS.out.shape
      have HE := Lib.hid (show (([] : List En) ++ (lq.take j).map enQ).length + 1 ≤ 1000000 by have := HLEN.out; have h2 := List.length_take_le j lq; simp only [List.length_append, List.length_map, List.length_nil]; omega)
      obtain ⟨le, hle⟩ : ∃ k, (([] : List En) ++ (lq.take j).map enQ).length = k := ⟨_, rfl⟩
      have e2 : wr.cell? ⟨N + 1, 2, none⟩ = some (.slice sb le sc) := by rw [← hle]; exact HS.out.s.c 2 (by simp)
      obtain ⟨b9, c9, W2, hrun, k2, kf, hS2⟩ := HS.out.app (W := (wr.alloc (.cells #[.string (bs x1), .int .i64 x2, .int .i64 x3] 56)).drew.alloc (.cells #[.int .i64 4, .string (bs x1), .int .i64 x2, .int .i64 x3, .string ⟨#[]⟩, .int .i64 0, .int .i64 0, .int .i64 0, .string ⟨#[]⟩, .bool false] 95)) ((((Below.refl _ wr).alloc (Nat.le_refl _) _).drew).alloc (by simp [World.drew]) _) (enQ (⟨x1, x2, x3⟩ : Qn)) (wr.heap.size + 1) (fun i u hu => by
        have := cells10 (wr.alloc (.cells #[.string (bs x1), .int .i64 x2, .int .i64 x3] 56)).drew (ce (enQ (⟨x1, x2, x3⟩ : Qn)) false) 95 i u hu
        rw [show (wr.alloc (.cells #[.string (bs x1), .int .i64 x2, .int .i64 x3] 56)).drew.heap.size = wr.heap.size + 1 by simp [World.drew]] at this
        exact this) HE.out
      rw [hle] at hrun k2 hS2
      have HRUN := Lib.hid hrun
      have HS2 := Lib.hid hS2
      have k3 := kf 2
      have n1 : N + 1 < wr.heap.size := by have := HS.out.size; omega
      have n2 : N + 1 < wr.heap.size + 1 := by omega
      clear hrun hS2 kf hle hx hbb
      go_wp2_with fail
      go_region_law (refine step_app_run rfl (.tmp 30) (.tmp 33) 60 60 rfl rfl rfl HRUN.out ?_)
      all_goals
        go_wp2_with fail
        go_roundg (cq - (j + 1))
        case rel => exact ⟨j + 1, .slice b9 (le + 1) c9, by omega, by go_num, Lib.hid (by rw [HX.out, ← List.append_assoc]; exact HS2.out)⟩
        case measure => omega
    have HST := Lib.hid (show ShA w wr N i0 f0 (.slice qa cq qc) (.slice aa ca ac) (.slice na cn nc) (.slice ra cr rc) va (([] : List En) ++ lq.map enQ) by
      have h := HS.out
      rwa [List.take_of_length_le (by have := HLEN.out; omega)] at h)
    obtain ⟨y0, y1, y2, y3, y4, y5⟩ := HS.out.x.six
    clear HS hj
    go_wp2_with fail
    clear y0 y1 y2 y3 y4 y5
    go_loopg [41] ca (fun kx s wr => ∃ (j : Nat) (va : Value), j + kx = ca ∧ s = .int .i64 j ∧ Hid (ShA w wr N i0 f0 (.slice qa cq qc) (.slice aa ca ac) (.slice na cn nc) (.slice ra cr rc) va (lq.map enQ ++ (lan.take j).map (enR 2))))
    case atStart => exact ⟨0, _, by omega, rfl, Lib.hid (by simpa using HST.out)⟩
    case round =>
      clear HST
      obtain ⟨j, va, hj, rfl, HS⟩ := hrel
      by_cases hlt : j < ca
      · have hjl : j < lan.length := by have := HLEN.out; omega
        obtain ⟨bb, off, c0, hv, hbb, hat⟩ := SR.at_ (HA0.out wr HS.out.bel) j hjl
        injection hv with hv hv2 hv3
        clear hv2
        subst hv; subst hv3
        obtain ⟨x, hx⟩ : ∃ x, lan[j] = x := ⟨_, rfl⟩
        rw [hx] at hat
        have HX := Lib.hid (show (lan.take (j + 1)).map (enR 2) = (lan.take j).map (enR 2) ++ [(enR 2) x] by rw [List.take_succ_eq_append_getElem hjl, hx, List.map_append]; rfl)
        obtain ⟨x1, x2, x3, x4, x5⟩ := x
        obtain ⟨d1, d2, d3, d4, d5⟩ := hat
        simp only at d1 d2 d3 d4 d5
        obtain ⟨sb, sc, rfl⟩ := HS.out.shape
        have HE := Lib.hid (show (lq.map enQ ++ (lan.take j).map (enR 2)).length + 1 ≤ 1000000 by have := HLEN.out; have h2 := List.length_take_le j lan; simp only [List.length_append, List.length_map, List.length_nil]; omega)
        obtain ⟨le, hle⟩ : ∃ k, (lq.map enQ ++ (lan.take j).map (enR 2)).length = k := ⟨_, rfl⟩
        have e2 : wr.cell? ⟨N + 1, 2, none⟩ = some (.slice sb le sc) := by rw [← hle]; exact HS.out.s.c 2 (by simp)
        obtain ⟨b9, c9, W2, hrun, k2, kf, hS2⟩ := HS.out.app (W := (wr.alloc (.cells #[.string (bs x1), .int .i64 x2, .int .i64 x3, .int .i64 x4, .string (bs x5)] 52)).drew.alloc (.cells #[.int .i64 2, .string ⟨#[]⟩, .int .i64 0, .int .i64 0, .string (bs x1), .int .i64 x2, .int .i64 x3, .int .i64 x4, .string (bs x5), .bool false] 95)) ((((Below.refl _ wr).alloc (Nat.le_refl _) _).drew).alloc (by simp [World.drew]) _) ((enR 2) (⟨x1, x2, x3, x4, x5⟩ : Rc)) (wr.heap.size + 1) (fun i u hu => by
          have := cells10 (wr.alloc (.cells #[.string (bs x1), .int .i64 x2, .int .i64 x3, .int .i64 x4, .string (bs x5)] 52)).drew (ce ((enR 2) (⟨x1, x2, x3, x4, x5⟩ : Rc)) false) 95 i u hu
          rw [show (wr.alloc (.cells #[.string (bs x1), .int .i64 x2, .int .i64 x3, .int .i64 x4, .string (bs x5)] 52)).drew.heap.size = wr.heap.size + 1 by simp [World.drew]] at this
          exact this) HE.out
        rw [hle] at hrun k2 hS2
        have HRUN := Lib.hid hrun
        have HS2 := Lib.hid hS2
        have k3 := kf 2
        have n1 : N + 1 < wr.heap.size := by have := HS.out.size; omega
        have n2 : N + 1 < wr.heap.size + 1 := by omega
        clear hrun hS2 kf hle hx hbb
        go_wp2_with fail
        go_region_law (refine step_app_run rfl (.tmp 49) (.tmp 52) 60 60 rfl rfl rfl HRUN.out ?_)
        all_goals
          go_wp2_with fail
          go_roundg (ca - (j + 1))
          case rel => exact ⟨j + 1, .slice b9 (le + 1) c9, by omega, by go_num, Lib.hid (by rw [HX.out, ← List.append_assoc]; exact HS2.out)⟩
          case measure => omega
      have HST := Lib.hid (show ShA w wr N i0 f0 (.slice qa cq qc) (.slice aa ca ac) (.slice na cn nc) (.slice ra cr rc) va (lq.map enQ ++ lan.map (enR 2)) by
        have h := HS.out
        rwa [List.take_of_length_le (by have := HLEN.out; omega)] at h)
      obtain ⟨y0, y1, y2, y3, y4, y5⟩ := HS.out.x.six
      clear HS hj
      go_wp2_with fail
      clear y0 y1 y2 y3 y4 y5
      go_loopg [60] cn (fun kx s wr => ∃ (j : Nat) (va : Value), j + kx = cn ∧ s = .int .i64 j ∧ Hid (ShA w wr N i0 f0 (.slice qa cq qc) (.slice aa ca ac) (.slice na cn nc) (.slice ra cr rc) va ((lq.map enQ ++ lan.map (enR 2)) ++ (lns.take j).map (enR 1))))
      case atStart => exact ⟨0, _, by omega, rfl, Lib.hid (by simpa using HST.out)⟩
      case round =>
        clear HST
        obtain ⟨j, va, hj, rfl, HS⟩ := hrel
        by_cases hlt : j < cn
        · have hjl : j < lns.length := by have := HLEN.out; omega
          obtain ⟨bb, off, c0, hv, hbb, hat⟩ := SR.at_ (HN0.out wr HS.out.bel) j hjl
          injection hv with hv hv2 hv3
          clear hv2
          subst hv; subst hv3
          obtain ⟨x, hx⟩ : ∃ x, lns[j] = x := ⟨_, rfl⟩
          rw [hx] at hat
          have HX := Lib.hid (show (lns.take (j + 1)).map (enR 1) = (lns.take j).map (enR 1) ++ [(enR 1) x] by rw [List.take_succ_eq_append_getElem hjl, hx, List.map_append]; rfl)
          obtain ⟨x1, x2, x3, x4, x5⟩ := x
          obtain ⟨d1, d2, d3, d4, d5⟩ := hat
          simp only at d1 d2 d3 d4 d5
          obtain ⟨sb, sc, rfl⟩ := HS.out.shape
          have HE := Lib.hid (show ((lq.map enQ ++ lan.map (enR 2)) ++ (lns.take j).map (enR 1)).length + 1 ≤ 1000000 by have := HLEN.out; have h2 := List.length_take_le j lns; simp only [List.length_append, List.length_map, List.length_nil]; omega)
          obtain ⟨le, hle⟩ : ∃ k, ((lq.map enQ ++ lan.map (enR 2)) ++ (lns.take j).map (enR 1)).length = k := ⟨_, rfl⟩
          have e2 : wr.cell? ⟨N + 1, 2, none⟩ = some (.slice sb le sc) := by rw [← hle]; exact HS.out.s.c 2 (by simp)
          obtain ⟨b9, c9, W2, hrun, k2, kf, hS2⟩ := HS.out.app (W := (wr.alloc (.cells #[.string (bs x1), .int .i64 x2, .int .i64 x3, .int .i64 x4, .string (bs x5)] 52)).drew.alloc (.cells #[.int .i64 1, .string ⟨#[]⟩, .int .i64 0, .int .i64 0, .string (bs x1), .int .i64 x2, .int .i64 x3, .int .i64 x4, .string (bs x5), .bool false] 95)) ((((Below.refl _ wr).alloc (Nat.le_refl _) _).drew).alloc (by simp [World.drew]) _) ((enR 1) (⟨x1, x2, x3, x4, x5⟩ : Rc)) (wr.heap.size + 1) (fun i u hu => by
            have := cells10 (wr.alloc (.cells #[.string (bs x1), .int .i64 x2, .int .i64 x3, .int .i64 x4, .string (bs x5)] 52)).drew (ce ((enR 1) (⟨x1, x2, x3, x4, x5⟩ : Rc)) false) 95 i u hu
            rw [show (wr.alloc (.cells #[.string (bs x1), .int .i64 x2, .int .i64 x3, .int .i64 x4, .string (bs x5)] 52)).drew.heap.size = wr.heap.size + 1 by simp [World.drew]] at this
            exact this) HE.out
          rw [hle] at hrun k2 hS2
          have HRUN := Lib.hid hrun
          have HS2 := Lib.hid hS2
          have k3 := kf 2
          have n1 : N + 1 < wr.heap.size := by have := HS.out.size; omega
          have n2 : N + 1 < wr.heap.size + 1 := by omega
          clear hrun hS2 kf hle hx hbb
          go_wp2_with fail
          go_region_law (refine step_app_run rfl (.tmp 68) (.tmp 71) 60 60 rfl rfl rfl HRUN.out ?_)
          all_goals
            go_wp2_with fail
            go_roundg (cn - (j + 1))
            case rel => exact ⟨j + 1, .slice b9 (le + 1) c9, by omega, by go_num, Lib.hid (by rw [HX.out, ← List.append_assoc]; exact HS2.out)⟩
            case measure => omega
        have HST := Lib.hid (show ShA w wr N i0 f0 (.slice qa cq qc) (.slice aa ca ac) (.slice na cn nc) (.slice ra cr rc) va ((lq.map enQ ++ lan.map (enR 2)) ++ lns.map (enR 1)) by
          have h := HS.out
          rwa [List.take_of_length_le (by have := HLEN.out; omega)] at h)
        obtain ⟨y0, y1, y2, y3, y4, y5⟩ := HS.out.x.six
        clear HS hj
        go_wp2_with fail
        clear y0 y1 y2 y3 y4 y5
        go_loopg [79] cr (fun kx s wr => ∃ (j : Nat) (va : Value), j + kx = cr ∧ s = .int .i64 j ∧ Hid (ShA w wr N i0 f0 (.slice qa cq qc) (.slice aa ca ac) (.slice na cn nc) (.slice ra cr rc) va ((lq.map enQ ++ lan.map (enR 2) ++ lns.map (enR 1)) ++ (lar.take j).map enA)))
        case atStart => exact ⟨0, _, by omega, rfl, Lib.hid (by simpa using HST.out)⟩
        case round =>
          clear HST
          obtain ⟨j, va, hj, rfl, HS⟩ := hrel
          by_cases hlt : j < cr
          · have hjl : j < lar.length := by have := HLEN.out; omega
            obtain ⟨bb, off, c0, hv, hbb, hat⟩ := SR.at_ (HR0.out wr HS.out.bel) j hjl
            injection hv with hv hv2 hv3
            clear hv2
            subst hv; subst hv3
            obtain ⟨x, hx⟩ : ∃ x, lar[j] = x := ⟨_, rfl⟩
            rw [hx] at hat
            have HX := Lib.hid (show (lar.take (j + 1)).map enA = (lar.take j).map enA ++ [enA x] by rw [List.take_succ_eq_append_getElem hjl, hx, List.map_append]; rfl)
            obtain ⟨x1, x2, x3, x4, x5⟩ := x
            obtain ⟨d1, d2, d3, d4, d5⟩ := hat
            simp only at d1 d2 d3 d4 d5
            obtain ⟨sb, sc, rfl⟩ := HS.out.shape
            have HE := Lib.hid (show ((lq.map enQ ++ lan.map (enR 2) ++ lns.map (enR 1)) ++ (lar.take j).map enA).length + 1 ≤ 1000000 by have := HLEN.out; have h2 := List.length_take_le j lar; simp only [List.length_append, List.length_map, List.length_nil]; omega)
            obtain ⟨le, hle⟩ : ∃ k, ((lq.map enQ ++ lan.map (enR 2) ++ lns.map (enR 1)) ++ (lar.take j).map enA).length = k := ⟨_, rfl⟩
            have e2 : wr.cell? ⟨N + 1, 2, none⟩ = some (.slice sb le sc) := by rw [← hle]; exact HS.out.s.c 2 (by simp)
            obtain ⟨kx, hkx⟩ : ∃ k, arK (⟨x1, x2, x3, x4, x5⟩ : Rc) = k := ⟨_, rfl⟩
            have HADD := Lib.hid (fun wx : World => (show Calls Tryz.prog 56 #[.agg #[.string (bs x1), .int .i64 x2, .int .i64 x3, .int .i64 x4, .string (bs x5)]] wx (Tells wx (.agg #[.int .i64 kx, .string ⟨#[]⟩, .int .i64 0, .int .i64 0, .string (bs x1), .int .i64 x2, .int .i64 x3, .int .i64 x4, .string (bs x5), .bool false])) by have := additional_any wx (⟨x1, x2, x3, x4, x5⟩ : Rc); rw [hkx] at this; exact this))
            have HAPP := Lib.hid (fun (wc : World) (hb : Below (wr.alloc (.cells #[.string (bs x1), .int .i64 x2, .int .i64 x3, .int .i64 x4, .string (bs x5)] 52)).drew.heap.size (wr.alloc (.cells #[.string (bs x1), .int .i64 x2, .int .i64 x3, .int .i64 x4, .string (bs x5)] 52)).drew wc) => (show ∃ b9 c9 W2, (Builtin.append_ #[60, 60] 60 #[.slice sb le sc, .slice (some ⟨wc.heap.size, 0, none⟩) 1 1]).run Tryz.prog (wc.alloc (.cells #[.int .i64 kx, .string ⟨#[]⟩, .int .i64 0, .int .i64 0, .string (bs x1), .int .i64 x2, .int .i64 x3, .int .i64 x4, .string (bs x5), .bool false] 95)) = .ok (.slice b9 (le + 1) c9) W2 ∧
                W2.cell? ⟨N + 1, 2, none⟩ = some (.slice sb le sc) ∧ W2.frozen? ⟨N + 1, 2, none⟩ = false ∧ wc.cell? ⟨N + 1, 2, none⟩ = some (.slice sb le sc) ∧ N + 1 < wc.heap.size ∧ ShA w (W2.setCell ⟨N + 1, 2, none⟩ (.slice b9 (le + 1) c9)) N i0 f0 (.slice qa cq qc) (.slice aa ca ac) (.slice na cn nc) (.slice (some ⟨bb, off, none⟩) cr rc) (.slice b9 (le + 1) c9) ((lq.map enQ ++ lan.map (enR 2) ++ lns.map (enR 1)) ++ (lar.take j).map enA ++ [enA (⟨x1, x2, x3, x4, x5⟩ : Rc)]) from by
              have hb0 : Below wr.heap.size wr wc := bel_call (((Below.refl _ wr).alloc (Nat.le_refl _) _).drew) hb
              obtain ⟨b9, c9, W2, hrun, k2, kf, hS2⟩ := HS.out.app (W := wc.alloc (.cells #[.int .i64 kx, .string ⟨#[]⟩, .int .i64 0, .int .i64 0, .string (bs x1), .int .i64 x2, .int .i64 x3, .int .i64 x4, .string (bs x5), .bool false] 95)) (hb0.alloc hb0.size _) (enA (⟨x1, x2, x3, x4, x5⟩ : Rc)) wc.heap.size (fun i u hu => by
                have hc := cells10 wc (ce (enA (⟨x1, x2, x3, x4, x5⟩ : Rc)) false) 95 i u hu
                rw [show ce (enA (⟨x1, x2, x3, x4, x5⟩ : Rc)) false = [.int .i64 kx, .string ⟨#[]⟩, .int .i64 0, .int .i64 0, .string (bs x1), .int .i64 x2, .int .i64 x3, .int .i64 x4, .string (bs x5), .bool false] by rw [← hkx]; rfl] at hc
                exact hc) HE.out
              rw [hle] at hrun k2 hS2
              exact ⟨b9, c9, W2, hrun, k2, kf 2, (hb0.cell (p := ⟨N + 1, 2, none⟩) (by have := HS.out.size; show N + 1 < _; omega)).trans e2, by have := HS.out.size; have := hb0.size; omega, hS2⟩))
            have n1 : N + 1 < wr.heap.size := by have := HS.out.size; omega
            have n2 : N + 1 < wr.heap.size + 1 := by omega
            clear hle hx hbb hkx
            go_wp2_with fail
            go_region_law (first | (refine step_app_run rfl (.tmp 87) (.tmp 90) 60 60 rfl rfl rfl HRUN.out ?_) | (go_simp; go_at_call 56; refine (HADD.out _).mono ?_; rintro en wc ⟨rfl, hb⟩; obtain ⟨b9, c9, W2, hrun, k2, k3, k4, k5, hS2⟩ := HAPP.out wc hb; have HRUN := Lib.hid hrun; have HS2 := Lib.hid hS2; clear hrun hS2 hb))
            all_goals
              go_wp2_with fail
              go_roundg (cr - (j + 1))
              case rel => exact ⟨j + 1, .slice b9 (le + 1) c9, by omega, by go_num, Lib.hid (by rw [HX.out, ← List.append_assoc]; exact HS2.out)⟩
              case measure => omega
          have HST := Lib.hid (show ShA w wr N i0 f0 (.slice qa cq qc) (.slice aa ca ac) (.slice na cn nc) (.slice ra cr rc) va ((lq.map enQ ++ lan.map (enR 2) ++ lns.map (enR 1)) ++ lar.map enA) by
            have h := HS.out
            rwa [List.take_of_length_le (by have := HLEN.out; omega)] at h)
          obtain ⟨y0, y1, y2, y3, y4, y5⟩ := HS.out.x.six
          clear HS hj
          clear y0 y1 y2 y3 y4 y5
          obtain ⟨E, hE⟩ : ∃ E, lq.map enQ ++ lan.map (enR 2) ++ lns.map (enR 1) ++ lar.map enA = E := ⟨_, rfl⟩
          have HEE := Lib.hid (show ents ⟨i0, f0, lq, lan, lns, lar⟩ = E by rw [← hE]; unfold ents; simp)
          rw [hE] at HST
          clear hE
          obtain ⟨sb, sc, rfl⟩ := HST.out.shape
          obtain ⟨NE, hNE⟩ : ∃ k, E.length = k := ⟨_, rfl⟩
          have HNE := Lib.hid (show E.length = NE ∧ NE ≤ 100000 from ⟨hNE, by rw [← hNE, ← HEE.out]; exact HLEN.out.2.2.2.2.2.1⟩)
          have HAB := Lib.hid (fun h => row_some HST.out.own h)
          rw [hNE] at HST HAB
          have x2 : wr.cell? ⟨N + 1, 2, none⟩ = some (.slice sb NE sc) := HST.out.s.c 2 (by simp)
          rcases Nat.eq_zero_or_pos NE with h0 | h0
          · have x3 : wr.cell? ⟨N + 1, 3, none⟩ = some (.slice none 0 0) := HST.out.s.c 3 (by simp)
            subst h0
            clear hNE
            have HREV := Lib.hid (fun wx => rev0_any wx)
            have HSRT := Lib.hid (fun wx => sort0_any wx)
            unfold lessF at HSRT
            go_wp2_with fail
            refine wp_loop_rounds 1 ?_
            rw [rounds_succ]
            go_wp2_with fail
            refine (HREV.out _).mono ?_; rintro en w1 ⟨rfl, rfl⟩
            go_wp2_with fail
            refine (HSRT.out _).mono ?_; rintro en w1 ⟨rfl, rfl⟩
            go_wp2_with fail
            go_ret
            have hEn : E.length = 0 := HNE.out.1
            refine ⟨N + 1, N, [], rfl, by have := HLEN.out; omega, by have := HLEN.out; omega, by have := HST.out.size; omega, by omega, ⟨_, _, List.replicate E.length false, HST.out.s, by rw [HEE.out]; simp, ?_, by omega, .inl ⟨?_, rfl⟩⟩, ?_, by rw [HLEN.out.2.2.2.2.2.2.2]; exact HST.out.bel⟩
            · have := HST.out.own
              unfold OwnEn at this ⊢
              rw [HEE.out]
              exact this
            · rw [HEE.out]; exact hEn
            · rw [HEE.out, hEn]
              exact Mrg.nil _
          · obtain ⟨ab, hab⟩ := HAB.out h0
            clear HAB
            injection hab with hab _ _
            subst hab
            have HSO := Lib.hid (show ShO w wr N i0 f0 (.slice (some ⟨ab, 0, none⟩) NE sc) (.slice none 0 0) E ab [] from ⟨HST.out.bel, HST.out.s, HST.out.own, World.ownsRow_nil _ _ _ _, HST.out.size⟩)
            clear hNE HST
            go_wp2_with fail
            clear x2
            go_loopg [100] NE (fun kx s wr => ∃ (j : Nat) (vo : Value), j + kx = NE ∧ s = .int .i64 j ∧ Hid (ShO w wr N i0 f0 (.slice (some ⟨ab, 0, none⟩) NE sc) vo E ab (List.range j)))
            case atStart => exact ⟨0, _, by omega, rfl, HSO⟩
            case round =>
              clear HSO
              obtain ⟨j, vo, hj, rfl, HS⟩ := hrel
              obtain ⟨od, oc, rfl⟩ := HS.out.shape
              have HOB := Lib.hid (fun h => row_some HS.out.row h)
              rw [List.length_range] at HS HOB
              have e3 : wr.cell? ⟨N + 1, 3, none⟩ = some (.slice od j oc) := HS.out.s.c 3 (by simp)
              by_cases hlt : j < NE
              · have e2 : wr.cell? ⟨N + 1, 2, none⟩ = some (.slice (some ⟨ab, 0, none⟩) NE sc) := HS.out.s.c 2 (by simp)
                obtain ⟨b9, c9, W2, hrun, k2, k3, hS2⟩ := HS.out.app (W := wr.drew.alloc (.cells #[pe ab j] 97)) (((Below.refl _ wr).drew).alloc (Nat.le_refl _) _) j wr.heap.size (cells10 wr.drew [pe ab j] 97 0 _ rfl) (by rw [List.length_range]; have := HNE.out; omega)
                rw [List.length_range] at hrun hS2
                have HRUN := Lib.hid hrun
                have HS2 := Lib.hid hS2
                have n1 : N + 1 < wr.heap.size := by have := HS.out.size; omega
                unfold pe at HRUN
                have hNl : NE ≤ 100000 := HNE.out.2
                clear hrun hS2
                go_wp2_with fail
                go_region_law (refine step_app_run rfl (.tmp 107) (.tmp 114) 61 61 rfl rfl rfl HRUN.out ?_)
                all_goals
                  go_wp2_with fail
                  go_roundg (NE - (j + 1))
                  case rel => exact ⟨j + 1, .slice b9 (j + 1) c9, by omega, by go_num, Lib.hid (by rw [List.range_succ]; exact HS2.out)⟩
                  case measure => omega
              · obtain rfl : j = NE := by omega
                obtain ⟨g, hgg⟩ := HOB.out h0
                clear HOB
                injection hgg with hgg _ _
                subst hgg
                have hP : Pr wr (N + 2) ab g oc j (List.range j) := by have := HS.out.row; rw [List.length_range] at this; exact this
                have hE := HNE.out.1
                have hne : ¬ ab = g := fun e => row_apart HS.out.own HS.out.row (by decide) ab rfl (by rw [e]; rfl)
                have hpl := hP.lt
                have HREV := Lib.hid (revP_any hP (by have := HNE.out; omega) h0)
                go_wp2_with fail
                refine HREV.out.mono ?_; rintro en w1 ⟨rfl, l1, rfl, hp1, hs1⟩
                have hS1 := HS.out.s.aside (by simp) hs1 (by omega)
                have hO1 : OwnEn w1 (N + 2) (.slice (some ⟨ab, 0, none⟩) j sc) E (List.replicate E.length false) := row_aside HS.out.own hs1 (ownP_ne hne)
                have hB1 := below_aside HS.out.bel hs1 (fun k hk => ⟨by have := HS.out.size; omega, by omega⟩)
                have hK := OwnEn.kn (c := sc) (by rw [hE]; exact hO1) (by simp)
                rw [hE] at hK
                have HSRT := Lib.hid (sort_any hp1 (by have := HNE.out; omega) hK (fun x hx => by simpa using hx) (by unfold Dns; rw [List.pairwise_reverse]; exact List.pairwise_lt_range) hne)
                unfold lessF at HSRT
                have e4 : w1.cell? ⟨N + 1, 3, none⟩ = some (.slice (some ⟨g, 0, none⟩) j oc) := hS1.c 3 (by simp)
                have H1 := Lib.hid (And.intro hS1 (And.intro hO1 hB1))
                clear hS1 hO1 hB1 hK hp1 hs1 e3 hP
                go_wp2_with fail
                refine HSRT.out.mono ?_; rintro en w2 ⟨rfl, C, hC, hp2, hs2⟩
                have hS2 := H1.out.1.aside (by simp) hs2 (by omega)
                have hO2 : OwnEn w2 (N + 2) (.slice (some ⟨ab, 0, none⟩) j sc) E (List.replicate E.length false) := row_aside H1.out.2.1 hs2 (ownP_ne hne)
                have hB2 := below_aside H1.out.2.2 hs2 (fun k hk => ⟨by have := HS.out.size; have := HS.out.bel.size; have := H1.out.2.2.size; have := hpl; omega, by omega⟩)
                have HF := Lib.hid (And.intro hC (And.intro hp2 (And.intro hS2 (And.intro hO2 hB2))))
                clear hC hp2 hs2 hS2 hO2 hB2 e4
                go_wp2_with fail
                go_ret
                obtain ⟨hC, hp2, hS2, hO2, hB2⟩ := HF.out
                have hab := World.ownsRow.lt hO2 ab rfl
                refine ⟨N + 1, ab, C, rfl, by have := HLEN.out; omega, by have := HLEN.out; omega, hab.2, by omega, ⟨_, _, List.replicate E.length false, hS2, by rw [HEE.out]; simp, ?_, by omega, .inr ⟨sc, g, oc, ?_, ?_, ?_⟩⟩, ?_, by rw [HLEN.out.2.2.2.2.2.2.2]; exact hB2⟩
                · rw [HEE.out]; exact hO2
                · rw [HEE.out, hE]
                · rw [HEE.out, hE]
                · rw [HEE.out, hE]; exact hp2
                · rw [HEE.out, hE]; exact hC
end Go.Proofs.YteegekpanadmkaaGreat

/-
  A sheet's message, with so many entries left out.
-/
namespace Go.Proofs.YteegekpanadmkaaGreat
open Go.RowKit Go.Shelf
set_option linter.unusedVariables false
set_option linter.unusedSimpArgs false
set_option maxRecDepth 100000

section
variable {w w' : World} {B p b : Nat} {i f : Int} {E : List En} {ord : List Nat} {va vo : Value} {O : List Bool}
theorem Wd.aside {G : Nat → Prop} (h : Wd w B p b i f E ord va vo O) (ha : Aside G w w') (hp : ¬ G p) (hb : ¬ G b) (hG : ∀ g, vo.ownBlock = some g → ¬ G g) (hv : ∀ g, va.ownBlock = some g → ¬ G g) : Wd w' B p b i f E ord va vo O := by
  obtain ⟨h1, h2, h3, h4, h5⟩ := h
  refine ⟨h1.aside (by simp) ha hp, h2, row_aside h3 ha hv, h4, ?_⟩
  rcases h5 with h5 | ⟨c, g, d, e1, e2, e3⟩
  · exact .inl h5
  · exact .inr ⟨c, g, d, e1, e2, e3.aside ha (hG g (by rw [e2]; rfl))⟩
theorem Wd.below (h : Wd w B p b i f E ord va vo O) (hb : Below w.heap.size w w') : Wd w' B p b i f E ord va vo O := by
  obtain ⟨h1, h2, h3, h4, h5⟩ := h
  refine ⟨h1.below (by simp) hb, h2, row_below h3 hb, h4, ?_⟩
  rcases h5 with h5 | ⟨c, g, d, e1, e2, e3⟩
  · exact .inl h5
  · exact .inr ⟨c, g, d, e1, e2, e3.aside (Aside.of_all hb : Aside (fun _ => False) w w') id⟩
theorem Wd.lts (h : Wd w B p b i f E ord va vo O) : p < w.heap.size := h.1.lt (by simp)
theorem Wd.set (h : Wd w B p b i f E ord va vo O) {x : Nat} (hx : x < E.length) (o : Bool) : w.cell? ⟨b, x * 10, none⟩ = some (.int .i64 E[x].k) ∧ (∃ o0, w.cell? ⟨b, x * 10 + 9, none⟩ = some (.bool o0)) ∧ w.frozen? ⟨b, x * 10 + 9, none⟩ = false ∧ b < w.heap.size ∧ p ≠ b ∧
    Wd (w.setCell ⟨b, x * 10 + 9, none⟩ (.bool o)) B p b i f E ord va vo (O.set x o) := by
  obtain ⟨h1, h2, h3, h4, h5⟩ := h
  rcases h5 with ⟨h5, _⟩ | ⟨c, g, d, rfl, rfl, e3⟩
  · omega
  · have ho : O[x]? = some O[x] := List.getElem?_eq_getElem (by omega)
    have c0 := h3.at_ x hx _ ho 0 (by omega)
    have c9 := h3.at_ x hx _ ho 9 (by omega)
    have hbl := World.ownsRow.lt h3 b rfl
    have h2s : Aside (fun k => k = b) w (w.setCell ⟨b, x * 10 + 9, none⟩ (.bool o)) := Aside.setCell _ (p := ⟨b, x * 10 + 9, none⟩) _ rfl
    have hst := (World.ownsRow.stored h3 (x * 10 + 9) (.bool o)).1
    rw [acE_set E O x hx o h2] at hst
    have hbg : ¬ g = b := fun e => row_apart h3 e3 (by decide) b rfl (by rw [e]; rfl)
    refine ⟨c0, ⟨O[x], c9⟩, World.ownsRow.frozenAt h3 _, hbl.2, by omega, h1.aside (by simp) h2s (by omega), by simpa using h2, hst, h4, .inr ⟨c, g, d, rfl, rfl, e3.aside h2s hbg⟩⟩
end
def WoPost (w : World) (B p b : Nat) (i f : Int) (E : List En) (ord : List Nat) (n : Nat) (e : Ending) (w' : World) : Prop :=
  ∃ v, e = .returned v ∧ Sht w' B p b i f E ord ∧ OwnX w' w.heap.size v (gath (fun x => decide (x ∈ ord.take n)) 0 E ⟨i, flG (kOf E) (ord.take n) f, [], [], [], []⟩) ∧ Aside (fun k => k = b) w w'

set_option maxHeartbeats 4000000 in
theorem without_any {w : World} {B p b : Nat} {i f : Int} {E : List En} {ord : List Nat} (h : Sht w B p b i f E ord) (hm : Mrg (kOf E) ord (List.range E.length).reverse) (hE : E.length ≤ 100000) (hB : B ≤ w.heap.size) (hbw : b < w.heap.size) (h0 : 0 ≤ f) (h1 : f ≤ 65535) (n : Nat) (hn : n ≤ 1000000) :
    Calls Tryz.prog 34 #[.pointer (some ⟨p, 0, none⟩), .int .i64 n] w (WoPost w B p b i f E ord n) := by
  obtain ⟨va, vo, O0, hW⟩ := h
  obtain ⟨R, hR⟩ : ∃ R, w.heap.size = R := ⟨_, rfl⟩
  have hpR : p < R := by have := hW.lts; omega
  obtain ⟨s0, s1, s2, s3⟩ := (show w.cell? ⟨p, 0, none⟩ = some (.int .i64 i) ∧ w.cell? ⟨p, 1, none⟩ = some (.int .i64 f) ∧ w.cell? ⟨p, 2, none⟩ = some va ∧ w.cell? ⟨p, 3, none⟩ = some vo from ⟨hW.1.c 0 (by simp), hW.1.c 1 (by simp), hW.1.c 2 (by simp), hW.1.c 3 (by simp)⟩)
  have hWa : ∃ a c, va = .slice a E.length c := row_shape hW.2.2.1
  have hWo : ∃ a c, vo = .slice a E.length c := by
    rcases hW.2.2.2.2 with ⟨e1, e2⟩ | ⟨c, g, d, _, e2, _⟩
    · exact ⟨none, 0, by rw [e1]; exact e2⟩
    · exact ⟨_, _, e2⟩
  obtain ⟨aa, ac, rfl⟩ := hWa
  obtain ⟨oa, oc, rfl⟩ := hWo
  obtain ⟨NE, hNE⟩ : ∃ k, E.length = k := ⟨_, rfl⟩
  rw [hNE] at s2 s3
  have HW := Lib.hid hW
  have HM := Lib.hid hm
  have HN := Lib.hid (show E.length = NE ∧ NE ≤ 100000 ∧ B ≤ R ∧ b < R ∧ w.heap.size = R from ⟨hNE, by omega, by omega, by omega, hR⟩)
  have HF := Lib.hid (And.intro h0 h1)
  have HVB := Lib.hid (show (∀ g, (Value.slice oa E.length oc).ownBlock = some g → g < R) ∧ (∀ g, (Value.slice aa E.length ac).ownBlock = some g → g < R) from ⟨fun g hg => by
    rcases hW.2.2.2.2 with ⟨_, e2⟩ | ⟨c, g', d, _, e2, e3⟩
    · rw [e2] at hg; simp [Value.ownBlock] at hg
    · rw [e2] at hg; simp [Value.ownBlock] at hg; have := e3.lt.2; omega, fun g hg => by have := (World.ownsRow.lt hW.2.2.1 g hg).2; omega⟩)
  clear hW hm h0 h1 hE hB hbw
  go_enter Tryz.func34, Tryz.ntmps34
  go_wp2_with fail
  go_region
  go_wp2_with fail
  obtain ⟨W0, hW0⟩ : ∃ X, ((w.alloc (.cells #[.int .i64 0, .int .i64 0, .slice none 0 0, .slice none 0 0, .slice none 0 0, .slice none 0 0] 25)).alloc (.cells #[.int .i64 i, .int .i64 f, .slice none 0 0, .slice none 0 0, .slice none 0 0, .slice none 0 0] 25)).drew = X := ⟨_, rfl⟩
  rw [hW0]
  have hb0 : Below w.heap.size w W0 := by rw [← hW0]; exact (((Below.refl _ _).alloc (Nat.le_refl _) _).alloc (by simp) _).drew
  have hz0 : Cel W0 R [.int .i64 0, .int .i64 0, .slice none 0 0, .slice none 0 0, .slice none 0 0, .slice none 0 0] := by
    rw [← hW0, ← hR]
    exact (cel_new6 w (.int .i64 0) (.int .i64 0) (.slice none 0 0) (.slice none 0 0) (.slice none 0 0) (.slice none 0 0) 25).below (by simp) (((Below.refl _ _).alloc (Nat.le_refl _) _).drew)
  have hm0 : Cel W0 (R + 1) [.int .i64 i, .int .i64 f, .slice none 0 0, .slice none 0 0, .slice none 0 0, .slice none 0 0] := by
    have := cel_new6 (w.alloc (.cells #[.int .i64 0, .int .i64 0, .slice none 0 0, .slice none 0 0, .slice none 0 0, .slice none 0 0] 25)) (.int .i64 i) (.int .i64 f) (.slice none 0 0) (.slice none 0 0) (.slice none 0 0) (.slice none 0 0) 25
    rw [World.size_alloc, hR] at this
    rw [← hW0]
    exact ⟨this.c, this.fz⟩
  have hsz0 : W0.heap.size = R + 2 := by rw [← hW0, ← hR]; simp [World.drewN, World.drew]
  have H0 := Lib.hid (And.intro (HW.out.below hb0) (And.intro hz0 (And.intro hm0 (And.intro (Aside.of_all hb0 : Aside (fun k => k = b) w W0) hsz0))))
  clear hW0 hb0 hz0 hm0 hsz0 s0 s1 s2 s3
  go_loopg [24] NE (fun kx s wr => ∃ (j : Nat) (O : List Bool), j + kx = NE ∧ s = .int .i64 j ∧ Hid (Wd wr B p b i f E ord (.slice aa E.length ac) (.slice oa E.length oc) O ∧ (∀ t x, t < j → ord[t]? = some x → O[x]? = some (decide (t < n))) ∧
    Cel wr R [.int .i64 0, .int .i64 0, .slice none 0 0, .slice none 0 0, .slice none 0 0, .slice none 0 0] ∧ Cel wr (R + 1) [.int .i64 i, .int .i64 (flG (kOf E) ((ord.take n).take j) f), .slice none 0 0, .slice none 0 0, .slice none 0 0, .slice none 0 0] ∧ Aside (fun k => k = b) w wr ∧ R + 2 ≤ wr.heap.size))
  case atStart => exact ⟨0, O0, by omega, rfl, Lib.hid ⟨H0.out.1, fun t x h => by omega, H0.out.2.1, by simpa [flG] using H0.out.2.2.1, H0.out.2.2.2.1, by rw [H0.out.2.2.2.2]; exact Nat.le_refl _⟩⟩
  case round =>
    clear H0
    obtain ⟨j, O, hj, rfl, HH⟩ := hrel
    by_cases hlt : j < NE
    · obtain ⟨k1, k2, k3, k4, k5, k6⟩ := HH.out
      have hEN := HN.out.1
      have hol : ord.length = NE := by have := HM.out.1.length_eq; rw [List.length_reverse, List.length_range] at this; omega
      have hxo : ord[j]? = some (ord[j]'(by omega)) := List.getElem?_eq_getElem (by omega)
      obtain ⟨x, hx⟩ : ∃ x, ord[j]'(by omega) = x := ⟨_, rfl⟩
      rw [hx] at hxo
      have hxN : x < E.length := by
        have : x ∈ (List.range E.length).reverse := HM.out.1.mem_iff.mp (by rw [← hx]; exact List.getElem_mem _)
        simpa using this
      obtain ⟨c, g, d, hva, hvo, hP⟩ : ∃ c g d, Value.slice aa E.length ac = .slice (some ⟨b, 0, none⟩) E.length c ∧ Value.slice oa E.length oc = .slice (some ⟨g, 0, none⟩) E.length d ∧ Pr wr B b g d E.length ord := by
        rcases k1.2.2.2.2 with ⟨e1, _⟩ | h
        · omega
        · exact h
      injection hvo with hvo _ hvo2
      subst hvo; subst hvo2
      clear hva
      have c1 := hP.at_ j (by omega) x hxo
      obtain ⟨c0, ⟨o0, c9⟩, f9, hbw, hpb, hW2⟩ := k1.set hxN (decide (j < n))
      obtain ⟨kx, hkx⟩ : ∃ k, E[x].k = k := ⟨_, rfl⟩
      have hkO : kOf E x = kx := by rw [kOf_at hxN, hkx]
      rw [hkx] at c0
      have hbR := HN.out.2.2.2.1
      have h2s : Aside (fun k => k = b) wr (wr.setCell ⟨b, x * 10 + 9, none⟩ (.bool (decide (j < n)))) := Aside.setCell _ (p := ⟨b, x * 10 + 9, none⟩) _ rfl
      have hmark : ∀ t y, t < j + 1 → ord[t]? = some y → (O.set x (decide (j < n)))[y]? = some (decide (t < n)) := fun t y ht hy => by
        by_cases e : t = j
        · subst e
          rw [hxo] at hy
          injection hy with hy
          subst hy
          rw [List.getElem?_set_self (by rw [k1.2.1]; exact hxN)]
        · have hne : x ≠ y := fun e2 => by
            have hy2 := List.getElem?_eq_some_iff.mp hy
            have := List.pairwise_iff_getElem.mp HM.out.2 t j hy2.1 (by omega) (by omega)
            rw [hy2.2, hx, ← e2] at this
            exact Bef.irr this
          rw [List.getElem?_set, if_neg hne]
          exact k2 t y (by omega) hy
      have m1 : wr.cell? ⟨R + 1, 1, none⟩ = some (.int .i64 (flG (kOf E) ((ord.take n).take j) f)) := k4.c 1 (by simp)
      have fm : wr.frozen? ⟨R + 1, 1, none⟩ = false := k4.fz 1
      have HNEW := Lib.hid (And.intro hW2 (And.intro hmark (And.intro (k3.aside (by simp) h2s (by omega)) (And.intro (k4.aside (by simp) h2s (by omega)) (And.intro (k5.trans h2s) (Nat.le_trans k6 h2s.size))))))
      obtain ⟨F, hF⟩ : ∃ z, flG (kOf E) ((ord.take n).take j) f = z := ⟨_, rfl⟩
      rw [hF] at m1
      have hbM : b ≠ R + 1 := by omega
      have HTK := Lib.hid (show (j < n → (ord.take n).take (j + 1) = (ord.take n).take j ++ [x]) ∧ (¬ j < n → (ord.take n).take (j + 1) = (ord.take n).take j) from ⟨fun h => by
          rw [List.take_take, List.take_take, Nat.min_eq_left (by omega), Nat.min_eq_left (by omega), List.take_succ_eq_append_getElem (by omega), hx], fun h => by
          rw [List.take_take, List.take_take, Nat.min_eq_right (by omega), Nat.min_eq_right (by omega)]⟩)
      have HKF := Lib.hid (And.intro hkO hF)
      have b1 : j < E.length := by omega
      have b0 : NE ≤ 100000 := HN.out.2.1
      unfold pe at c1
      clear HH k1 k2 k3 k4 k5 k6 hW2 hmark h2s hP hkx hkO hx hol hEN hbR hF
      by_cases hjn : j < n
      · rw [show decide (j < n) = true by simpa using hjn] at HNEW
        have HC := Lib.hid (inAr_any (w := wr.setCell ⟨b, x * 10 + 9, none⟩ (.bool true)) (b := b) (o := x * 10) (k := kx) (by rw [World.cell?_setCell_other _ _ _ _ (by simp)]; exact c0))
        have mb : (wr.setCell ⟨b, x * 10 + 9, none⟩ (.bool true)).cell? ⟨R + 1, 1, none⟩ = some (.int .i64 F) := by rw [World.cell?_setCell_other _ _ _ _ (by first | (simp; done) | (simp; omega))]; exact m1
        have fb : (wr.setCell ⟨b, x * 10 + 9, none⟩ (.bool true)).frozen? ⟨R + 1, 1, none⟩ = false := by rw [World.frozen?_setCell]; exact fm
        obtain ⟨lt, hlt2⟩ : ∃ z, late kx = z := ⟨_, rfl⟩
        rw [hlt2] at HC
        have HLT := Lib.hid hlt2
        clear hlt2
        go_wp2_with fail
        refine HC.out.mono ?_; rintro en w1 ⟨rfl, rfl⟩
        cases lt with
        | true =>
          go_wp2_with fail
          go_roundg (NE - (j + 1))
          case rel =>
            have e := flG_more (κ := kOf E) (l := (ord.take n).take j) HF.out.1 HF.out.2 x
            rw [HKF.out.1, HLT.out, if_pos rfl, HKF.out.2, ← HTK.out.1 hjn] at e
            obtain ⟨k1, k2, k3, k4, k5, k6⟩ := HNEW.out
            have h3 : Aside (fun k => k = R + 1) (wr.setCell ⟨b, x * 10 + 9, none⟩ (.bool true)) ((wr.setCell ⟨b, x * 10 + 9, none⟩ (.bool true)).setCell ⟨R + 1, 1, none⟩ (.int .i64 (bits .or .i64 F 512))) := Aside.setCell _ (p := ⟨R + 1, 1, none⟩) _ rfl
            refine ⟨j + 1, _, by omega, by go_num, Lib.hid ⟨k1.aside h3 (by omega) (by have := HN.out; omega) (fun g hg => by have := HVB.out.1 g hg; omega) (fun g hg => by have := HVB.out.2 g hg; omega), k2, k3.aside (by simp) h3 (by omega), ?_, k5.onto h3 (fun k hk _ hg => by have := HN.out; omega), Nat.le_trans k6 h3.size⟩⟩
            rw [← e]
            exact k4.set (o := 1) (by simp) (.int .i64 (bits .or .i64 F 512))
          case measure => omega
        | false =>
          go_wp2_with fail
          go_roundg (NE - (j + 1))
          case rel =>
            have e := flG_more (κ := kOf E) (l := (ord.take n).take j) HF.out.1 HF.out.2 x
            rw [HKF.out.1, HLT.out, if_neg (by simp), ← HTK.out.1 hjn] at e
            exact ⟨j + 1, _, by omega, by go_num, Lib.hid ⟨HNEW.out.1, HNEW.out.2.1, HNEW.out.2.2.1, by rw [← e]; exact HNEW.out.2.2.2.1, HNEW.out.2.2.2.2.1, HNEW.out.2.2.2.2.2⟩⟩
          case measure => omega
      · rw [show decide (j < n) = false by simpa using hjn] at HNEW
        have hd : decide ((j : Int) < n) = false := by simpa using hjn
        go_wp2_with fail
        go_roundg (NE - (j + 1))
        case rel => exact ⟨j + 1, _, by omega, by go_num, Lib.hid ⟨HNEW.out.1, HNEW.out.2.1, HNEW.out.2.2.1, by rw [HTK.out.2 hjn]; exact HNEW.out.2.2.2.1, HNEW.out.2.2.2.2.1, HNEW.out.2.2.2.2.2⟩⟩
        case measure => omega
    · obtain rfl : j = NE := by omega
      obtain ⟨k1, k2, k3, k4, k5, k6⟩ := HH.out
      have hEN := HN.out.1
      have hol : ord.length = j := by have := HM.out.1.length_eq; rw [List.length_reverse, List.length_range] at this; omega
      rw [List.take_of_length_le (by rw [List.length_take]; omega)] at k4
      have hmk : ∀ x, x < j → O[x]? = some (decide (x ∈ ord.take n)) := fun x hx => by
        have hx2 : x ∈ ord := HM.out.1.mem_iff.mpr (by simp; omega)
        obtain ⟨t, ht, e⟩ := List.mem_iff_getElem.mp hx2
        have h2 : ord[t]? = some x := by rw [← e]; exact List.getElem?_eq_getElem ht
        rw [k2 t x (by omega) h2]
        congr 1
        simp only [decide_eq_decide]
        constructor
        · intro h
          exact List.mem_iff_getElem.mpr ⟨t, by rw [List.length_take]; omega, by rw [List.getElem_take]; exact e⟩
        · intro h
          obtain ⟨t2, ht2, e2⟩ := List.mem_iff_getElem.mp h
          rw [List.length_take] at ht2
          rw [List.getElem_take] at e2
          rcases Nat.lt_trichotomy t t2 with h3 | h3 | h3
          · have := List.pairwise_iff_getElem.mp HM.out.2 t t2 ht (by omega) h3
            rw [e, e2] at this
            exact absurd this Bef.irr
          · omega
          · have := List.pairwise_iff_getElem.mp HM.out.2 t2 t (by omega) ht h3
            rw [e, e2] at this
            exact absurd this Bef.irr
      obtain ⟨FL, hFL⟩ : ∃ z, flG (kOf E) (ord.take n) f = z := ⟨_, rfl⟩
      rw [hFL] at k4
      have HG0 := Lib.hid (show Gat wr (R + 1) (R + 2) ⟨i, FL, [], [], [], []⟩ (.slice none 0 0) (.slice none 0 0) (.slice none 0 0) (.slice none 0 0) from
        ⟨k4, World.ownsRow_nil _ _ _ _, World.ownsRow_nil _ _ _ _, World.ownsRow_nil _ _ _ _, World.ownsRow_nil _ _ _ _, dif_nil _, dif_nil _, dif_nil _, by omega, k6⟩)
      have HWD := Lib.hid (And.intro k1 (And.intro k3 (And.intro k5 hmk)))
      have HFL := Lib.hid hFL
      have s2 : wr.cell? ⟨p, 2, none⟩ = some (.slice aa j ac) := by rw [← hEN]; exact k1.1.c 2 (by simp)
      clear HH k1 k2 k3 k4 k5 hmk hFL hol
      go_wp2_with fail
      clear s2
      obtain ⟨w1, rfl⟩ : ∃ w1, w1 = wr := ⟨wr, rfl⟩
      go_loopg [54] j (fun kx s wy => ∃ (z : Nat) (q a n' r : Value), z + kx = j ∧ s = .int .i64 z ∧ Hid (Gat wy (R + 1) (R + 2) (gath (fun x => decide (x ∈ ord.take n)) 0 (E.take z) ⟨i, FL, [], [], [], []⟩) q a n' r ∧ Below (R + 1) w1 wy))
      case atStart => exact ⟨0, _, _, _, _, by omega, rfl, Lib.hid ⟨by simpa [gath] using HG0.out, Below.refl _ _⟩⟩
      case round =>
        clear HG0
        obtain ⟨z, q, a, n', r, hz, rfl, HG⟩ := hrel
        have hbR : b < R := HN.out.2.2.2.1
        by_cases hlz : z < j
        · have hzE : z < E.length := by omega
          obtain ⟨c, g, d, hva, _, _⟩ : ∃ c g d, Value.slice aa E.length ac = .slice (some ⟨b, 0, none⟩) E.length c ∧ Value.slice oa E.length oc = .slice (some ⟨g, 0, none⟩) E.length d ∧ Pr w1 B b g d E.length ord := by
            rcases HWD.out.1.2.2.2.2 with ⟨e1, _⟩ | h
            · omega
            · exact h
          injection hva with hva _ hva2
          subst hva; subst hva2
          have hO := HWD.out.2.2.2 z hlz
          have hAt : AtE wr b (z * 10) E[z] := ⟨_, fun i u hu => by
            have h9 : i < 10 := by have := (List.getElem?_eq_some_iff.mp hu).1; rw [ce_len] at this; exact this
            rw [HG.out.2.cell (p := ⟨b, z * 10 + i, none⟩) (by show b < R + 1; omega), OwnEn.at_ HWD.out.1.2.2.1 z hzE _ hO i h9]
            exact hu⟩
          have c9 : wr.cell? ⟨b, z * 10 + 9, none⟩ = some (.bool (decide (z ∈ ord.take n))) := by
            rw [HG.out.2.cell (p := ⟨b, z * 10 + 9, none⟩) (by show b < R + 1; omega), OwnEn.at_ HWD.out.1.2.2.1 z hzE _ hO 9 (by omega)]
            rfl
          have s2 : wr.cell? ⟨p, 2, none⟩ = some (.slice (some ⟨b, 0, none⟩) j ac) := by
            rw [HG.out.2.cell (p := ⟨p, 2, none⟩) (by show p < R + 1; omega), ← hEN]
            exact HWD.out.1.1.c 2 (by simp)
          have hmore := gath_more (fun x => decide (x ∈ ord.take n)) E z hzE ⟨i, FL, [], [], [], []⟩
          have HMO := Lib.hid hmore
          have htot := gath_tot (fun x => decide (x ∈ ord.take n)) (E.take z) 0 ⟨i, FL, [], [], [], []⟩
          have hjN : j ≤ 100000 := HN.out.2.1
          simp only [List.length_nil] at htot
          rw [List.length_take, Nat.min_eq_left (by omega)] at htot
          have HPUT := Lib.hid (putEn_any HG.out.1 hAt (by omega) (by omega))
          obtain ⟨dz, hdz⟩ : ∃ x, decide (z ∈ ord.take n) = x := ⟨_, rfl⟩
          rw [hdz] at c9
          have HDZ := Lib.hid hdz
          clear hO hAt hmore htot hdz
          cases dz with
          | true =>
            go_wp2_with fail
            go_roundg (j - (z + 1))
            case rel => exact ⟨z + 1, _, _, _, _, by omega, by go_num, Lib.hid ⟨by rw [HMO.out]; simp only [HDZ.out, if_true]; exact HG.out.1, HG.out.2⟩⟩
            case measure => omega
          | false =>
            go_wp2_with fail
            refine HPUT.out.mono ?_; rintro en w2 ⟨rfl, ⟨q', a', n'', r', hG⟩, hB⟩
            have HG2 := Lib.hid (And.intro hG hB)
            clear hG hB
            go_wp2_with fail
            go_roundg (j - (z + 1))
            case rel => exact ⟨z + 1, _, _, _, _, by omega, by go_num, Lib.hid ⟨by rw [HMO.out]; simp only [HDZ.out, Bool.false_eq_true, if_false]; exact HG2.out.1, HG.out.2.trans HG2.out.2⟩⟩
            case measure => omega
        · obtain rfl : z = j := by omega
          rw [List.take_of_length_le (l := E) (by omega)] at HG
          obtain ⟨GM, hGM⟩ : ∃ m, gath (fun x => decide (x ∈ ord.take n)) 0 E ⟨i, FL, [], [], [], []⟩ = m := ⟨_, rfl⟩
          rw [hGM] at HG
          have HGM := Lib.hid hGM
          obtain ⟨x0, x1, x2, x3, x4, x5⟩ := HG.out.1.x.six
          have hZ := HWD.out.2.1.aside (by simp) (Aside.of_below (G := fun k => R + 1 ≤ k) HG.out.2 (fun k _ h => by omega)) (by omega)
          obtain ⟨z0, z1, z2, z3, z4, z5⟩ := hZ.six
          have fz := hZ.fz
          obtain ⟨q1, q2, rfl⟩ := row_shape HG.out.1.oq
          obtain ⟨a1, a2, rfl⟩ := row_shape HG.out.1.oa
          obtain ⟨n1, n2, rfl⟩ := row_shape HG.out.1.on
          obtain ⟨r1, r2, rfl⟩ := row_shape HG.out.1.or
          have HZ := Lib.hid hZ
          clear hGM hZ
          go_wp2_with fail
          clear z0 z1 z2 z3 z4 z5 fz x0 x1 x2 x3 x4 x5
          have hc6 := cel_put6 HZ.out (.int .i64 GM.id) (.int .i64 GM.fl) (.slice q1 GM.q.length q2) (.slice a1 GM.an.length a2) (.slice n1 GM.ns.length n2) (.slice r1 GM.ar.length r2)
          have ha6 := aside_put6 wr R (.int .i64 GM.id) (.int .i64 GM.fl) (.slice q1 GM.q.length q2) (.slice a1 GM.an.length a2) (.slice n1 GM.ns.length n2) (.slice r1 GM.ar.length r2)
          have hA1 : Aside (fun k => R + 1 ≤ k) w1 wr := Aside.of_below HG.out.2 (fun k _ h => by omega)
          obtain ⟨m0, m1, m2, m3, m4, m5⟩ := hc6.six
          have HFIN := Lib.hid (And.intro ha6 hA1)
          unfold put6 at m0 m1 m2 m3 m4 m5 HFIN
          clear hc6 ha6 hA1
          refine bodyPost_ret (v := .agg #[.int .i64 GM.id, .int .i64 GM.fl, .slice q1 GM.q.length q2, .slice a1 GM.an.length a2, .slice n1 GM.ns.length n2, .slice r1 GM.ar.length r2]) (by simp [results, Tryz.results34, go_sem, m0, m1, m2, m3, m4, m5]) rfl ⟨_, rfl, ?_, ?_, ?_⟩
          · have h1 := HWD.out.1.aside HFIN.out.2 (by omega) (by omega) (fun g hg => by have := HVB.out.1 g hg; omega) (fun g hg => by have := HVB.out.2 g hg; omega)
            exact ⟨_, _, O, h1.aside HFIN.out.1 (by omega) (by omega) (fun g hg => by have := HVB.out.1 g hg; omega) (fun g hg => by have := HVB.out.2 g hg; omega)⟩
          · rw [HFL.out, HGM.out, hR]
            have h2 : ∀ {e : TypeId} {k nn : Nat} {v : Value} {xs : List Value}, wr.ownsRow (R + 2) e k v nn xs → ∀ g, v.ownBlock = some g → ¬ g = R := fun h g hg he => by have := (World.ownsRow.lt h g hg).1; omega
            exact ⟨_, _, _, _, rfl, row_base (row_aside HG.out.1.oq HFIN.out.1 (h2 HG.out.1.oq)) (by omega), row_base (row_aside HG.out.1.oa HFIN.out.1 (h2 HG.out.1.oa)) (by omega), row_base (row_aside HG.out.1.on HFIN.out.1 (h2 HG.out.1.on)) (by omega), row_base (row_aside HG.out.1.or HFIN.out.1 (h2 HG.out.1.or)) (by omega), HG.out.1.ar, HG.out.1.nr⟩
          · exact (HWD.out.2.2.1.onto HFIN.out.2 (fun k hk _ h => by omega)).onto HFIN.out.1 (fun k hk _ h => by omega)
end Go.Proofs.YteegekpanadmkaaGreat

/-
  The shortest names are put.
-/
namespace Go.Proofs.YteegekpanadmkaaGreat
open Go.RowKit Go.Shelf
set_option linter.unusedVariables false
set_option linter.unusedSimpArgs false
set_option maxRecDepth 100000

abbrev cr_ := cr
theorem acr_put (A L : List Rc) (x : Rc) (k : Nat) (hk : A.length = k) : (acr (A ++ x :: L)).set (k * 5) (.string ⟨#[0]⟩) = acr (A ++ rt x :: L) := by
  subst hk
  rw [acr_app, acr_app, List.set_append_right _ _ (by rw [acr_len]; exact Nat.le_refl _), acr_len, Nat.sub_self]
  rfl
def BrPost (w : World) (B : Nat) (m : Ms) (e : Ending) (w' : World) : Prop := ∃ v, e = .returned (.tuple #[v, .int .i64 (moL m.ar)]) ∧ OwnM w' B v (brM m) ∧ Below B w w'

set_option maxHeartbeats 4000000 in
theorem bare_any {w : World} {B : Nat} {v : Value} {m : Ms} (h : OwnX w B v m) (hB : B ≤ w.heap.size) (hn : m.ar.length ≤ 100000) :
    Calls Tryz.prog 33 #[v] w (BrPost w B m) := by
  obtain ⟨i0, f0, lq, lan, lns, lar⟩ := m
  obtain ⟨q, a, n, r, rfl, hq, ha, hns, hr, hd1, hd2⟩ := h
  simp only at hq ha hns hr hn ⊢
  obtain ⟨qa, qc, rfl⟩ := row_shape hq
  obtain ⟨aa, ac, rfl⟩ := row_shape ha
  obtain ⟨na, nc, rfl⟩ := row_shape hns
  obtain ⟨ra, rc, rfl⟩ := row_shape hr
  obtain ⟨N, hN⟩ : ∃ N, w.heap.size = N := ⟨_, rfl⟩
  obtain ⟨cq, hcq⟩ : ∃ k, lq.length = k := ⟨_, rfl⟩
  obtain ⟨ca, hca⟩ : ∃ k, lan.length = k := ⟨_, rfl⟩
  obtain ⟨cn, hcn⟩ : ∃ k, lns.length = k := ⟨_, rfl⟩
  obtain ⟨cr, hcr⟩ : ∃ k, lar.length = k := ⟨_, rfl⟩
  have HROW := Lib.hid (fun h => row_some hr h)
  have HH := Lib.hid (And.intro hq (And.intro ha (And.intro hns (And.intro hr (And.intro hd1 hd2)))))
  rw [hcq, hca, hcn, hcr] at HH
  rw [hcr] at HROW
  rw [hcq, hca, hcn, hcr]
  have HL := Lib.hid (And.intro hcq (And.intro hca (And.intro hcn (And.intro hcr (And.intro hN hB)))))
  obtain ⟨W0, hW0⟩ : ∃ X, (w.alloc (.cells #[.int .i64 i0, .int .i64 f0, .slice qa cq qc, .slice aa ca ac, .slice na cn nc, .slice ra cr rc] 25)).alloc (.cells #[.int .i64 0, .int .i64 0, .slice none 0 0, .slice none 0 0, .slice none 0 0, .slice none 0 0] 25) = X := ⟨_, rfl⟩
  have hb0 : Below w.heap.size w W0 := by rw [← hW0]; exact ((Below.refl _ _).alloc (Nat.le_refl _) _).alloc (by simp) _
  have hx0 : Cel W0 N [.int .i64 i0, .int .i64 f0, .slice qa cq qc, .slice aa ca ac, .slice na cn nc, .slice ra cr rc] := by
    rw [← hW0, ← hN]
    exact (cel_new6 w _ _ _ _ _ _ 25).below (by simp) ((Below.refl _ _).alloc (Nat.le_refl _) _)
  have hz0 : Cel W0 (N + 1) [.int .i64 0, .int .i64 0, .slice none 0 0, .slice none 0 0, .slice none 0 0, .slice none 0 0] := by
    have := cel_new6 (w.alloc (.cells #[.int .i64 i0, .int .i64 f0, .slice qa cq qc, .slice aa ca ac, .slice na cn nc, .slice ra cr rc] 25)) (.int .i64 0) (.int .i64 0) (.slice none 0 0) (.slice none 0 0) (.slice none 0 0) (.slice none 0 0) 25
    rw [World.size_alloc, hN, hW0] at this
    exact this
  have H0 := Lib.hid (And.intro hb0 (And.intro hx0 hz0))
  have HW0 := Lib.hid hW0
  have hcr5 : cr ≤ 100000 := by omega
  clear hq ha hns hr hd1 hd2 hcq hca hcn hcr hB hb0 hx0 hz0 hW0
  go_enter Tryz.func33, Tryz.ntmps33
  go_wp2_with fail
  rw [HW0.out]
  clear HW0
  go_loopg [4, 5] cr (fun kx s t wr => ∃ (k : Nat) (A D : List Rc), k ≤ kx ∧ k ≤ cr ∧ s = .int .i64 (mors D : Nat) ∧ t = .int .i64 ((k : Int) - 1) ∧ mors D + k ≤ cr ∧
    Hid (lar = A ++ D ∧ A.length = k ∧ D.all isO = true ∧ OwnRc wr B (.slice ra cr rc) (A ++ D.map rt) ∧ Aside (fun k => (Value.slice ra cr rc).ownBlock = some k) W0 wr))
  case atStart => exact ⟨cr, lar, [], Nat.le_refl _, Nat.le_refl _, rfl, rfl, by simp [mors], Lib.hid ⟨by simp, HL.out.2.2.2.1, rfl, by rw [List.map_nil, List.append_nil]; exact row_below HH.out.2.2.2.1 H0.out.1, Aside.refl _ _⟩⟩
  case round =>
    obtain ⟨k, A, D, hk, hkr, rfl, rfl, hmD, HS⟩ := hrel
    have hlt0 := World.ownsRow.lt HH.out.2.2.2.1
    have hX := H0.out.2.1.aside (by simp) HS.out.2.2.2.2 (fun hg => by have := (hlt0 N hg).2; have := HL.out; omega)
    have hZ := H0.out.2.2.aside (by simp) HS.out.2.2.2.2 (fun hg => by have := (hlt0 (N + 1) hg).2; have := HL.out; omega)
    obtain ⟨x0, x1, x2, x3, x4, x5⟩ := hX.six
    obtain ⟨z0, z1, z2, z3, z4, z5⟩ := hZ.six
    have fz := hZ.fz
    have HZ := Lib.hid (And.intro hX hZ)
    clear hX hZ hlt0
    rcases Nat.eq_zero_or_pos k with h0 | h0
    · subst h0
      rw [show ((0 : Nat) : Int) - 1 = -1 from rfl]
      have HLAST := Lib.hid (show ∀ A' x, A = A' ++ [x] → isO x = false from fun A' x h => by have := HS.out.2.1; rw [h] at this; simp at this)
      go_wp2_with fail
      clear z0 z1 z2 z3 z4 z5 fz x0 x1 x2 x3 x4 x5
      have hc6 := cel_put6 HZ.out.2 (.int .i64 i0) (.int .i64 f0) (.slice qa cq qc) (.slice aa ca ac) (.slice na cn nc) (.slice ra cr rc)
      have ha6 := aside_put6 wr (N + 1) (.int .i64 i0) (.int .i64 f0) (.slice qa cq qc) (.slice aa ca ac) (.slice na cn nc) (.slice ra cr rc)
      obtain ⟨m0, m1, m2, m3, m4, m5⟩ := hc6.six
      have HFIN := Lib.hid ha6
      unfold put6 at m0 m1 m2 m3 m4 m5 HFIN
      clear hc6 ha6
      have hbr := br_parts A D HS.out.2.2.1 HLAST.out
      have hmo : moL lar = mors D := by rw [HS.out.1]; exact hbr.2
      refine bodyPost_ret (v := .tuple #[.agg #[.int .i64 i0, .int .i64 f0, .slice qa cq qc, .slice aa ca ac, .slice na cn nc, .slice ra cr rc], .int .i64 (mors D : Nat)]) (by simp [results, Tryz.results33, go_sem, m0, m1, m2, m3, m4, m5]) rfl ⟨_, by show _ = Ending.returned (.tuple #[_, .int .i64 ((moL lar : Nat) : Int)]); rw [hmo], ?_, ?_⟩
      · have hA : ∀ {l : List Rc} {v : Value}, OwnRc w B v l → (∀ k, v.ownBlock = some k → ¬ (Value.slice ra cr rc).ownBlock = some k) → OwnRc _ B v l := fun h hd => row_aside (row_aside (row_below h H0.out.1) HS.out.2.2.2.2 hd) HFIN.out (fun k hk he => by have := (World.ownsRow.lt h k hk).2; have := HL.out; omega)
        obtain ⟨g1, g2, g3, g4, g5, g6⟩ := HH.out
        have hq1 : OwnQn W0 B (.slice qa cq qc) lq := row_below g1 H0.out.1
        have hr1 := HS.out.2.2.2.1
        have hlr := World.ownsRow.lt g4
        refine ⟨_, _, _, _, rfl, row_aside (row_aside hq1 HS.out.2.2.2.2 (fun k hk hg => row_apart g1 g4 (by decide) k hk hg)) HFIN.out (fun k hk he => by have := (World.ownsRow.lt g1 k hk).2; have := HL.out; omega), hA g2 g5, hA g3 g6, ?_⟩
        show OwnRc _ B _ (brL lar)
        rw [HS.out.1, hbr.1]
        exact row_aside hr1 HFIN.out (fun k hk he => by have := (hlr k hk).2; have := HL.out; omega)
      · have hb := HL.out.2.2.2.2
        have h1 : Below B w W0 := H0.out.1.mono hb.2
        have hlr := World.ownsRow.lt HH.out.2.2.2.1
        exact below_aside (below_aside h1 HS.out.2.2.2.2 (fun k hk => ⟨by have := H0.out.1.size; omega, fun he => by have := (hlr k he).1; omega⟩)) HFIN.out (fun k hk => ⟨by have := H0.out.1.size; have := HS.out.2.2.2.2.size; omega, by omega⟩)
    · obtain ⟨k', rfl⟩ : ∃ k', k = k' + 1 := ⟨k - 1, by omega⟩
      rw [show ((k' + 1 : Nat) : Int) - 1 = (k' : Int) by omega]
      obtain ⟨A', x, hAx⟩ : ∃ l y, A = l ++ [y] := by
        have k2 := HS.out.2.1
        rcases List.eq_nil_or_concat A with rfl | ⟨l, y, rfl⟩
        · simp at k2
        · exact ⟨l, y, by simp⟩
      have hA' : A'.length = k' := by have k2 := HS.out.2.1; rw [hAx] at k2; simpa using k2
      obtain ⟨g, hg⟩ := HROW.out (by omega)
      injection hg with hg _ _
      subst hg
      have k4 := HS.out.2.2.2.1
      rw [hAx] at k4
      have hrow : OwnRc wr B (.slice (some ⟨g, 0, none⟩) cr rc) (A' ++ x :: D.map rt) := by simpa using k4
      have hcl : (A' ++ x :: D.map rt).length = cr := by have h1 := HL.out.2.2.2.1; rw [HS.out.1, hAx] at h1; simpa using h1
      have hrw : wr.ownsRow B 52 5 (.slice (some ⟨g, 0, none⟩) cr rc) cr (acr (A' ++ x :: D.map rt)) := by unfold OwnRc at hrow; rw [hcl] at hrow; exact hrow
      have hat : ∀ i u, (cr_ x)[i]? = some u → wr.cell? ⟨g, k' * 5 + i, none⟩ = some u := fun i u hu => by
        have h5 : i < 5 := (List.getElem?_eq_some_iff.mp hu).1
        rw [World.ownsRow.cellAt hrw _ (by omega)]
        exact flat_at (f := cr_) (k := 5) (fun _ => rfl) (A' ++ x :: D.map rt) k' (by rw [hcl]; omega) i u (by rw [List.getElem_append_right (by omega)]; simpa [hA'] using hu)
      have c0 := hat 0 _ rfl
      have c1 := hat 1 _ rfl
      rw [Nat.add_zero] at c0
      have fg := World.ownsRow.frozenAt hrw (k' * 5)
      have HX := Lib.hid (And.intro hAx (And.intro hA' (And.intro hrw hcl)))
      obtain ⟨xt, hxt⟩ : ∃ t, x.t = t := ⟨_, rfl⟩
      obtain ⟨xn, hxn⟩ : ∃ t, x.n = t := ⟨_, rfl⟩
      rw [hxt] at c1
      rw [hxn] at c0
      have HXN := Lib.hid (And.intro hxt hxn)
      have hkc : k' < cr := by omega
      clear hAx hA' k4 hrow hcl hrw hat hxt hxn
      by_cases h41 : xt = 41
      · subst h41
        have hmx : mors (x :: D) = mor x + mors D := by simp [mors]
        by_cases hxr : xn = [0]
        · have hls : ((bs xn).toList == [0]) = true := by rw [bs_toList]; simp [hxr]
          have hls2 : (!(bs xn).toList == [0]) = false := by rw [hls]; rfl
          have hr0 : rt x = x := by have := HXN.out.2; rw [hxr] at this; unfold rt; rw [← this]
          have hm0 : mor x = 0 := by unfold mor; rw [HXN.out.2, if_pos hxr]
          have HM0 := Lib.hid (And.intro hm0 hr0)
          clear hxr hm0 hr0
          go_wp2_with fail
          go_roundg k'
          case rel =>
            obtain ⟨hm0, hr0⟩ := HM0.out
            refine ⟨k', A', x :: D, Nat.le_refl _, by omega, ?_, by go_num, by rw [hmx, hm0]; omega, Lib.hid ⟨by rw [HS.out.1, HX.out.1]; simp, HX.out.2.1, ?_, ?_, HS.out.2.2.2.2⟩⟩
            · rw [hmx, hm0, Nat.zero_add]
            · rw [List.all_cons, HS.out.2.2.1, Bool.and_true]; unfold isO; rw [HXN.out.1]; rfl
            · rw [List.map_cons, hr0]
              unfold OwnRc
              rw [HX.out.2.2.2]
              exact HX.out.2.2.1
          case measure => omega
        · have hls : ((bs xn).toList == [0]) = false := by rw [bs_toList]; simpa using hxr
          have hls2 : (!(bs xn).toList == [0]) = true := by rw [hls]; rfl
          go_wp2_with fail
          go_roundg k'
          case rel =>
            have hm1 : mor x = 1 := by unfold mor; rw [HXN.out.2, if_neg hxr]
            have hcl2 : (A' ++ rt x :: D.map rt).length = cr := by have := HX.out.2.2.2; simpa using this
            refine ⟨k', A', x :: D, Nat.le_refl _, by omega, ?_, by go_num, ?_, Lib.hid ⟨by rw [HS.out.1, HX.out.1]; simp, HX.out.2.1, ?_, ?_, HS.out.2.2.2.2.trans (Aside.setCell _ (p := ⟨g, k' * 5, none⟩) _ rfl)⟩⟩
            · rw [hmx, hm1, Nat.add_comm]
              go_num
            · rw [hmx, hm1]; omega
            · rw [List.all_cons, HS.out.2.2.1, Bool.and_true]; unfold isO; rw [HXN.out.1]; rfl
            · rw [List.map_cons]
              unfold OwnRc
              rw [hcl2, ← acr_put A' (D.map rt) x k' HX.out.2.1]
              exact (World.ownsRow.stored HX.out.2.2.1 (k' * 5) (.string ⟨#[0]⟩)).1
          case measure => omega
      · have ht41 : (xt == 41) = false := by simpa using h41
        have HLAST := Lib.hid (show ∀ A' x, A = A' ++ [x] → isO x = false from fun A'' y h => by
          rw [HX.out.1] at h
          have := (List.append_inj' h rfl).2
          injection this with this
          rw [← this]
          unfold isO
          rw [HXN.out.1]
          simpa using h41)
        go_wp2_with fail
        clear z0 z1 z2 z3 z4 z5 fz x0 x1 x2 x3 x4 x5
        have hc6 := cel_put6 HZ.out.2 (.int .i64 i0) (.int .i64 f0) (.slice qa cq qc) (.slice aa ca ac) (.slice na cn nc) (.slice (some ⟨g, 0, none⟩) cr rc)
        have ha6 := aside_put6 wr (N + 1) (.int .i64 i0) (.int .i64 f0) (.slice qa cq qc) (.slice aa ca ac) (.slice na cn nc) (.slice (some ⟨g, 0, none⟩) cr rc)
        obtain ⟨m0, m1, m2, m3, m4, m5⟩ := hc6.six
        have HFIN := Lib.hid ha6
        unfold put6 at m0 m1 m2 m3 m4 m5 HFIN
        clear hc6 ha6
        have hbr := br_parts A D HS.out.2.2.1 HLAST.out
        have hmo : moL lar = mors D := by rw [HS.out.1]; exact hbr.2
        refine bodyPost_ret (v := .tuple #[.agg #[.int .i64 i0, .int .i64 f0, .slice qa cq qc, .slice aa ca ac, .slice na cn nc, .slice (some ⟨g, 0, none⟩) cr rc], .int .i64 (mors D : Nat)]) (by simp [results, Tryz.results33, go_sem, m0, m1, m2, m3, m4, m5]) rfl ⟨_, by show _ = Ending.returned (.tuple #[_, .int .i64 ((moL lar : Nat) : Int)]); rw [hmo], ?_, ?_⟩
        · have hA : ∀ {l : List Rc} {v : Value}, OwnRc w B v l → (∀ k, v.ownBlock = some k → ¬ (Value.slice (some ⟨g, 0, none⟩) cr rc).ownBlock = some k) → OwnRc _ B v l := fun h hd => row_aside (row_aside (row_below h H0.out.1) HS.out.2.2.2.2 hd) HFIN.out (fun k hk he => by have := (World.ownsRow.lt h k hk).2; have := HL.out; omega)
          obtain ⟨g1, g2, g3, g4, g5, g6⟩ := HH.out
          have hq1 : OwnQn W0 B (.slice qa cq qc) lq := row_below g1 H0.out.1
          have hr1 := HS.out.2.2.2.1
          have hlr := World.ownsRow.lt g4
          refine ⟨_, _, _, _, rfl, row_aside (row_aside hq1 HS.out.2.2.2.2 (fun k hk hg => row_apart g1 g4 (by decide) k hk hg)) HFIN.out (fun k hk he => by have := (World.ownsRow.lt g1 k hk).2; have := HL.out; omega), hA g2 g5, hA g3 g6, ?_⟩
          show OwnRc _ B _ (brL lar)
          rw [HS.out.1, hbr.1]
          exact row_aside hr1 HFIN.out (fun k hk he => by have := (hlr k hk).2; have := HL.out; omega)
        · have hb := HL.out.2.2.2.2
          have h1 : Below B w W0 := H0.out.1.mono hb.2
          have hlr := World.ownsRow.lt HH.out.2.2.2.1
          exact below_aside (below_aside h1 HS.out.2.2.2.2 (fun k hk => ⟨by have := H0.out.1.size; omega, fun he => by have := (hlr k he).1; omega⟩)) HFIN.out (fun k hk => ⟨by have := H0.out.1.size; have := HS.out.2.2.2.2.size; omega, by omega⟩)
end Go.Proofs.YteegekpanadmkaaGreat

/-
  What the search asks; the search.
-/
namespace Go.Proofs.YteegekpanadmkaaGreat
open Go.RowKit Go.Shelf
set_option linter.unusedVariables false
set_option linter.unusedSimpArgs false
set_option maxRecDepth 100000

def srP (m : Ms) (size : Int) (n : Nat) : Bool := fitW (brM (mcut m n)) (size - (moL (mcut m n).ar : Nat))
def StI (w0 : World) (B p b : Nat) (m : Ms) (ord : List Nat) (W : World) : Prop := Sht W B p b m.id m.fl (ents m) ord ∧ Aside (fun k => k = b) w0 W
theorem moL_le : ∀ (l : List Rc), moL l ≤ l.length
  | [] => Nat.le_refl _
  | x :: l => by
    have hm : ∀ (l : List Rc), mors l ≤ l.length := fun l => by
      induction l with
      | nil => simp [mors]
      | cons y l ih =>
        have : mors (y :: l) = mor y + mors l := by simp [mors]
        have h1 : mor y ≤ 1 := by unfold mor; split <;> omega
        rw [this, List.length_cons]; omega
    rw [moL]
    have := moL_le l
    split
    · exact hm _
    · rw [List.length_cons]; omega

theorem Sht.keep {W w1 w2 : World} {B p b : Nat} {i f : Int} {E : List En} {ord : List Nat} (h : Sht W B p b i f E ord) (hpb : p ≠ b) (hbW : b < W.heap.size) (h1 : Sht w1 B p b i f E ord) (ha : Aside (fun k => k = b) W w1) (hb : Below W.heap.size w1 w2) : Sht w2 B p b i f E ord := by
  obtain ⟨va, vo, O, hW⟩ := h
  obtain ⟨va1, vo1, O1, hV⟩ := h1
  have pl := hW.lts
  have a2 : some va1 = some va := (hV.1.c 2 (by simp)).symm.trans (ha.cell_lt (hW.1.c 2 (by simp)) hpb)
  have a3 : some vo1 = some vo := (hV.1.c 3 (by simp)).symm.trans (ha.cell_lt (hW.1.c 3 (by simp)) hpb)
  injection a2 with a2
  injection a3 with a3
  subst a2 a3
  refine ⟨_, _, O1, hV.aside (G := fun k => W.heap.size ≤ k) (Aside.of_below hb (fun k hk hg => by omega)) (by omega) (by omega) ?_ (fun g hg => by have := (World.ownsRow.lt hW.2.2.1 g hg).2; omega)⟩
  intro g hg
  rcases hW.2.2.2.2 with ⟨_, h5⟩ | ⟨c, g2, d, e1, e2, e3⟩
  · rw [h5] at hg; cases hg
  · rw [e2] at hg
    have : g2 = g := by simpa [Value.ownBlock] using hg
    have := e3.lt
    omega

set_option maxHeartbeats 4000000 in
theorem ask_fit {w0 W : World} {B p b SB ZB : Nat} {m : Ms} {ord : List Nat} {size : Int} (hI : StI w0 B p b m ord W) (hm : Mrg (kOf (ents m)) ord (List.range (ents m).length).reverse) (hc : chkM m = 0) (hf : m.Fine) (ht : totM m ≤ 1100)
    (hB : B ≤ w0.heap.size) (hb : b < w0.heap.size) (hs : w0.cell? ⟨SB, 0, none⟩ = some (.pointer (some ⟨p, 0, none⟩))) (hz : w0.cell? ⟨ZB, 0, none⟩ = some (.int .i64 size)) (hpb : p ≠ b) (hsb : SB ≠ b) (hzb : ZB ≠ b) (h0 : 12 ≤ size) (h1 : size ≤ 65535) (n : Nat) (hn : n ≤ 1100) :
    Calls Tryz.prog 32 #[.int .i64 n, .pointer (some ⟨SB, 0, none⟩), .pointer (some ⟨ZB, 0, none⟩)] W fun e w' => e = .returned (.bool (srP m size n)) ∧ StI w0 B p b m ord w' := by
  obtain ⟨hsh, has⟩ := hI
  obtain ⟨_, _, f0, f1, _⟩ := chkM_ok hc
  have hel := ents_len m
  have htt := ht
  unfold totM at htt
  have hW := has.size
  have HKP := Lib.hid (fun (w1 w2 : World) => hsh.keep hpb (by omega : b < W.heap.size) (w1 := w1) (w2 := w2))
  have HWO := Lib.hid (without_any hsh hm (by omega) (by omega) (by omega) f0 f1 n (by omega))
  have c1 : W.cell? ⟨SB, 0, none⟩ = some (.pointer (some ⟨p, 0, none⟩)) := has.cell_lt hs hsb
  have HZ := Lib.hid (And.intro (has.cell_lt hz hzb) (And.intro hzb (And.intro has (And.intro hb hW))))
  have HM := Lib.hid (gath_mcut m hm n)
  have HC := Lib.hid (And.intro hc (And.intro hf ht))
  have hbl := moL_le (mcut m n).ar
  have hct := cut_tot m n
  have hal : (mcut m n).ar.length ≤ 1100 := by unfold totM at hct; omega
  clear hsh hm hc hf hb hs hz has hW htt hel f0 f1
  go_enter Tryz.func32, Tryz.ntmps32
  go_wp2_with fail
  refine HWO.out.mono ?_; rintro e w1 ⟨v, rfl, hsh, hox, has⟩
  rw [HM.out] at hox
  obtain ⟨c, hcc⟩ : ∃ c, mcut m n = c := ⟨_, rfl⟩
  rw [hcc] at hox hbl hal
  have hz1 : w1.cell? ⟨ZB, 0, none⟩ = some (.int .i64 size) := has.cell_lt HZ.out.1 HZ.out.2.1
  have HBR := Lib.hid (bare_any hox has.size (by omega))
  have hA1 := HZ.out.2.2.1.trans has
  have H1 := Lib.hid (And.intro hsh (And.intro hA1 (And.intro has (And.intro hz1 hcc))))
  clear hsh hox has hz1 hA1 c1 hcc
  go_wp2_with fail
  refine HBR.out.mono ?_; rintro e w2 ⟨v2, rfl, hom, hb2⟩
  obtain ⟨_, hf2, _⟩ := HC.out
  have hcf : (brM c).Fine := by rw [← H1.out.2.2.2.2]; exact br_fine (cut_fine hf2 n)
  have hct2 : totM (brM c) ≤ 1100 := by rw [br_tot, ← H1.out.2.2.2.2]; omega
  have hmg := hom.mg (by unfold totM at hct2; omega)
  obtain ⟨q, a, n', r, rfl, hq, ha, hn', hr⟩ := hom
  obtain ⟨qa, qc, rfl⟩ := row_shape hq
  obtain ⟨aa, ac, rfl⟩ := row_shape ha
  obtain ⟨na, nc, rfl⟩ := row_shape hn'
  obtain ⟨ra, rc, rfl⟩ := row_shape hr
  obtain ⟨u, hu⟩ : ∃ u, brM c = u := ⟨_, rfl⟩
  obtain ⟨mo, hmo⟩ : ∃ k, moL c.ar = k := ⟨_, rfl⟩
  have hsr : srP m size n = fitW u (size - (mo : Int)) := by unfold srP; rw [H1.out.2.2.2.2, hu, hmo]
  rw [hu] at hmg hcf hct2 ⊢
  rw [hmo]
  have HSR := Lib.hid hsr
  have hmo1 : mo ≤ 1100 := by omega
  have hzW : ZB < W.heap.size := World.block_lt_of_cell? W _ HZ.out.1
  have z2 : w2.cell? ⟨ZB, 0, none⟩ = some (.int .i64 size) := (World.cell?_of_block (w := w1) (a := ⟨ZB, 0, none⟩) (hb2.block ZB hzW)).trans H1.out.2.2.2.1
  obtain ⟨i0, hi0⟩ : ∃ i, u.id = i := ⟨_, rfl⟩
  obtain ⟨f0, hf0⟩ : ∃ i, u.fl = i := ⟨_, rfl⟩
  obtain ⟨lq, hlq⟩ : ∃ i, u.q.length = i := ⟨_, rfl⟩
  obtain ⟨la, hla⟩ : ∃ i, u.an.length = i := ⟨_, rfl⟩
  obtain ⟨ln, hln⟩ : ∃ i, u.ns.length = i := ⟨_, rfl⟩
  obtain ⟨lr, hlr⟩ : ∃ i, u.ar.length = i := ⟨_, rfl⟩
  rw [hi0, hf0, hlq, hla, hln, hlr] at hmg ⊢
  have hb3 : Below w2.heap.size w2 (w2.alloc (.cells #[.int .i64 i0, .int .i64 f0, .slice qa lq qc, .slice aa la ac, .slice na ln nc, .slice ra lr rc] 25)) := (Below.refl _ _).alloc (Nat.le_refl _) _
  have hlt2 : ZB < w2.heap.size := World.block_lt_of_cell? w2 _ z2
  have z3 : (w2.alloc (.cells #[.int .i64 i0, .int .i64 f0, .slice qa lq qc, .slice aa la ac, .slice na ln nc, .slice ra lr rc] 25)).cell? ⟨ZB, 0, none⟩ = some (.int .i64 size) := (World.cell?_of_block (w := w2) (a := ⟨ZB, 0, none⟩) (hb3.block ZB hlt2)).trans z2
  obtain ⟨d, hd⟩ : ∃ d, size - (mo : Int) = d := ⟨_, rfl⟩
  have hdw : IntKind.i64.wrap (size - (mo : Int)) = d := by rw [IntWalk.i64_in _ (by omega)]; exact hd

  have hd1 : -2000 ≤ d := by omega
  have hd2 : d ≤ 65535 := by omega
  have HWT := Lib.hid (written_any (hmg.later hb3) (by rw [World.size_alloc]; omega) hcf (by unfold totM at hct2; omega) d)
  have HB := Lib.hid (And.intro hb2 hb3)
  clear hmg hq ha hn' hr hi0 hf0 hlq hla hln hlr hb2 hb3 hcf hct2 hu hmo hsr HWO HM hbl hct hal z2
  go_wp2_with fail
  refine HWT.out.mono ?_; rintro e w4 ⟨v4, rfl, hb4, _⟩
  have hb4 : Below W.heap.size w1 w4 := by
    have hs := HB.out.1.size
    have := H1.out.2.2.1.size
    exact (HB.out.1.trans (HB.out.2.mono (by omega))).trans (hb4.mono (by rw [World.size_alloc]; omega))
  have HE := Lib.hid (And.intro (HKP.out w1 w4 H1.out.1 H1.out.2.2.1 hb4) ((H1.out.2.1.trans (Aside.refl _ _)).onto (Aside.of_below (G := fun k => W.heap.size ≤ k) hb4 (fun k hk hg => by omega)) (fun k hk hg => by have := HZ.out.2.2.2.2; omega)))
  clear hb4
  go_wp2_with fail
  go_ret
  exact ⟨by rw [HSR.out, hd]; rfl, HE.out⟩
end Go.Proofs.YteegekpanadmkaaGreat

/-
  The search, by what is asked of a number.
-/
namespace Go.Proofs.YteegekpanadmkaaGreat
open Go.RowKit Go.Shelf
set_option linter.unusedVariables false
set_option linter.unusedSimpArgs false
set_option maxRecDepth 100000

set_option maxHeartbeats 4000000 in
theorem search_any {I : World → Prop} {p : Nat → Bool} {u1 u2 : Value} {N : Nat} {W : World} (hI : I W) (hN : N ≤ 100000) (hA : ∀ (w : World) (n : Nat), n < N → I w → Calls Tryz.prog 32 #[.int .i64 n, u1, u2] w fun e w' => e = .returned (.bool (p n)) ∧ I w') (hp : ∀ i j, i ≤ j → j < N → p i = true → p j = true) :
    Calls Tryz.prog 31 #[.int .i64 N, .func (.func 32) #[] #[u1, u2]] W fun e w' => ∃ r : Nat, e = .returned (.int .i64 r) ∧ r ≤ N ∧ (∀ t, t < r → p t = false) ∧ (∀ t, r ≤ t → t < N → p t = true) ∧ I w' := by
  have HA := Lib.hid hA
  have HP := Lib.hid hp
  have HI := Lib.hid hI
  clear hA hp hI
  go_enter Tryz.func31, Tryz.ntmps31
  go_wp2
  go_loopg [5, 6] N (fun kx s t wr => ∃ i j : Nat, j ≤ i + kx ∧ i ≤ j ∧ j ≤ N ∧ s = .int .i64 i ∧ t = .int .i64 j ∧ Hid ((∀ t, t < i → p t = false) ∧ (∀ t, j ≤ t → t < N → p t = true) ∧ I wr))
  case atStart => exact ⟨0, N, by omega, by omega, Nat.le_refl _, rfl, rfl, Lib.hid ⟨fun t h => by omega, fun t h1 h2 => by omega, HI.out⟩⟩
  case round =>
    obtain ⟨i, j, hk, hij, hjz, rfl, rfl, HH⟩ := hrel
    by_cases hlt : i < j
    · obtain ⟨hh, hhd⟩ : ∃ k, k = (i + j) / 2 := ⟨_, rfl⟩
      have hd : ((i : Int) + (j : Int)) / 2 = (hh : Int) := by omega
      have h1 : i ≤ hh := by omega
      have h2 : hh < j := by omega
      have HD := Lib.hid hhd
      have HL := Lib.hid (HA.out wr hh (by omega) HH.out.2.2)
      clear hhd
      go_wp2_with fail
      refine HL.out.mono ?_; rintro e w2 ⟨rfl, hi2⟩
      have HI2 := Lib.hid hi2
      clear hi2
      rcases hpv : p hh with _ | _
      · have HPV := Lib.hid hpv
        clear hpv
        go_wp2
        go_roundg (j - (hh + 1))
        case rel =>
          refine ⟨hh + 1, j, by omega, by omega, hjz, by go_num, rfl, Lib.hid ⟨fun t ht => ?_, HH.out.2.1, HI2.out⟩⟩
          rcases hq : p t with _ | _
          · rfl
          · exact (HP.out t hh (by omega) (by omega) hq).symm.trans HPV.out
        case measure => omega
      · have HPV := Lib.hid hpv
        clear hpv
        go_wp2
        go_roundg (hh - i)
        case rel => exact ⟨i, hh, by omega, by omega, by omega, rfl, rfl, Lib.hid ⟨HH.out.1, fun t h3 h4 => HP.out hh t h3 h4 HPV.out, HI2.out⟩⟩
        case measure => omega
    · obtain rfl : i = j := by omega
      go_wp2
      go_ret
      exact ⟨i, rfl, by omega, HH.out.1, HH.out.2.1, HH.out.2.2⟩
end Go.Proofs.YteegekpanadmkaaGreat
