/-
  The iterator that goes along the labels of a text; labels.
-/
import Derived.Test.YtibaeklpgfadpaaTy
namespace Go.Proofs.Ytibaeklpgfadpaa
open Go.RowKit Go.Shelf
set_option linter.unusedVariables false
set_option linter.unusedSimpArgs false

/-- The labels that are read, and the fault that ends that. -/
def labsR (t : List UInt8) : Nat → Nat → List (List UInt8) × Option (Int × Nat)
  | 0, _ => ([], none)
  | n + 1, p =>
    if t.length ≤ p then ([], none) else
      match labelR t p with
      | .bad e a => ([], some (e, a))
      | .ok l q => (l :: (labsR t n q).1, (labsR t n q).2)

theorem labR_lt {t : List UInt8} : ∀ (n p : Nat) (acc l : List UInt8) (q : Nat), labR t n p acc = .ok l q → p ≤ t.length → p ≤ q ∧ q ≤ t.length ∧ acc.length ≤ l.length := by
  intro n
  induction n with
  | zero => intro p acc l q h hp; rw [labR] at h; injection h with h1 h2; subst h1; subst h2; omega
  | succ n ih =>
    intro p acc l q h hp
    rw [labR] at h
    split at h
    · injection h with h1 h2; subst h1; subst h2; omega
    · rename_i c hc
      have hlt : p < t.length := (List.getElem?_eq_some_iff.mp hc).1
      split at h
      · injection h with h1 h2; subst h1; subst h2; omega
      · split at h
        · rename_i d q' hl
          have := letR_lt hl
          have h2 := ih q' (acc ++ [d]) l q h this.2
          simp at h2
          omega
        · simp at h

theorem labelR_lt {t : List UInt8} {p : Nat} {l : List UInt8} {q : Nat} (h : labelR t p = .ok l q) (hp : p < t.length) : p < q ∧ q ≤ t.length ∧ 0 < l.length ∧ l.length ≤ 63 := by
  unfold labelR at h
  split at h
  · simp at h
  · rename_i h46
    split at h
    · rename_i l' q' hl
      split at h
      · simp at h
      · injection h with h1 h2
        subst h1; subst h2
        obtain ⟨n, hn⟩ : ∃ n, t.length = n + 1 := ⟨t.length - 1, by omega⟩
        rw [hn, labR, List.getElem?_eq_getElem hp] at hl
        have hne : t[p] ≠ 46 := fun e => h46 (by rw [List.getElem?_eq_getElem hp, e])
        simp only [if_neg hne] at hl
        split at hl
        · rename_i d q2 hd
          have h2 := letR_lt hd
          have h3 := labR_lt n q2 _ _ _ hl h2.2
          simp at h3
          omega
        · simp at hl
    · simp at h

theorem labels_text_any (v : Value) (w : World) (hv : ∃ r, v = .pointer (some ⟨r, 0, none⟩)) : Calls Try.prog 49 #[v] w fun e w' =>
    e = .returned (.func (.func 59) #[] #[.pointer (some ⟨w.heap.size, 0, none⟩)]) ∧ w' = w.alloc (.cells #[v] 80) := by
  obtain ⟨r, rfl⟩ := hv
  go_enter Try.func49, Try.ntmps49
  go_wp2
  go_ret
  exact ⟨rfl, rfl⟩

set_option maxHeartbeats 4000000 in
theorem text_seq (t : List UInt8) (Bb r : Nat) (ht : t.length ≤ 900000) (hne : Bb ≠ r) : SeqT Try.prog 59 #[.pointer (some ⟨Bb, 0, none⟩)] (fun b => b = Bb ∨ b = r) (fun b => b = r) ((labsR t t.length 0).1.map bs)
    ((labsR t t.length 0).2.map fun x => ch x.1 x.2) (fun w => w.cell? ⟨Bb, 0, none⟩ = some (.pointer (some ⟨r, 0, none⟩)) ∧ Rd w r t 0) := by
  intro ll J Jx W hJ hY hSt h0
  rw [List.length_map]
  show CallsIn _ _ _ _ #[.func (.yield ll) #[] #[], .pointer (some ⟨Bb, 0, none⟩)] _ _
  obtain ⟨X, hX⟩ : ∃ X, (labsR t t.length 0).1 = X := ⟨_, rfl⟩
  obtain ⟨F, hF⟩ : ∃ F, ((labsR t t.length 0).2.map fun x => ch x.1 x.2) = F := ⟨_, rfl⟩
  have h00 : (labsR t t.length 0).1 = X.drop 0 ∧ ((labsR t t.length 0).2.map fun x => ch x.1 x.2) = F ∧ 0 ≤ X.length := ⟨by simpa using hX, hF, by omega⟩
  have H00 := Lib.hid h00
  rw [hX] at hY ⊢
  rw [hF]
  have HY := Lib.hid hY
  have HJA := Lib.hid hJ
  have HSt := Lib.hid hSt
  clear hY hJ hSt hX hF h00
  refine callsIn_of_wp Try.func59 rfl trivial ?_
  simp only [Try.ntmps59, List.size_toArray, List.length_cons, List.length_nil, Nat.reduceAdd, Nat.reduceSub, Array.replicate_succ,
     Array.replicate_zero, List.push_toArray, List.append_toArray, List.nil_append, List.cons_append]
  gi_wp2
  gi_loopw [3] (fun _ wr => ∃ p k n : Nat, p ≤ t.length ∧ t.length - p ≤ n ∧ Hid ((labsR t n p).1 = X.drop k ∧ ((labsR t n p).2.map fun x => ch x.1 x.2) = F ∧ k ≤ X.length) ∧ Hid (wr.cell? ⟨Bb, 0, none⟩ = some (.pointer (some ⟨r, 0, none⟩)) ∧ Rd wr r t p) ∧ Hid (J k wr)) (fun _ wr => t.length - (match wr.cell? ⟨r, 1, none⟩ with | some u => (intOf u).toNat | none => 0))
  case atStart => exact ⟨0, 0, t.length, by omega, by omega, H00, HSt, h0⟩
  case round =>
    obtain ⟨p, k, n, hp, hn, HL, HW, HJ⟩ := hrel
    have hmeas : (match wr.cell? ⟨r, 1, none⟩ with | some u => (intOf u).toNat | none => 0) = p := by rw [HW.out.2.2.1]; simp [intOf]
    rw [hmeas]
    clear hmeas
    have hbc := HW.out.1
    have HOV := Lib.hid (over_any HW.out.2 hp (by omega))
    by_cases hov : p = t.length
    · have hend : (labsR t n p).1 = [] ∧ (labsR t n p).2 = none := by
        cases n with
        | zero => exact ⟨rfl, rfl⟩
        | succ n => rw [labsR, if_pos (by omega)]; exact ⟨rfl, rfl⟩
      have hFn : F = none := by rw [← HL.out.2.1, hend.2]; rfl
      have hk : k = X.length := along_end (by rw [← HL.out.1]; exact hend.1) HL.out.2.2
      rw [decide_eq_true hov] at HOV
      have HFN := Lib.hid hFn
      have HK := Lib.hid hk
      clear hend hFn hk
      gi_wp2_with fail
      refine ⟨trivial, rfl, (callsIn_wide.2 HOV.out).mono ?_⟩
      rintro e w2 ⟨rfl, hd⟩
      have HD2 := Lib.hid hd
      clear hd
      gi_wp2_with fail
      refine ⟨trivial, ?_⟩
      gi_wp2_with fail
      refine ⟨fun _ h => (by cases h), ?_⟩
      gi_wp2_with fail
      go_end0
      exact .inl ⟨HFN.out, ⟨_, rfl⟩, HK.out ▸ HJA.out k wr w2 HJ.out (HD2.out.aside _)⟩
    · have hpl : p < t.length := by omega
      rw [decide_eq_false hov] at HOV
      obtain ⟨m, rfl⟩ : ∃ m, n = m + 1 := ⟨n - 1, by omega⟩
      have HLB := Lib.hid (fun (w2 : World) (hd : Drawn wr w2) => label_any (HW.out.2.drawn hd) hpl ht)
      have hstep : labsR t (m + 1) p = (match labelR t p with | .bad e a => ([], some (e, a)) | .ok l q => (l :: (labsR t m q).1, (labsR t m q).2)) := by
        conv => lhs; rw [labsR, if_neg (by omega)]
      have hlq := fun l q (e : labelR t p = .ok l q) => labelR_lt e hpl
      obtain ⟨Y, hY⟩ : ∃ Y, labelR t p = Y := ⟨_, rfl⟩
      rw [hY] at HLB hstep hlq
      have hL := HL.out
      rw [hstep] at hL
      clear hstep hY hov
      cases Y with
      | bad e a =>
        have hFn : F = some (ch e a) := hL.2.1.symm
        have hk : k = X.length := along_end hL.1.symm hL.2.2
        have HFN := Lib.hid hFn
        have HK := Lib.hid hk
        clear hL hFn hk hlq
        gi_wp2_with fail
        refine ⟨trivial, rfl, (callsIn_wide.2 HOV.out).mono ?_⟩
        rintro e1 w2 ⟨rfl, hd⟩
        have HD2 := Lib.hid hd
        have hbc2 := (hd.cell ⟨Bb, 0, none⟩).trans hbc
        have HLE := Lib.hid (HLB.out w2 hd)
        clear hd
        gi_wp2_with fail
        refine ⟨trivial, rfl, (callsIn_wide.2 HLE.out).mono ?_⟩
        rintro e2 w3 ⟨rfl, ha⟩
        exact ⟨rfl, .inr (.inr ⟨_, HFN.out, rfl, HK.out ▸ HJA.out k wr w3 HJ.out ((HD2.out.aside _).trans ha)⟩)⟩
      | ok l q =>
        obtain ⟨hq1, hq2, hl1, hl2⟩ := hlq l q rfl
        obtain ⟨hx1, hx2, hx3⟩ := along_step hL.1.symm
        have HX2 := Lib.hid (And.intro hx2.symm (And.intro hL.2.1 hx3))
        have HX1 := Lib.hid (show (X.map bs)[k]? = some (bs l) by rw [List.getElem?_map, hx1]; rfl)
        clear hL hx1 hx2 hlq
        gi_wp2_with fail
        refine ⟨trivial, rfl, (callsIn_wide.2 HOV.out).mono ?_⟩
        rintro e1 w2 ⟨rfl, hd⟩
        have HD2 := Lib.hid hd
        have hbc2 := (hd.cell ⟨Bb, 0, none⟩).trans hbc
        have HLE := Lib.hid (HLB.out w2 hd)
        clear hd
        gi_wp2_with fail
        refine ⟨trivial, rfl, (callsIn_wide.2 HLE.out).mono ?_⟩
        rintro e2 w3 ⟨rfl, hr3, ha3⟩
        have HR3 := Lib.hid hr3
        have HJ3 := Lib.hid (HJA.out k wr w3 HJ.out ((HD2.out.aside _).trans ha3))
        have HB3 := Lib.hid ((ha3.cell_lt hbc2 (by simpa using hne)))
        obtain ⟨fn, tmps, assign, body, hy, hR⟩ := HY.out k w3 _ HX1.out HJ3.out
        clear hr3 ha3
        gi_wp2_with fail
        refine ⟨rfl, hR.mono ?_⟩
        rintro e4 w4 (⟨rfl, hJ', hs, hk⟩ | ⟨rfl, hJx⟩)
        · have HW4 : Hid (w4.cell? ⟨Bb, 0, none⟩ = some (.pointer (some ⟨r, 0, none⟩)) ∧ Rd w4 r t q) := ⟨(World.cell?_of_block (hk Bb (.inl rfl))).trans HB3.out, HR3.out.block (hk r (.inr rfl))⟩
          have HJ' := Lib.hid hJ'
          clear hk hJ'
          gi_wp2_with fail
          refine ⟨⟨q, k + 1, m, by omega, by omega, HX2, HW4, HJ'⟩, ?_⟩
          rw [HW4.out.2.2.1]
          simp [intOf]
          omega
        · have HJx := Lib.hid hJx
          clear hJx hR
          gi_wp2_with fail
          go_end0
          exact .inr (.inl ⟨⟨_, rfl⟩, k + 1, hx3, HJx.out⟩)
end Go.Proofs.Ytibaeklpgfadpaa
