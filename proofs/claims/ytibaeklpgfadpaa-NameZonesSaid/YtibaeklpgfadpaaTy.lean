/-
  A text's reader: label.
-/
import Derived.Test.YtibaeklpgfadpaaTx
namespace Go.Proofs.Ytibaeklpgfadpaa
open Go.RowKit Go.Shelf
set_option linter.unusedVariables false
set_option linter.unusedSimpArgs false

/-- A label, and where one stands then; or a fault. -/
inductive LabR where
  | ok (l : List UInt8) (q : Nat)
  | bad (e : Int) (a : Nat)

/-- At most n letters more. -/
def labR (t : List UInt8) : Nat → Nat → List UInt8 → LabR
  | 0, p, acc => .ok acc p
  | n + 1, p, acc =>
    match t[p]? with
    | none => .ok acc p
    | some c => if c = 46 then .ok acc (p + 1) else
      match letR t p with
      | .ok d q => labR t n q (acc ++ [d])
      | .bad e a => .bad e a

def labelR (t : List UInt8) (p : Nat) : LabR :=
  if t[p]? = some 46 then .bad 4 p else
    match labR t t.length p [] with
    | .ok l q => if 63 < l.length then .bad 3 p else .ok l q
    | .bad e a => .bad e a

def LabPost (w : World) (r : Nat) (t : List UInt8) : LabR → Ending → World → Prop
  | .ok l q => Moved w r t q (.string (bs l))
  | .bad e a => Fails w r e a

theorem back_U {w : World} {B : Nat} {v : Value} {l : List UInt8} (h : OwnU w B v l) : (convert 54 9 v).run Try.prog w = .ok (.string (bs l)) w := by
  obtain ⟨a, c, rfl, hc⟩ := h.shape
  by_cases h0 : 0 < l.length
  · obtain ⟨g, rfl, _, hg⟩ := hc h0
    exact run_convert_bytes_back (P := Try.prog) w 54 9 5 ⟨g, 0, none⟩ c l Try.underlying54 Try.underlying5 Try.underlying9 (fun j hj => by
      rw [WideShapes.add_plain, Nat.zero_add, hg j hj, List.getD, List.getElem?_eq_getElem hj]; rfl)
  · have hl : l = [] := List.eq_nil_of_length_eq_zero (by omega)
    subst hl
    rcases a with _ | ad
    · rw [run_convert_bytes_nil w 54 5 Try.underlying54 Try.underlying5 _ c 9 Try.underlying9]; rfl
    · rw [run_convert_bytes_string w 54 9 5 _ _ c Try.underlying54 Try.underlying5 Try.underlying9, run_bytesToString w ad _ c [] (by simpa using run_loadCells_list (P := Try.prog) w ad [] (by simp))]
      rfl

/-- One letter more in the label's row. -/
theorem lab_step {w W : World} {r B : Nat} {v : Value} {t acc : List UInt8} {q : Nat} (ho : OwnU W B v acc) (hr : Rd W r t q) (hrB : r < B) (hB : B ≤ W.heap.size) (d : UInt8) (hl : acc.length + 1 ≤ 1000000) (ha : Aside (fun b => b = r) w W) (hw : w.heap.size ≤ B) :
    ∃ a c W3, (Builtin.append_ #[54, 54] 54 #[v, .slice (some ⟨W.heap.size, 0, none⟩) 1 1]).run Try.prog (W.alloc (.cells #[.int .u8 (d.toNat : Nat)] 5)) = .ok (.slice a (acc.length + 1) c) W3 ∧
      OwnU W3 B (.slice a (acc.length + 1) c) (acc ++ [d]) ∧ Rd W3 r t q ∧ Aside (fun b => b = r) w W3 ∧ B ≤ W3.heap.size := by
  have ho1 := ho.below ((Below.refl _ W).alloc (Nat.le_refl _) (.cells #[.int .u8 (d.toNat : Nat)] 5))
  obtain ⟨a, c, W3, h1, h2, h3⟩ := run_appU (w := W.alloc (.cells #[.int .u8 (d.toNat : Nat)] 5)) B v acc [d] W.heap.size 1 ho1 (fun j hj => by
    obtain rfl : j = 0 := by simpa using hj
    simp [go_sem]) (by simpa using hl) (by simp; omega)
  have hA : Aside (fun b => B ≤ b) W W3 := (Aside.alloc _ _).trans (Aside.grown h3 fun k hk => ho1.row k hk)
  exact ⟨a, c, W3, h1, h2, hr.block (hA.block r hr.lt (by omega)), ha.onto hA fun b hb _ => by omega, Nat.le_trans hB hA.size⟩

set_option maxHeartbeats 4000000 in
theorem label_any {w : World} {r p : Nat} {t : List UInt8} (h : Rd w r t p) (hp : p < t.length) (ht : t.length ≤ 900000) : Calls Try.prog 61 #[.pointer (some ⟨r, 0, none⟩)] w (LabPost w r t (labelR t p)) := by
  have H := Lib.hid h
  have hrl := h.lt
  obtain ⟨hr0, hr1, hrf⟩ := h
  clear hr0 hrf
  by_cases h46 : t[p]? = some 46
  · have e : labelR t p = .bad 4 p := by unfold labelR; rw [if_pos h46]
    rw [e]
    have HP := Lib.hid (passes_yes H.out (by omega) h46)
    have HF := Lib.hid (fail_any 4 p)
    clear h46 e
    go_enter Try.func61, Try.ntmps61
    go_wp2_with fail
    refine HP.out.mono ?_; rintro e w1 ⟨rfl, hr, ha⟩; have HA := Lib.hid ha; clear hr ha
    go_wp2_with fail
    refine (HF.out _).mono ?_; rintro e w2 ⟨rfl, rfl⟩
    exact ⟨rfl, rfl, HA.out⟩
  · have HP := Lib.hid (passes_no H.out (by omega) (by omega) h46)
    have HX := Lib.hid (show ∀ X, labR t t.length p [] = X → labelR t p = (match X with | .ok l q => if 63 < l.length then .bad 3 p else .ok l q | .bad e a => .bad e a) from fun X hX => by unfold labelR; rw [if_neg h46, hX])
    obtain ⟨X, hX⟩ : ∃ X, labR t t.length p [] = X := ⟨_, rfl⟩
    have HXX := Lib.hid hX
    obtain ⟨R, hR⟩ : ∃ R, labelR t p = R := ⟨_, rfl⟩
    have HRR := Lib.hid ((HX.out X hX).symm.trans hR)
    rw [hR]
    clear h46 hX hR HX
    go_enter Try.func61, Try.ntmps61
    go_wp2_with fail
    refine HP.out.mono ?_; rintro e w1 ⟨rfl, hd⟩; have HD := Lib.hid hd; clear hd
    have HS1 := Lib.hid (HD.out.below w.heap.size).size
    go_wp2_with fail
    go_loopw [4] (fun v wr => ∃ (q n : Nat) (acc : List UInt8), (∃ a c, v = .slice a acc.length c) ∧ q ≤ t.length ∧ t.length - q ≤ n ∧ acc.length ≤ q ∧ Hid (labR t n q acc = X) ∧ Hid (OwnU wr w.heap.size v acc ∧ Rd wr r t q ∧ Aside (fun b => b = r) w wr)) (fun _ wr => t.length - (match wr.cell? ⟨r, 1, none⟩ with | some u => (intOf u).toNat | none => 0))
    case atStart => exact ⟨p, t.length, [], ⟨none, 0, rfl⟩, by omega, by omega, by simp, HXX, OwnU.nil _ _, H.out.drawn HD.out, HD.out.aside _⟩
    case round =>
      obtain ⟨q, n, acc, ⟨a0, c0, rfl⟩, hq, hn, hacc, HL, HW⟩ := hrel
      have hmeas : (match wr.cell? ⟨r, 1, none⟩ with | some u => (intOf u).toNat | none => 0) = q := by rw [HW.out.2.1.2.1]; simp [intOf]
      rw [hmeas]
      clear hmeas
      have HOV := Lib.hid (over_any HW.out.2.1 hq (by omega))
      by_cases hov : q = t.length
      · have hX : X = .ok acc q := by
          rw [← HL.out]
          cases n with
          | zero => rfl
          | succ n => rw [labR, List.getElem?_eq_none (by omega)]
        rw [decide_eq_true hov] at HOV
        go_wp2_with fail
        refine HOV.out.mono ?_; rintro e w2 ⟨rfl, hd⟩; have HD2 := Lib.hid hd; clear hd
        have HU := Lib.hid (HW.out.1.below (HD2.out.below _))
        have HA2 := Lib.hid (HW.out.2.2.trans (HD2.out.aside _))
        have HR2 := Lib.hid (HW.out.2.1.drawn HD2.out)
        by_cases hbig : 63 < acc.length
        · have hR : R = .bad 3 p := by rw [← HRR.out, hX]; simp only [if_pos hbig]
          have t3 : decide ((63 : Int) < acc.length) = true := by simp; omega
          have HF := Lib.hid (fail_any 3 p)
          have HRe := Lib.hid hR
          clear hX hR
          go_wp2_with fail
          refine (HF.out _).mono ?_; rintro e w9 ⟨rfl, rfl⟩
          refine ⟨rfl, ?_⟩
          rw [HRe.out]
          exact ⟨rfl, HA2.out⟩
        · have hR : R = .ok acc q := by rw [← HRR.out, hX]; simp only [if_neg hbig]
          have t3 : decide ((63 : Int) < acc.length) = false := by simp; omega
          have hbk := back_U HU.out
          have HRe := Lib.hid hR
          clear hX hR
          go_wp2_with fail
          go_ret
          rw [HRe.out]
          exact ⟨rfl, HR2.out, HA2.out⟩
      · have hql : q < t.length := by omega
        rw [decide_eq_false hov] at HOV
        obtain ⟨m, rfl⟩ : ∃ m, n = m + 1 := ⟨n - 1, by omega⟩
        have hgq : t[q]? = some t[q] := List.getElem?_eq_getElem hql
        by_cases hpt : t[q] = 46
        · have h46 : t[q]? = some 46 := by rw [hgq, hpt]
          have hX : X = .ok acc (q + 1) := by rw [← HL.out, labR, h46]; simp
          have HPY := Lib.hid (fun (w2 : World) (hd : Drawn wr w2) => passes_yes (HW.out.2.1.drawn hd) (by omega) h46)
          clear hpt hgq h46 hov
          go_wp2_with fail
          refine HOV.out.mono ?_; rintro e w2 ⟨rfl, hd⟩; have HD2 := Lib.hid hd; clear hd
          go_wp2_with fail
          refine (HPY.out w2 HD2.out).mono ?_; rintro e w3 ⟨rfl, hr3, ha3⟩; have HR3 := Lib.hid hr3; have HA3 := Lib.hid ha3; clear hr3 ha3
          have HU := Lib.hid ((HW.out.1.below (HD2.out.below _)).aside HA3.out (fun b hb e => by omega))
          have HA2 := Lib.hid ((HW.out.2.2.trans (HD2.out.aside _)).trans HA3.out)
          by_cases hbig : 63 < acc.length
          · have hR : R = .bad 3 p := by rw [← HRR.out, hX]; simp only [if_pos hbig]
            have t3 : decide ((63 : Int) < acc.length) = true := by simp; omega
            have HF := Lib.hid (fail_any 3 p)
            have HRe := Lib.hid hR
            clear hX hR
            go_wp2_with fail
            refine (HF.out _).mono ?_; rintro e w9 ⟨rfl, rfl⟩
            refine ⟨rfl, ?_⟩
            rw [HRe.out]
            exact ⟨rfl, HA2.out⟩
          · have hR : R = .ok acc (q + 1) := by rw [← HRR.out, hX]; simp only [if_neg hbig]
            have t3 : decide ((63 : Int) < acc.length) = false := by simp; omega
            have hbk := back_U HU.out
            have HRe := Lib.hid hR
            clear hX hR
            go_wp2_with fail
            go_ret
            rw [HRe.out]
            exact ⟨rfl, HR3.out, HA2.out⟩
        · have h46 : t[q]? ≠ some 46 := by rw [hgq]; intro e; injection e with e; exact hpt e
          have HPN := Lib.hid (fun (w2 : World) (hd : Drawn wr w2) => passes_no (HW.out.2.1.drawn hd) hq (by omega) h46)
          have HLT := Lib.hid (fun (w3 : World) (hd : Drawn wr w3) => letter_any (HW.out.2.1.drawn hd) hql (by omega))
          have hlab : labR t (m + 1) q acc = (match letR t q with | .ok d q' => labR t m q' (acc ++ [d]) | .bad e a => .bad e a) := by
            conv => lhs; rw [labR, hgq]
            simp only [if_neg hpt]
          have hlq := fun d q' (e : letR t q = .ok d q') => letR_lt e
          obtain ⟨Y, hY⟩ : ∃ Y, letR t q = Y := ⟨_, rfl⟩
          rw [hY] at HLT hlab hlq
          have HLAB := Lib.hid (hlab.symm.trans HL.out)
          clear hpt hgq h46 hov hY hlab
          go_wp2_with fail
          refine HOV.out.mono ?_; rintro e w2 ⟨rfl, hd⟩; have HD2 := Lib.hid hd; clear hd
          go_wp2_with fail
          refine (HPN.out w2 HD2.out).mono ?_; rintro e w3 ⟨rfl, hd⟩; have HD3 := Lib.hid (HD2.out.trans hd); clear hd
          have HLE := Lib.hid (HLT.out w3 HD3.out)
          cases Y with
          | bad e a =>
            have hX : X = .bad e a := HLAB.out.symm
            have hR : R = .bad e a := by rw [← HRR.out, hX]
            have HRe := Lib.hid hR
            clear hX hR hlq
            go_wp2_with fail
            refine HLE.out.mono ?_; rintro e w4 ⟨rfl, ha⟩
            refine ⟨rfl, ?_⟩
            rw [HRe.out]
            exact ⟨rfl, (HW.out.2.2.trans (HD3.out.aside _)).trans ha⟩
          | ok d q' =>
            have hq' := hlq d q' rfl
            clear hlq
            go_wp2_with fail
            refine HLE.out.mono ?_; rintro e w4 ⟨rfl, hr4, ha4⟩; have HR4 := Lib.hid hr4; have HA4 := Lib.hid ((HW.out.2.2.trans (HD3.out.aside _)).trans ha4)
            have HU := Lib.hid ((HW.out.1.below (HD3.out.below _)).aside ha4 (fun b hb e => by omega))
            clear hr4 ha4
            obtain ⟨a5, c5, w5, hrun, ho5, hr5, hA5, hB5⟩ := lab_step (w := w) (B := w.heap.size) HU.out HR4.out hrl HA4.out.size d (by omega) HA4.out (Nat.le_refl _)
            have HRUN := Lib.hid hrun
            have HO5 := Lib.hid (And.intro ho5 (And.intro hr5 hA5))
            clear hrun ho5 hr5 hA5 hB5
            go_wp2_with (at_builtin; refine wpList_append_run (.tmp 28) (.tmp 31) 54 54 rfl rfl rfl rfl HRUN.out ?_)
            refine ⟨⟨q', m, acc ++ [d], ⟨a5, c5, by simp⟩, hq'.2, by omega, by simp; omega, HLAB.out, HO5⟩, ?_⟩
            rw [HO5.out.2.1.2.1]
            simp [intOf]
            omega
end Go.Proofs.Ytibaeklpgfadpaa
