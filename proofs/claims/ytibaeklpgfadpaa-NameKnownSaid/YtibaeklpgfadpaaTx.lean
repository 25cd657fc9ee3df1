/-
  A text's reader: letter, label.
-/
import Derived.Test.YtibaeklpgfadpaaTw
namespace Go.Proofs.Ytibaeklpgfadpaa
open Go.RowKit Go.Shelf
set_option linter.unusedVariables false
set_option linter.unusedSimpArgs false

/-- What stands at a place of a text, as a letter: a byte, and where one stands then; or a fault. -/
inductive LR where
  | ok (c : UInt8) (q : Nat)
  | bad (e : Int) (a : Nat)

/-- What three digits at q are, behind the backslash at s. -/
def numR (t : List UInt8) (q s : Nat) : LR :=
  if digAt t q = true ∧ digAt t (q + 1) = true ∧ digAt t (q + 2) = true then
    (if numV t q 3 ≤ 255 then .ok (UInt8.ofNat (numV t q 3)) (q + 3) else .bad 5 s)
  else .bad 4 s

def letR (t : List UInt8) (p : Nat) : LR :=
  match t[p]? with
  | none => .bad 4 p
  | some c =>
    if std c = false then .bad 4 p
    else if c ≠ 92 then .ok c (p + 1)
    else match t[p + 1]? with
      | none => .bad 4 p
      | some d => if isDig d = true then numR t (p + 1) p else if std d = true then .ok d (p + 1 + 1) else .bad 4 (p + 1)

section
variable {t : List UInt8} {p : Nat} {c d : UInt8}
theorem letR_no (hc : t[p]? = some c) (hs : std c = false) : letR t p = .bad 4 p := by unfold letR; rw [hc]; simp [hs]
theorem letR_plain (hc : t[p]? = some c) (hs : std c = true) (h : c ≠ 92) : letR t p = .ok c (p + 1) := by unfold letR; rw [hc]; simp [hs, h]
theorem std92 : std 92 = true := by decide
theorem letR_end (hc : t[p]? = some 92) (hd : t[p + 1]? = none) : letR t p = .bad 4 p := by unfold letR; rw [hc]; simp [std92, hd]
theorem letR_num (hc : t[p]? = some 92) (hd : t[p + 1]? = some d) (h : isDig d = true) : letR t p = numR t (p + 1) p := by unfold letR; rw [hc]; simp [std92, hd, h]
theorem letR_esc (hc : t[p]? = some 92) (hd : t[p + 1]? = some d) (h : isDig d = false) (hs : std d = true) : letR t p = .ok d (p + 1 + 1) := by unfold letR; rw [hc]; simp [std92, hd, h, hs]
theorem letR_esc_no (hc : t[p]? = some 92) (hd : t[p + 1]? = some d) (h : isDig d = false) (hs : std d = false) : letR t p = .bad 4 (p + 1) := by unfold letR; rw [hc]; simp [std92, hd, h, hs]
end

def LetPost (w : World) (r : Nat) (t : List UInt8) : LR → Ending → World → Prop
  | .ok c q => Moved w r t q (.int .u8 (c.toNat : Nat))
  | .bad e a => Fails w r e a

theorem numR_lt {t : List UInt8} {q s : Nat} {c : UInt8} {q' : Nat} (h : numR t q s = .ok c q') : q' = q + 3 ∧ q + 3 ≤ t.length := by
  unfold numR at h
  split at h
  · rename_i hdd
    obtain ⟨c3, hc3, _⟩ := digAt_some hdd.2.2
    have hlt3 : q + 2 < t.length := (List.getElem?_eq_some_iff.mp hc3).1
    split at h
    · injection h with h1 h2; omega
    · simp at h
  · simp at h

theorem letR_lt {t : List UInt8} {p : Nat} {c : UInt8} {q : Nat} (h : letR t p = .ok c q) : p < q ∧ q ≤ t.length := by
  unfold letR at h
  split at h
  · simp at h
  · rename_i c' hc
    have hlt : p < t.length := (List.getElem?_eq_some_iff.mp hc).1
    split at h
    · simp at h
    · split at h
      · injection h with h1 h2; omega
      · split at h
        · simp at h
        · rename_i d hd
          have hlt2 : p + 1 < t.length := (List.getElem?_eq_some_iff.mp hd).1
          split at h
          · have := numR_lt h; omega
          · split at h
            · injection h with h1 h2; omega
            · simp at h

theorem numR_any {w : World} {r q s : Nat} {t : List UInt8} (h : Rd w r t q) (hq : q ≤ t.length) (ht : t.length ≤ 1000000) : Calls Try.prog 69 #[.pointer (some ⟨r, 0, none⟩), .int .i64 s] w (LetPost w r t (numR t q s)) := by
  refine (number_any (s := s) h hq ht).mono ?_
  intro en w' hn
  unfold NumPost at hn
  unfold numR
  split at hn
  · rename_i hall
    rw [if_pos hall]
    split at hn
    · rename_i hbig
      rw [if_pos hbig]
      have h8 : (UInt8.ofNat (numV t q 3)).toNat = numV t q 3 := by rw [UInt8.toNat_ofNat']; omega
      show Moved w r t (q + 3) (.int .u8 ((UInt8.ofNat (numV t q 3)).toNat : Nat)) en w'
      rw [h8]
      exact hn
    · rename_i hbig
      rw [if_neg hbig]
      exact hn
  · rename_i hall
    rw [if_neg hall]
    exact hn

set_option maxHeartbeats 2000000 in
theorem letter_any {w : World} {r p : Nat} {t : List UInt8} (h : Rd w r t p) (hp : p < t.length) (ht : t.length ≤ 1000000) : Calls Try.prog 66 #[.pointer (some ⟨r, 0, none⟩)] w (LetPost w r t (letR t p)) := by
  have H := Lib.hid h
  obtain ⟨hr0, hr1, hrf⟩ := h
  have hc : t[p]? = some t[p] := List.getElem?_eq_getElem hp
  obtain ⟨c, hcc⟩ : ∃ c, t[p] = c := ⟨_, rfl⟩
  rw [hcc] at hc
  clear hcc hrf hr0
  by_cases hs : std c = true
  · have HP := Lib.hid (plain_yes H.out ht c hc hs)
    by_cases h92 : c = 92
    · have hm : c.toNat = 92 := by rw [h92]; rfl
      rw [hm] at HP
      rw [h92] at hc
      by_cases hov : p + 1 = t.length
      · rw [letR_end hc (List.getElem?_eq_none (by omega))]
        have HF := Lib.hid (fail_any 4 p)
        clear hm h92 hs hc
        go_enter Try.func66, Try.ntmps66
        go_wp2_with fail
        refine HP.out.mono ?_; rintro e w1 ⟨rfl, hr, ha⟩; have HR := Lib.hid hr; have HA := Lib.hid ha; clear hr ha
        have HOV := Lib.hid (over_any HR.out (by omega) ht)
        rw [decide_eq_true hov] at HOV
        go_wp2_with fail
        refine HOV.out.mono ?_; rintro e w2 ⟨rfl, hd⟩; have HD := Lib.hid hd; clear hd
        go_wp2_with fail
        refine (HF.out _).mono ?_; rintro e w3 ⟨rfl, rfl⟩
        exact ⟨rfl, rfl, HA.out.trans (HD.out.aside _)⟩
      · have hp1 : p + 1 < t.length := by omega
        have hd : t[p + 1]? = some t[p + 1] := List.getElem?_eq_getElem hp1
        obtain ⟨d, hdd⟩ : ∃ d, t[p + 1] = d := ⟨_, rfl⟩
        rw [hdd] at hd
        clear hdd
        have hda : digAt t (p + 1) = isDig d := by unfold digAt; rw [hd]
        by_cases hdg : isDig d = true
        · rw [letR_num hc hd hdg]
          rw [hdg] at hda
          have HNR := Lib.hid (fun (w3 : World) (h3 : Rd w3 r t (p + 1)) => numR_any (s := p) h3 (by omega) ht)
          obtain ⟨X, hX⟩ : ∃ X, numR t (p + 1) p = X := ⟨_, rfl⟩
          rw [hX] at HNR ⊢
          clear hm h92 hs hc hd hX hdg
          go_enter Try.func66, Try.ntmps66
          go_wp2_with fail
          refine HP.out.mono ?_; rintro e w1 ⟨rfl, hr, ha⟩; have HR := Lib.hid hr; have HA := Lib.hid ha; clear hr ha
          have HOV := Lib.hid (over_any HR.out (by omega) ht)
          rw [decide_eq_false hov] at HOV
          go_wp2_with fail
          refine HOV.out.mono ?_; rintro e w2 ⟨rfl, hd⟩; have HD := Lib.hid hd; clear hd
          have HR2 := Lib.hid (HR.out.drawn HD.out)
          have HDG := Lib.hid (digit_any HR2.out (by omega) ht)
          rw [hda] at HDG
          go_wp2_with fail
          refine HDG.out.mono ?_; rintro e w3 ⟨rfl, hd⟩; have HD3 := Lib.hid hd; clear hd
          have HA3 := Lib.hid ((HA.out.trans (HD.out.aside _)).trans (HD3.out.aside _))
          have HNM := Lib.hid (HNR.out w3 (HR2.out.drawn HD3.out))
          clear HNR hda hov
          cases X with
          | ok d q =>
            go_wp2_with fail
            refine HNM.out.mono ?_; rintro e w4 ⟨rfl, hr, ha⟩; have HR4 := Lib.hid hr; have HA4 := Lib.hid ha; clear hr ha
            go_wp2_with fail
            go_ret
            exact ⟨rfl, HR4.out, HA3.out.trans HA4.out⟩
          | bad e a =>
            go_wp2_with fail
            refine HNM.out.mono ?_; rintro e w4 ⟨rfl, ha⟩
            exact ⟨rfl, rfl, HA3.out.trans ha⟩
        · have hdf : isDig d = false := by simpa using hdg
          rw [hdf] at hda
          have HPL : Hid (∀ (w3 : World) (h3 : Rd w3 r t (p + 1)), Calls Try.prog 67 #[.pointer (some ⟨r, 0, none⟩)] w3 (LetPost w3 r t (letR t p))) := fun w3 h3 => by
            by_cases hsd : std d = true
            · rw [letR_esc hc hd hdf hsd]
              exact plain_yes h3 ht d hd hsd
            · have hsd' : std d = false := by simpa using hsd
              rw [letR_esc_no hc hd hdf hsd']
              exact plain_no h3 ht d hd hsd'
          obtain ⟨X, hX⟩ : ∃ X, letR t p = X := ⟨_, rfl⟩
          rw [hX] at HPL ⊢
          clear hm h92 hs hc hd hX hdf hdg
          go_enter Try.func66, Try.ntmps66
          go_wp2_with fail
          refine HP.out.mono ?_; rintro e w1 ⟨rfl, hr, ha⟩; have HR := Lib.hid hr; have HA := Lib.hid ha; clear hr ha
          have HOV := Lib.hid (over_any HR.out (by omega) ht)
          rw [decide_eq_false hov] at HOV
          go_wp2_with fail
          refine HOV.out.mono ?_; rintro e w2 ⟨rfl, hd⟩; have HD := Lib.hid hd; clear hd
          have HR2 := Lib.hid (HR.out.drawn HD.out)
          have HDG := Lib.hid (digit_any HR2.out (by omega) ht)
          rw [hda] at HDG
          go_wp2_with fail
          refine HDG.out.mono ?_; rintro e w3 ⟨rfl, hd⟩; have HD3 := Lib.hid hd; clear hd
          have HA3 := Lib.hid ((HA.out.trans (HD.out.aside _)).trans (HD3.out.aside _))
          have HNM := Lib.hid (HPL.out w3 (HR2.out.drawn HD3.out))
          clear HPL hda hov
          cases X with
          | ok d q =>
            go_wp2_with fail
            refine HNM.out.mono ?_; rintro e w4 ⟨rfl, hr, ha⟩; have HR4 := Lib.hid hr; have HA4 := Lib.hid ha; clear hr ha
            go_wp2_with fail
            go_ret
            exact ⟨rfl, HR4.out, HA3.out.trans HA4.out⟩
          | bad e a =>
            go_wp2_with fail
            refine HNM.out.mono ?_; rintro e w4 ⟨rfl, ha⟩
            exact ⟨rfl, rfl, HA3.out.trans ha⟩
    · rw [letR_plain hc hs h92]
      have hne : c.toNat ≠ 92 := fun e => h92 (UInt8.toNat_inj.mp e)
      have hc8 : c.toNat < 256 := c.toNat_lt
      have e : LetPost w r t (.ok c (p + 1)) = Moved w r t (p + 1) (.int .u8 (c.toNat : Nat)) := rfl
      rw [e]
      obtain ⟨m, hm⟩ : ∃ m, c.toNat = m := ⟨_, rfl⟩
      rw [hm] at HP hne hc8 ⊢
      have t1 : ((m : Int) != 92) = true := by simp; omega
      clear hs hc h92 e hm hne
      go_enter Try.func66, Try.ntmps66
      go_wp2_with fail
      refine HP.out.mono ?_; rintro e w1 ⟨rfl, hr, ha⟩; have HR := Lib.hid hr; have HA := Lib.hid ha; clear hr ha
      go_wp2_with fail
      go_ret
      exact ⟨rfl, HR.out, HA.out⟩
  · have hs' : std c = false := by simpa using hs
    rw [letR_no hc hs']
    have HP := Lib.hid (plain_no H.out ht c hc hs')
    clear hs hs' hc
    go_enter Try.func66, Try.ntmps66
    go_wp2_with fail
    refine HP.out.mono ?_; rintro e w4 ⟨rfl, ha⟩
    exact ⟨rfl, rfl, ha⟩
end Go.Proofs.Ytibaeklpgfadpaa
