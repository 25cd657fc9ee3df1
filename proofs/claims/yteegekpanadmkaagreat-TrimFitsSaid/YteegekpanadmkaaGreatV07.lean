/-
  The document's own cutting: whether data are those of a type.
-/
import Derived.Test.YteegekpanadmkaaGreatV06
import Derived.Test.YteegekpanadmkaaGreatV04
import Derived.Test.YteegekpanadmkaaGreatV01
import Derived.Test.YteegekpanadmkaaGreatV02
import Derived.Outline
import Derived.Test.YteegekpanadmkaaGreatV05
import Derived.Deep.RegionHeld3
import Derived.Test.YteegekpanadmkaaGreatV00
namespace Go.Proofs.YteegekpanadmkaaGreat
open Go.RowKit Go.Shelf
set_option linter.unusedVariables false
set_option linter.unusedSimpArgs false
set_option maxRecDepth 100000

theorem rparts_no {t : Int} {s : List UInt8} (hs : s.length ≤ 1000000) (hc : cuts (kinds t) s = none) (w : World) : Calls Tryz.prog 95 #[.int .i64 t, .string (bs s)] w (Tells w (.tuple #[.slice none 0 0, .bool false])) := by
  refine (rparts_any t s hs w).mono ?_
  rintro e w' ⟨v, h1, h2⟩
  rw [show ctsA (kinds t) s [] = none by unfold ctsA; rw [hc]; rfl] at h1
  exact ⟨h1, h2⟩
theorem rparts_yes {t : Int} {s r : List UInt8} {L : List Pc} (hs : s.length ≤ 1000000) (hc : cuts (kinds t) s = some (L, r)) (w : World) : Calls Tryz.prog 95 #[.int .i64 t, .string (bs s)] w fun e w' => ∃ v, e = .returned (.tuple #[v, .bool (decide (r = []))]) ∧ OwnT w' w.heap.size v (L.map (·.1)) ∧ Below w.heap.size w w' := by
  refine (rparts_any t s hs w).mono ?_
  rintro e w' ⟨v, h1, h2⟩
  rw [show ctsA (kinds t) s [] = some (L.map (·.1), r) by unfold ctsA; rw [hc]; rfl] at h1
  exact ⟨v, h1.1, h1.2, h2⟩

set_option maxHeartbeats 4000000 in
theorem rcheckR_any (t : Int) (d : List UInt8) (hd : d.length ≤ 1000000) (w : World) : Calls Tryz.prog 92 #[.int .i64 t, .string (bs d)] w (Tells w (.int .i64 (spl t d).code)) := by
  have hsz : (bs d).size = d.length := bs_size d
  rw [spl_cuts]
  by_cases ht : t < 0
  · rw [if_pos (.inl ht)]
    show Calls _ _ _ _ (Tells w (.int .i64 5))
    have t1 : decide (t < 0) = true := by simpa using ht
    go_enter Tryz.func92, Tryz.ntmps92
    go_wp2_with fail
    go_ret
    exact ⟨rfl, Below.refl _ _⟩
  · have t1 : decide (t < 0) = false := by simpa using ht
    by_cases ht2 : 65535 < t
    · rw [if_pos (.inr ht2)]
      show Calls _ _ _ _ (Tells w (.int .i64 5))
      go_enter Tryz.func92, Tryz.ntmps92
      go_wp2_with fail
      go_ret
      exact ⟨rfl, Below.refl _ _⟩
    · rw [if_neg (by omega)]
      by_cases hl : 65535 < d.length
      · rw [if_pos hl]
        show Calls _ _ _ _ (Tells w (.int .i64 3))
        go_enter Tryz.func92, Tryz.ntmps92
        go_wp2_with fail
        go_ret
        exact ⟨rfl, Below.refl _ _⟩
      · rw [if_neg hl]
        rcases hc : cuts (kinds t) d with _ | ⟨L, r⟩
        · show Calls _ _ _ _ (Tells w (.int .i64 4))
          have HP := Lib.hid (fun wx => rparts_no hd hc wx)
          clear hc
          go_enter Tryz.func92, Tryz.ntmps92
          go_wp2_with fail
          refine (HP.out _).mono ?_; rintro e w1 ⟨rfl, hb⟩
          have HB := Lib.hid hb
          clear hb
          go_wp2_with fail
          go_ret
          exact ⟨rfl, HB.out⟩
        · have HP := Lib.hid (fun wx => rparts_yes hd hc wx)
          simp only
          by_cases hr : r = []
          · rw [if_pos hr]
            show Calls _ _ _ _ (Tells w (.int .i64 0))
            rw [decide_eq_true hr] at HP
            clear hc hr
            go_enter Tryz.func92, Tryz.ntmps92
            go_wp2_with fail
            refine (HP.out _).mono ?_; rintro e w1 ⟨v, rfl, _, hb⟩
            have HB := Lib.hid hb
            clear hb
            go_wp2_with fail
            go_ret
            exact ⟨rfl, HB.out⟩
          · rw [if_neg hr]
            show Calls _ _ _ _ (Tells w (.int .i64 4))
            rw [decide_eq_false hr] at HP
            clear hc hr
            go_enter Tryz.func92, Tryz.ntmps92
            go_wp2_with fail
            refine (HP.out _).mono ?_; rintro e w1 ⟨v, rfl, _, hb⟩
            have HB := Lib.hid hb
            clear hb
            go_wp2_with fail
            go_ret
            exact ⟨rfl, HB.out⟩

end Go.Proofs.YteegekpanadmkaaGreat

/-
  The document's own cutting: lower form.
-/
namespace Go.Proofs.YteegekpanadmkaaGreat
open Go.RowKit Go.Shelf
set_option linter.unusedVariables false
set_option linter.unusedSimpArgs false
set_option maxRecDepth 100000

theorem fits_code {ks : List PK} {L : List Pc} (h : Fits ks L) : ∀ j (h1 : j < ks.length) (h2 : j < L.length), (codeK ks[j] == -1) = L[j].2 := by
  induction h with
  | nil => intro j h1; simp at h1
  | @fix n x ks L h h2 ih =>
    intro j h1 h3
    cases j with
    | zero => show ((n : Int) == -1) = false; first | (simp; done) | (simp; omega)
    | succ j => exact ih j (by simpa using h1) (by simpa using h3)
  | nam h h2 ih =>
    intro j h1 h3
    cases j with
    | zero => rfl
    | succ j => exact ih j (by simpa using h1) (by simpa using h3)
  | txt h =>
    intro j h1 h3
    obtain rfl : j = 0 := by simpa using h1
    rfl
  | rst =>
    intro j h1 h3
    obtain rfl : j = 0 := by simpa using h1
    rfl

end Go.Proofs.YteegekpanadmkaaGreat

/-
  The document's own: whether a record may be, which are the same.
-/
namespace Go.Proofs.YteegekpanadmkaaGreat
open Go.RowKit Go.Shelf
set_option linter.unusedVariables false
set_option linter.unusedSimpArgs false
set_option maxRecDepth 100000

theorem short_yes (n : Int) (h : 0 ≤ n ∧ n ≤ 65535) (w : World) : Calls Tryz.prog 91 #[.int .i64 n] w fun e w' => e = .returned (.bool true) ∧ w = w' := by
  obtain ⟨h1, h2⟩ := h
  go_enter Tryz.func91, Tryz.ntmps91
  go_wp2
  go_ret
  exact ⟨rfl, rfl⟩

theorem short_no (n : Int) (h : n < 0 ∨ 65535 < n) (w : World) : Calls Tryz.prog 91 #[.int .i64 n] w fun e w' => e = .returned (.bool false) ∧ w = w' := by
  by_cases h0 : n < 0
  · have t1 : decide (0 ≤ n) = false := by simpa using h0
    go_enter Tryz.func91, Tryz.ntmps91
    go_wp2
    go_ret
    exact ⟨rfl, rfl⟩
  · have t1 : decide (0 ≤ n) = true := by simpa using h0
    have t2 : decide (n ≤ 65535) = false := by simp; omega
    go_enter Tryz.func91, Tryz.ntmps91
    go_wp2
    go_ret
    exact ⟨rfl, rfl⟩

set_option maxHeartbeats 4000000 in
theorem rcheck07_any (n : List UInt8) (t c l : Int) (d : List UInt8) (hn : n.length ≤ 1000000) (hd : d.length ≤ 1000000) (w : World) :
    Calls Tryz.prog 80 #[.agg #[.string (bs n), .int .i64 t, .int .i64 c, .int .i64 l, .string (bs d)]] w (Tells w (.int .i64 (chkC ⟨n, t, c, l, d⟩))) := by
  have HA := Lib.hid (fun wx => rcheck_any n hn wx)
  have HR := Lib.hid (fun wx => rcheckR_any t d hd wx)
  have HB := Lib.hid ((Below.refl w.heap.size w).alloc (Nat.le_refl _) (.cells #[.string (bs n), .int .i64 t, .int .i64 c, .int .i64 l, .string (bs d)] 52))
  have HX := Lib.hid (cel_new w (.string (bs n)) (.int .i64 t) (.int .i64 c) (.int .i64 l) (.string (bs d)) 52)
  obtain ⟨E, hE⟩ : ∃ E, chk n = E := ⟨_, rfl⟩
  obtain ⟨C, hC⟩ : ∃ C, (spl t d).code = C := ⟨_, rfl⟩
  have e0 : chkC ⟨n, t, c, l, d⟩ = if E ≠ 0 then E else if t < 0 ∨ 65535 < t ∨ c < 0 ∨ 65535 < c then 5 else if l < 0 ∨ 2147483647 < l then 5 else C := by
    unfold chkC askE
    simp only [hE, hC]
    by_cases h1 : E ≠ 0
    · simp only [if_pos h1]
    · simp only [if_neg h1]
      by_cases h2 : t < 0 ∨ 65535 < t ∨ c < 0 ∨ 65535 < c
      · simp only [if_pos h2]; simp
      · simp only [if_neg h2]; simp
  rw [e0]
  rw [hE] at HA
  rw [hC] at HR
  clear e0 hE hC
  by_cases h0 : E = 0
  · subst h0
    rw [if_neg (by simp)]
    by_cases ht : 0 ≤ t ∧ t ≤ 65535
    · have HT := Lib.hid (fun wx => short_yes t ht wx)
      by_cases hc : 0 ≤ c ∧ c ≤ 65535
      · have HC := Lib.hid (fun wx => short_yes c hc wx)
        rw [if_neg (by omega)]
        by_cases hl : l < 0
        · rw [if_pos (.inl hl)]
          have tl : decide (l < 0) = true := by simpa using hl
          clear ht hc hl
          go_enter Tryz.func80, Tryz.ntmps80
          go_wp2_with fail
          refine (HA.out _).mono ?_; rintro e w1 ⟨rfl, hb⟩
          replace HB := Lib.hid (bel_call HB.out hb)
          replace HX := Lib.hid (HX.out.below (by simp) hb)
          obtain ⟨c0, c1, c2, c3, c4⟩ := HX.out.five
          clear hb
          go_wp2_with fail
          refine (HT.out _).mono ?_; rintro e w2 ⟨rfl, rfl⟩
          go_wp2_with fail
          refine (HC.out _).mono ?_; rintro e w3 ⟨rfl, rfl⟩
          go_wp2_with fail
          go_ret
          exact ⟨rfl, HB.out⟩
        · have tl : decide (l < 0) = false := by simpa using hl
          by_cases hl2 : 2147483647 < l
          · rw [if_pos (.inr hl2)]
            have tl2 : decide ((2147483648 : Int) ≤ l) = true := by simp; omega
            clear ht hc hl hl2
            go_enter Tryz.func80, Tryz.ntmps80
            go_wp2_with fail
            refine (HA.out _).mono ?_; rintro e w1 ⟨rfl, hb⟩
            replace HB := Lib.hid (bel_call HB.out hb)
            replace HX := Lib.hid (HX.out.below (by simp) hb)
            obtain ⟨c0, c1, c2, c3, c4⟩ := HX.out.five
            clear hb
            go_wp2_with fail
            refine (HT.out _).mono ?_; rintro e w2 ⟨rfl, rfl⟩
            go_wp2_with fail
            refine (HC.out _).mono ?_; rintro e w3 ⟨rfl, rfl⟩
            go_wp2_with fail
            go_ret
            exact ⟨rfl, HB.out⟩
          · rw [if_neg (by omega)]
            have tl2 : decide ((2147483648 : Int) ≤ l) = false := by simp; omega
            clear ht hc hl hl2
            go_enter Tryz.func80, Tryz.ntmps80
            go_wp2_with fail
            refine (HA.out _).mono ?_; rintro e w1 ⟨rfl, hb⟩
            replace HB := Lib.hid (bel_call HB.out hb)
            replace HX := Lib.hid (HX.out.below (by simp) hb)
            obtain ⟨c0, c1, c2, c3, c4⟩ := HX.out.five
            clear hb
            go_wp2_with fail
            refine (HT.out _).mono ?_; rintro e w2 ⟨rfl, rfl⟩
            go_wp2_with fail
            refine (HC.out _).mono ?_; rintro e w3 ⟨rfl, rfl⟩
            go_wp2_with fail
            refine (HR.out _).mono ?_; rintro e w5 ⟨rfl, hb⟩
            replace HB := Lib.hid (bel_call HB.out hb)
            clear hb
            go_wp2_with fail
            go_ret
            exact ⟨rfl, HB.out⟩
      · have HC := Lib.hid (fun wx => short_no c (by omega) wx)
        rw [if_pos (by omega)]
        clear ht hc
        go_enter Tryz.func80, Tryz.ntmps80
        go_wp2_with fail
        refine (HA.out _).mono ?_; rintro e w1 ⟨rfl, hb⟩
        replace HB := Lib.hid (bel_call HB.out hb)
        replace HX := Lib.hid (HX.out.below (by simp) hb)
        obtain ⟨c0, c1, c2, c3, c4⟩ := HX.out.five
        clear hb
        go_wp2_with fail
        refine (HT.out _).mono ?_; rintro e w2 ⟨rfl, rfl⟩
        go_wp2_with fail
        refine (HC.out _).mono ?_; rintro e w3 ⟨rfl, rfl⟩
        go_wp2_with fail
        go_ret
        exact ⟨rfl, HB.out⟩
    · have HT := Lib.hid (fun wx => short_no t (by omega) wx)
      rw [if_pos (by omega)]
      clear ht
      go_enter Tryz.func80, Tryz.ntmps80
      go_wp2_with fail
      refine (HA.out _).mono ?_; rintro e w1 ⟨rfl, hb⟩
      replace HB := Lib.hid (bel_call HB.out hb)
      replace HX := Lib.hid (HX.out.below (by simp) hb)
      obtain ⟨c0, c1, c2, c3, c4⟩ := HX.out.five
      clear hb
      go_wp2_with fail
      refine (HT.out _).mono ?_; rintro e w2 ⟨rfl, rfl⟩
      go_wp2_with fail
      go_ret
      exact ⟨rfl, HB.out⟩
  · rw [if_pos h0]
    have tE : (E != 0) = true := by simpa using h0
    clear h0
    go_enter Tryz.func80, Tryz.ntmps80
    go_wp2_with fail
    refine (HA.out _).mono ?_; rintro e w1 ⟨rfl, hb⟩
    replace HB := Lib.hid (bel_call HB.out hb)
    replace HX := Lib.hid (HX.out.below (by simp) hb)
    obtain ⟨c0, c1, c2, c3, c4⟩ := HX.out.five
    clear hb
    go_wp2_with fail
    go_ret
    exact ⟨rfl, HB.out⟩

end Go.Proofs.YteegekpanadmkaaGreat

/-
  The document's Name.
-/
namespace Go.Proofs.YteegekpanadmkaaGreat
open Go.RowKit Go.Shelf
set_option linter.unusedVariables false
set_option maxRecDepth 100000

theorem OwnU.sl {w : World} {B : Nat} {v : Value} {l : List UInt8} (h : OwnU w B v l) : Sl w B w.heap.size v (iz l) := by
  have hlt := fun k hk => World.ownsRowF.lt h k hk
  obtain ⟨a, c, hv, hx⟩ := h.shape
  rcases h.2 with ⟨rfl, h0⟩ | ⟨g, cap, cur, fz, rfl, hg, hh, hfz, hcap, _⟩
  · have e : l = [] := List.eq_nil_of_length_eq_zero h0
    subst e
    exact ⟨none, 0, rfl, by simp [iz], fun _ => rfl, fun h => by simp [iz] at h⟩
  · refine ⟨some ⟨g, 0, none⟩, cap, by rw [iz_len], by rw [iz_len]; exact hcap, fun h => by simp at h, fun h0 => ⟨g, 0, rfl, hg, (hlt g rfl).2, fun j hj => ?_⟩⟩
    rw [iz_len] at hj
    obtain ⟨g', he, _, hc⟩ := hx (by omega)
    injection hv with hv
    rw [← hv] at he
    injection he with he
    injection he with he
    subst he
    rw [Nat.zero_add, hc j hj, iz_get l j hj, List.getD, List.getElem?_eq_getElem hj]
    rfl

theorem chk_nm2 {ls : List (List UInt8)} (h : Shorts ls) : chk (nm ls) = 0 := shorts_chk h

def RNamePost (w : World) (B q : Nat) (v : Value) (K : List (List UInt8 × Nat)) (e : Nat) (a : Int) (n : List UInt8) (x : Ending) (w' : World) : Prop :=
  ∃ v1 v2, x = .returned (.tuple #[v1, .int .i64 (pkE e a n)]) ∧ Sl w' w.heap.size w'.heap.size v1 (iz (nameB K e a n)) ∧ Rk w' B q v2 (nameK K e a n) (nameE K e a n) ∧ Aside (fun b => b = q ∨ v.ownBlock = some b) w w'

theorem rname_bad {w wx : World} {B q e : Nat} {v : Value} {K : List (List UInt8 × Nat)} {a : Int} {n : List UInt8} {c : Int} (h : Rk w B q v K e) (hb : Below w.heap.size w wx) (hc : pkE e a n = c) (h0 : c ≠ 0) :
    RNamePost w B q v K e a n (.returned (.tuple #[.slice none 0 0, .int .i64 c])) wx := by
  have h1 : ¬ pkE e a n = 0 := by rw [hc]; exact h0
  unfold RNamePost nameB nameK nameE
  rw [if_neg h1, if_neg h1, if_neg h1, hc]
  exact ⟨_, v, rfl, ⟨none, 0, rfl, by simp [iz], fun _ => rfl, fun h => by simp [iz] at h⟩, h.later hb, Aside.of_all hb⟩

set_option maxRecDepth 100000 in
set_option maxHeartbeats 2000000 in
theorem rname_no {w : World} {B q e : Nat} {v : Value} {K : List (List UInt8 × Nat)} (h : Rk w B q v K e) (a : Int) (n : List UInt8) (hn : n.length ≤ 1000) (h0 : pkE e a n ≠ 0) :
    Calls Tryz.prog 82 #[.pointer (some ⟨q, 0, none⟩), .int .i64 a, .string (bs n)] w (RNamePost w B q v K e a n) := by
  have HC := Lib.hid (rcheck_any n (by omega) w)
  have HP := Lib.hid h
  have BAD := Lib.hid (fun wx hb c hc h0 => rname_bad (wx := wx) h hb (a := a) (n := n) (c := c) hc h0)
  by_cases hc : chk n = 0
  · rw [hc] at HC
    by_cases hr : a < 0 ∨ 65535 < a
    · have HE := Lib.hid (show pkE e a n = 2 by unfold pkE; rw [if_neg (fun h => h hc), if_pos hr])
      have hor : decide (a < 0) = true ∨ (decide (a < 0) = false ∧ decide ((65535 : Int) < a) = true) := by
        by_cases h : a < 0
        · exact .inl (by simpa using h)
        · exact .inr ⟨by simpa using h, by simpa using hr.resolve_left h⟩
      clear hr hc h h0
      rcases hor with t1 | ⟨t1, t2⟩
      all_goals
        go_enter Tryz.func82, Tryz.ntmps82
        go_wp2_with fail
        refine HC.out.mono ?_; rintro e0 w1 ⟨rfl, hb⟩
        have HB := Lib.hid hb
        clear hb
        go_wp2_with fail
        go_ret2
        exact BAD.out _ HB.out 2 HE.out (by decide)
    · by_cases hst : a < e
      · have HE := Lib.hid (show pkE e a n = 9 by unfold pkE; rw [if_neg (fun h => h hc), if_neg hr, if_pos hst])
        have t1 : decide (a < 0) = false := by simp; omega
        have t2 : decide ((65535 : Int) < a) = false := by simp; omega
        have t3 : decide (a < (e : Int)) = true := by simpa using hst
        clear hr hc h hst h0
        go_enter Tryz.func82, Tryz.ntmps82
        go_wp2_with fail
        refine HC.out.mono ?_; rintro e0 w1 ⟨rfl, hb⟩
        have HB := Lib.hid hb
        have c2 := (HP.out.later hb).fin
        clear hb
        go_wp2_with fail
        go_ret2
        exact BAD.out _ HB.out 9 HE.out (by decide)
      · exact absurd (by unfold pkE; rw [if_neg (fun h => h hc), if_neg hr, if_neg hst]) h0
  · have hE : pkE e a n = chk n := by unfold pkE; rw [if_pos hc]
    obtain ⟨c, hcn⟩ : ∃ c, chk n = c := ⟨_, rfl⟩
    rw [hcn] at HC hE hc
    have HE := Lib.hid hE
    have tc : (c != 0) = true := by simpa using hc
    clear hE hcn h h0
    go_enter Tryz.func82, Tryz.ntmps82
    go_wp2_with fail
    refine HC.out.mono ?_; rintro e0 w1 ⟨rfl, hb⟩
    have HB := Lib.hid hb
    clear hb
    go_wp2_with fail
    go_ret2
    exact BAD.out _ HB.out c HE.out hc

theorem OwnU.but {w w' : World} {B : Nat} {v : Value} {l : List UInt8} {G : Nat → Prop} (h : OwnU w B v l) (ha : Aside G w w') (hG : ∀ b, v.ownBlock = some b → ¬ G b) : OwnU w' B v l := by
  have hlt := fun k hk => World.ownsRowF.lt h k hk
  refine ⟨h.1, ?_⟩
  rcases h.2 with h2 | ⟨g, cap, cur, fz, hv, hg, hh, r⟩
  · exact .inl h2
  · exact .inr ⟨g, cap, cur, fz, hv, hg, (ha.block g (by subst hv; exact (hlt g rfl).2) (hG g (by rw [hv]; rfl))).trans hh, r⟩

theorem apart_UK {w : World} {B B' : Nat} {v v' : Value} {l : List UInt8} {K : List (List UInt8 × Nat)} (h : OwnU w B v l) (h' : OwnK w B' v' K) (b : Nat) (h1 : v.ownBlock = some b) (h2 : v'.ownBlock = some b) : False := by
  rcases h.2 with ⟨rfl, _⟩ | ⟨g, cap, cur, fz, rfl, _, hg, _⟩
  · simp [Value.ownBlock] at h1
  · rcases h'.2 with ⟨rfl, _⟩ | ⟨g', cap', cur', rfl, _, hg', _⟩
    · simp [Value.ownBlock] at h2
    · simp [Value.ownBlock] at h1 h2
      subst h1; subst h2
      rw [hg] at hg'
      injection hg' with hg'
      injection hg' with _ h3 _
      exact absurd h3 (by decide)

theorem fresh_step {w wr : World} {v9 v10 : Value} {P : List UInt8} {F : List (List UInt8 × Nat)} (HU : OwnU wr w.heap.size v9 P) (HF : OwnK wr w.heap.size v10 F) (HB : Below w.heap.size w wr) (T : List UInt8) (x : Nat) (hF : F.length + 1 ≤ 1000000) :
    ∃ a1 c1 W, (Builtin.append_ #[108, 108] 108 #[v10, .slice (some ⟨wr.heap.size, 0, none⟩) 1 1]).run Tryz.prog (wr.alloc (.cells #[.string (bs T), .int .i64 (x : Int)] 145)) = .ok (.slice a1 (F.length + 1) c1) W ∧
      OwnK W w.heap.size (.slice a1 (F.length + 1) c1) (F ++ [(T, x)]) ∧ OwnU W w.heap.size v9 P ∧ Below w.heap.size w W := by
  have hal : Below wr.heap.size wr (wr.alloc (.cells #[.string (bs T), .int .i64 (x : Int)] 145)) := (Below.refl _ _).alloc (Nat.le_refl _) _
  have hF1 := HF.below hal
  have hU1 := HU.below hal
  have hB1 := bel_call HB hal
  obtain ⟨a1, c1, W, h1, h2, h3⟩ := run_appK (K' := [(T, x)]) w.heap.size v10 F wr.heap.size 1 hF1 (fun j u hu => by
    match j, hu with
    | 0, hu => simp [kc] at hu; subst hu; simp [go_sem]
    | 1, hu => simp [kc] at hu; subst hu; simp [go_sem]
    | j + 2, hu => simp [kc] at hu) hF hB1.size
  exact ⟨a1, c1, W, h1, h2, hU1.but h3 fun b hb hg => apart_UK hU1 hF1 b hb hg, below_aside hB1 h3 fun b hb => ⟨Nat.lt_of_lt_of_le hb hB1.size, fun hg => by have := (hF1.lt b hg).1; omega⟩⟩

theorem out_keep {w wr W : World} {v9 v10 : Value} {P : List UInt8} {F : List (List UInt8 × Nat)} (HU : OwnU wr w.heap.size v9 P) (HF : OwnK wr w.heap.size v10 F) (HB : Below w.heap.size w wr) (hg : wr.grownBy W v9.ownBlock) : OwnK W w.heap.size v10 F ∧ Below w.heap.size w W := by
  have ha := Aside.grown (G := fun b => v9.ownBlock = some b) hg fun _ h => h
  exact ⟨HF.aside ha fun b hb hg => apart_UK HU HF b hg hb, below_aside HB ha fun b hb => ⟨Nat.lt_of_lt_of_le hb HB.size, fun hg => by have := HU.row b hg; omega⟩⟩

theorem out_step {w wr : World} {v9 v10 : Value} {P : List UInt8} {F : List (List UInt8 × Nat)} (HU : OwnU wr w.heap.size v9 P) (HF : OwnK wr w.heap.size v10 F) (HB : Below w.heap.size w wr) (l' : List UInt8) (hl : P.length + l'.length ≤ 1000000) :
    ∃ a1 c1 W, (Builtin.append_ #[28, 9] 28 #[v9, .string (bs l')]).run Tryz.prog wr = .ok (.slice a1 (P.length + l'.length) c1) W ∧
      OwnU W w.heap.size (.slice a1 (P.length + l'.length) c1) (P ++ l') ∧ OwnK W w.heap.size v10 F ∧ Below w.heap.size w W := by
  obtain ⟨a1, c1, W, h1, h2, h3⟩ := run_appS (w := wr) w.heap.size v9 P l' HU hl HB.size
  exact ⟨a1, c1, W, h1, h2, out_keep HU HF HB h3⟩

theorem out_lit {w wr : World} {v9 v10 : Value} {P : List UInt8} {F : List (List UInt8 × Nat)} (HU : OwnU wr w.heap.size v9 P) (HF : OwnK wr w.heap.size v10 F) (HB : Below w.heap.size w wr) (l' : List UInt8) (hl : P.length + l'.length ≤ 1000000) :
    ∃ a1 c1 W, (Builtin.append_ #[28, 28] 28 #[v9, .slice (some ⟨wr.heap.size, 0, none⟩) l'.length l'.length]).run Tryz.prog (wr.alloc (.cells ((iz l').map (Value.int .u8)).toArray 5)) = .ok (.slice a1 (P.length + l'.length) c1) W ∧
      OwnU W w.heap.size (.slice a1 (P.length + l'.length) c1) (P ++ l') ∧ OwnK W w.heap.size v10 F ∧ Below w.heap.size w W := by
  have hal : Below wr.heap.size wr (wr.alloc (.cells ((iz l').map (Value.int .u8)).toArray 5)) := (Below.refl _ _).alloc (Nat.le_refl _) _
  have hF1 := HF.below hal
  have hU1 := HU.below hal
  have hB1 := bel_call HB hal
  obtain ⟨a1, c1, W, h1, h2, h3⟩ := run_appU (w := wr.alloc (.cells ((iz l').map (Value.int .u8)).toArray 5)) w.heap.size v9 P l' wr.heap.size l'.length hU1 (fun j hj => by
    rw [World.cell?, heap_alloc_new]
    simp [iz, hj]) hl hB1.size
  exact ⟨a1, c1, W, h1, h2, out_keep hU1 hF1 hB1 h3⟩

theorem rname_fin {w W : World} {B q e : Nat} {v v9 v10 : Value} {K F : List (List UInt8 × Nat)} {P : List UInt8} {a : Nat} {n : List UInt8} (h : Rk w B q v K e) (HU : OwnU W w.heap.size v9 P) (HF : OwnK W w.heap.size v10 F) (HB : Below w.heap.size w W)
    (hE : pkE e a n = 0) (h1 : nameB K e a n = P) (h2 : nameK K e a n = K ++ F) (h3 : nameE K e a n = a + P.length) (hl : K.length + F.length ≤ 1000000) :
    ∃ a1 c1 W', (Builtin.append_ #[108, 108] 108 #[v, v10]).run Tryz.prog W = .ok (.slice a1 (K.length + F.length) c1) W' ∧
      W'.cell? ⟨q, 0, none⟩ = some v ∧ W'.cell? ⟨q, 1, none⟩ = some (.int .i64 e) ∧ (∀ j, W'.frozen? ⟨q, j, none⟩ = false) ∧
      RNamePost w B q v K e a n (.returned (.tuple #[v9, .int .i64 0])) ((W'.setCell ⟨q, 0, none⟩ (.slice a1 (K.length + F.length) c1)).setCell ⟨q, 1, none⟩ (.int .i64 ((a : Int) + P.length))) := by
  have hR := h.later HB
  have hq : q < w.heap.size := Nat.lt_of_lt_of_le h.lt h.size
  obtain ⟨a1, c1, W', g1, g2, g3⟩ := run_appKs B w.heap.size v v10 K F hR.own HF hl hR.size
  have hvq : ∀ b, v.ownBlock = some b → ¬ b = q := fun b hb e => by have := (h.own.lt b hb).1; have := h.lt; omega
  have hlt : q < W.heap.size := Nat.lt_of_lt_of_le hq HB.size
  have c0 := g3.cell_lt hR.row fun hg => hvq q hg rfl
  have c1' := g3.cell_lt hR.fin fun hg => hvq q hg rfl
  have f0 : ∀ j, W'.frozen? ⟨q, j, none⟩ = false := fun j => (g3.frozen (p := ⟨q, j, none⟩) hlt fun hg => hvq q hg rfl).trans (hR.free j)
  refine ⟨a1, c1, W', g1, c0, c1', f0, ?_⟩
  have hs1 : Aside (fun b => b = q) W' (W'.setCell ⟨q, 0, none⟩ (.slice a1 (K.length + F.length) c1)) := Aside.setCell _ _ rfl
  have hs2 : Aside (fun b => b = q) (W'.setCell ⟨q, 0, none⟩ (.slice a1 (K.length + F.length) c1)) ((W'.setCell ⟨q, 0, none⟩ (.slice a1 (K.length + F.length) c1)).setCell ⟨q, 1, none⟩ (.int .i64 ((a : Int) + P.length))) := Aside.setCell _ _ rfl
  have hs := hs1.trans hs2
  have hU2 := (HU.but g3 fun b hb hg => apart_UK HU hR.own b hb hg)
  have hU3 := hU2.but hs fun b hb e => by have := hU2.row b hb; omega
  have hK3 := g2.aside hs fun b hb e => by have := (g2.lt b hb).1; have := h.lt; omega
  refine ⟨v9, .slice a1 (K.length + F.length) c1, by rw [hE], by rw [h1]; exact hU3.sl, ?_, ?_⟩
  · rw [h2, h3]
    have k1 : (W'.setCell ⟨q, 0, none⟩ (.slice a1 (K.length + F.length) c1)).cell? ⟨q, 1, none⟩ = some (.int .i64 e) := by rw [World.cell?_setCell_other _ _ _ _ (by simp)]; exact c1'
    have k0 := World.cell?_setCell_same W' ⟨q, 0, none⟩ (.slice a1 (K.length + F.length) c1) c0
    exact ⟨by rw [World.cell?_setCell_other _ _ _ _ (by simp)]; exact k0, by rw [World.cell?_setCell_same _ _ _ k1]; push_cast; rfl, fun j => by rw [World.frozen?_setCell, World.frozen?_setCell]; exact f0 j, hK3, h.lt, Nat.le_trans hR.size (Nat.le_trans g3.size hs.size)⟩
  · have hA : Aside (fun b => b = q ∨ v.ownBlock = some b) w W := Aside.of_all HB
    exact (hA.trans (g3.mono fun _ _ hb => .inr hb)).trans (hs.mono fun _ _ hb => .inl hb)

theorem name_at2 {K : List (List UInt8 × Nat)} {e q : Nat} {ls : List (List UInt8)} (hs : Shorts ls) (h1 : e ≤ q) (h2 : q ≤ 65535) :
    pkE e q (nm ls) = 0 ∧ nameB K e q (nm ls) = told K ls ∧ nameK K e q (nm ls) = K ++ fr q ls (hdn K ls) ∧ nameE K e q (nm ls) = q + (told K ls).length := by
  have hE : pkE e q (nm ls) = 0 := by unfold pkE; rw [if_neg (fun h => h (chk_nm2 hs)), if_neg (by omega), if_neg (by omega)]
  unfold nameB nameK nameE
  rw [if_pos hE, if_pos hE, if_pos hE, show labs (nm ls) = ls from shorts_labs hs]
  exact ⟨hE, rfl, rfl, rfl⟩

set_option maxRecDepth 100000 in
set_option maxHeartbeats 4000000 in
theorem rname_core {w : World} {B q e : Nat} {v : Value} {K : List (List UInt8 × Nat)} (h : Rk w B q v K e) (hG : GoodK K) (hK : K.length ≤ 900000) (a : Nat) (ha : a ≤ 65535) (hea : e ≤ a) {ls : List (List UInt8)} (hs : Shorts ls) :
    Calls Tryz.prog 82 #[.pointer (some ⟨q, 0, none⟩), .int .i64 a, .string (bs (nm ls))] w (RNamePost w B q v K e a (nm ls)) := by
  have hnl : (nm ls).length ≤ 255 := by rw [nm_len]; have := hs.2; omega
  have HC := Lib.hid (rcheck_any (nm ls) (by omega) w)
  rw [chk_nm2 hs] at HC
  have HP := Lib.hid h
  have HS := Lib.hid hs
  have HPl := Lib.hid (fun wx (hp : Rk wx B q v K e) t => place_any hp (by omega) t)
  have t1 : decide ((a : Int) < 0) = false := by simp
  have t2 : ¬ 65535 < a := by omega
  have t3 : ¬ a < e := by omega
  clear h
  go_enter Tryz.func82, Tryz.ntmps82
  go_wp2_with fail
  refine HC.out.mono ?_; rintro e0 w1 ⟨rfl, hb⟩
  have HP1 := Lib.hid (HP.out.later hb)
  have HB1 := Lib.hid hb
  have c2 := HP1.out.fin
  clear hb HC
  go_wp2_with fail
  go_loopg [9, 10, 11] ls.length (fun g v9 v10 v11 wr => ∃ (k z : Nat) (P : List UInt8) (F : List (List UInt8 × Nat)), k + g = ls.length ∧ v11 = .int .i64 z ∧ z ≤ 254 ∧ P.length = z ∧ F.length ≤ k ∧ Hid (wire (ls.take k) = P ∧ fr a ls k = F ∧ pos ls k = z ∧ hdn K ls = k + hdn K (ls.drop k)) ∧ Hid (OwnU wr w.heap.size v9 P) ∧ Hid (OwnK wr w.heap.size v10 F) ∧ Hid (Below w.heap.size w wr))
  case atStart => exact ⟨0, 0, [], [], by omega, rfl, by omega, rfl, by simp, ⟨by simp [wire], fr_zero _ _, pos_zero _, by simp⟩, OwnU.nil _ _, OwnK.nil _ _, HB1⟩
  case round =>
    obtain ⟨k, z, P, F, hk, rfl, hz254, hPz, hFk, HH, HU, HF, HB⟩ := hrel
    clear HP1 HB1 c2
    have HR := Lib.hid (HP.out.later HB.out)
    obtain ⟨au, cu, rfl, _⟩ := HU.out.shape
    obtain ⟨af, cf, rfl⟩ := HF.out.shape
    rw [hPz]
    have hls := HS.out
    obtain ⟨hw, hfr0, hpz, hdd⟩ := HH.out
    by_cases hlt : k < ls.length
    · obtain ⟨hp, hat⟩ := nm_at hlt hls.1
      have hix := ix_run (nm ls) (pos ls k) hp
      have hfr := from_run (nm ls) (pos ls k) (by omega)
      rw [hat] at hix
      rw [nm_drop] at hfr
      have hc63 := hls.1 ls[k] (List.getElem_mem hlt)
      have hps := pos_succ hlt
      have hple := pos_le ls (k + 1)
      rw [nm_len] at hnl hp
      obtain ⟨hst1, hst2⟩ := hdn_step K ls k hlt hdd
      have hcut := cut_run (nm ls) (pos ls k) (pos ls k + 1 + ls[k].length) (by omega) (by rw [nm_len]; omega)
      have hpiece : ((nm ls).drop (pos ls k)).take (pos ls k + 1 + ls[k].length - pos ls k) = wire [ls[k]] := by
        rw [nm_drop, List.drop_eq_getElem_cons hlt, show pos ls k + 1 + ls[k].length - pos ls k = ls[k].length + 1 by omega]
        unfold nm
        simp [wire]
      have hsn : wire (ls.take (k + 1)) = P ++ wire [ls[k]] := by rw [List.take_add_one, List.getElem?_eq_getElem hlt, Option.toList_some, wire_app, hw]
      have hwl : (wire [ls[k]]).length = ls[k].length + 1 := by simp [wire]
      have hfs := fr_succ ls a k hlt
      rw [hpiece] at hcut
      have hq := HPl.out wr HR.out (nm (ls.drop k))
      obtain ⟨c, hc⟩ : ∃ c, ls[k].length = c := ⟨_, rfl⟩
      obtain ⟨T, hT⟩ : ∃ T, nm (ls.drop k) = T := ⟨_, rfl⟩
      obtain ⟨W1, hW1⟩ : ∃ W1, wire [ls[k]] = W1 := ⟨_, rfl⟩
      rw [hW1] at hcut hsn hwl
      rw [hc] at hix hc63 hps hcut hwl
      rw [hpz] at hix hfr hps hp hcut hfs
      rw [hT] at hfr hst1 hst2 hq hfs
      rw [hfr0] at hfs
      push_cast at hcut
      have tc : ((c : Int) != 0) = true := by simp; omega
      rcases hpl : plc K T with _ | x
      · have HH2 := Lib.hid (hst2 hpl)
        rw [hpl] at hq
        simp only at hq
        have HQ := Lib.hid hq
        have HX := Lib.hid (show z + 1 + c = pos ls (k + 1) by omega)
        have hz2 : z + 1 + c ≤ 254 := by omega
        have HW := Lib.hid hsn
        have HFS := Lib.hid hfs
        have hwl2 := hwl
        clear hst1 hst2 hpl hT hps hple hq hsn hfs hW1 hw hfr0 hpz hdd hpiece hc hls hat HPl
        have hFl : F.length ≤ 254 := by have := len_wire ls; omega
        by_cases h16 : a + z < 16384
        · have t4 : a + z < 16384 := h16
          obtain ⟨af1, cf1, Wa, hr1, hK1, hU1, hB1⟩ := fresh_step HU.out HF.out HB.out T (a + z) (by omega)
          obtain ⟨ao, co, Wb, hr2, hU2, hK2, hB2⟩ := out_step hU1 hK1 hB1 W1 (by omega)
          push_cast at hr1
          rw [hPz, hwl] at hr2 hU2
          have HR1 := Lib.hid hr1
          have HR2 := Lib.hid hr2
          have HU2 := Lib.hid hU2
          have HK2 := Lib.hid hK2
          have HB2 := Lib.hid hB2
          clear hr1 hK1 hU1 hB1 hr2 hU2 hK2 hB2
          rw [if_pos h16] at HFS
          go_wp2_with fail
          refine HQ.out.mono ?_; rintro e0 w2 ⟨rfl, rfl⟩
          go_wp2_with (first | (at_builtin; refine wpList_append_run (.tmp 56) (.tmp 64) 108 108 rfl rfl rfl rfl HR1.out ?_) | (at_builtin; refine wpList_append_run (.tmp 70) (.tmp 77) 28 9 rfl rfl rfl rfl HR2.out ?_))
          go_roundg (ls.length - (k + 1))
          case measure => omega
          case rel => exact ⟨k + 1, z + 1 + c, P ++ W1, F ++ [(T, a + z)], by omega, by go_num, hz2, by rw [List.length_append]; omega, by rw [List.length_append]; simp; omega, ⟨HW.out, HFS.out, HX.out.symm, HH2.out⟩, HU2, HK2, HB2⟩
        · have t4 : ¬ a + z < 16384 := h16
          obtain ⟨ao, co, Wb, hr2, hU2, hK2, hB2⟩ := out_step HU.out HF.out HB.out W1 (by omega)
          rw [hPz, hwl] at hr2 hU2
          have HR2 := Lib.hid hr2
          have HU2 := Lib.hid hU2
          have HK2 := Lib.hid hK2
          have HB2 := Lib.hid hB2
          clear hr2 hU2 hK2 hB2
          rw [if_neg h16, List.append_nil] at HFS
          go_wp2_with fail
          refine HQ.out.mono ?_; rintro e0 w2 ⟨rfl, rfl⟩
          go_wp2_with (at_builtin; refine wpList_append_run (.tmp 70) (.tmp 77) 28 9 rfl rfl rfl rfl HR2.out ?_)
          go_roundg (ls.length - (k + 1))
          case measure => omega
          case rel => exact ⟨k + 1, z + 1 + c, P ++ W1, F, by omega, by go_num, hz2, by rw [List.length_append]; omega, by omega, ⟨HW.out, HFS.out, HX.out.symm, HH2.out⟩, HU2, HK2, HB2⟩
      · have hst := hst1 x hpl
        have hx := good_lt hG hpl
        rw [hpl] at hq
        simp only at hq
        have HQ := Lib.hid hq
        have htl : told K ls = P ++ pb x := by unfold told restb; rw [hst, hw, hT, hpl]
        have hFl : F.length ≤ 254 := by have := len_wire ls; omega
        obtain ⟨f1, f2, f3, f4⟩ := name_at2 (K := K) hs hea ha
        rw [htl] at f2 f4
        rw [hst, hfr0] at f3
        obtain ⟨ao, co, Wa, hr1, hU1, hK1, hB1⟩ := out_lit HU.out HF.out HB.out (pb x) (by simp [pb]; omega)
        obtain ⟨a2, c2, Wb, hr2, k0, k1, kf, hfin⟩ := rname_fin HP.out hU1 hK1 hB1 f1 f2 f3 f4 (by omega)
        have hlen : ((P ++ pb x).length : Int) = z + 2 := by rw [List.length_append, hPz]; simp [pb]
        rw [hPz] at hr1 hU1 hfin
        rw [hlen] at hfin
        have hpb : ((iz (pb x)).map (Value.int .u8)).toArray = #[.int .u8 (192 + (x : Int) / 256), .int .u8 ((x : Int) % 256)] := by
          have h1 : (192 + x / 256) % 256 = 192 + x / 256 := by omega
          unfold pb iz
          simp [h1]
        rw [hpb, show (pb x).length = 2 from rfl] at hr1
        clear hpb hlen
        have HR1 := Lib.hid hr1
        have HR2 := Lib.hid hr2
        have HFin := Lib.hid hfin
        have k9 := (HP.out.later hB1).row
        have tc2 : ((c : Int) == 0) = false := by simp; omega
        clear hst1 hst2 hpl hT hps hple hq hfs hW1 hw hfr0 hpz hdd hpiece hc hls hat HPl hcut hwl hst htl f1 f2 f3 f4 hr1 hr2 hfin hU1 hK1 hB1 hsn HH
        go_wp2_with fail
        refine HQ.out.mono ?_; rintro e0 w2 ⟨rfl, rfl⟩
        go_wp2_with (first | (at_builtin; refine wpList_append_run (.tmp 42) (.tmp 50) 28 28 rfl rfl rfl rfl HR1.out ?_) | (at_builtin; refine wpList_append_run (.tmp 94) (.tmp 95) 108 108 rfl rfl rfl rfl HR2.out ?_))
        go_ret2
        exact HFin.out
    · have hke : k = ls.length := by omega
      subst hke
      obtain ⟨hp, hat⟩ := nm_end ls
      have hix := ix_run (nm ls) (pos ls ls.length) hp
      rw [hat, hpz] at hix
      have hst : hdn K ls = ls.length := by rw [hdd, List.drop_length]; rfl
      have htl : told K ls = P ++ [0] := by
        have hr := good_root hG
        unfold told restb
        rw [hst, hw, List.drop_length, show nm [] = [0] from rfl, hr]
      have hFl : F.length ≤ 254 := by have := len_wire ls; rw [nm_len] at hnl; omega
      obtain ⟨f1, f2, f3, f4⟩ := name_at2 (K := K) hs hea ha
      rw [htl] at f2 f4
      rw [hst, hfr0] at f3
      obtain ⟨ao, co, Wa, hr1, hU1, hK1, hB1⟩ := out_lit HU.out HF.out HB.out [0] (by simp; omega)
      obtain ⟨a2, c2, Wb, hr2, k0, k1, kf, hfin⟩ := rname_fin HP.out hU1 hK1 hB1 f1 f2 f3 f4 (by omega)
      have hlen : ((P ++ [(0 : UInt8)]).length : Int) = z + 1 := by rw [List.length_append, hPz]; simp
      rw [hPz] at hr1 hU1 hfin
      rw [hlen] at hfin
      have hpb : ((iz [0]).map (Value.int .u8)).toArray = #[.int .u8 0] := by simp [iz]
      rw [hpb, show [(0 : UInt8)].length = 1 from rfl] at hr1
      have HR1 := Lib.hid hr1
      have HR2 := Lib.hid hr2
      have HFin := Lib.hid hfin
      have k9 := (HP.out.later hB1).row
      clear hpb hlen hst htl f1 f2 f3 f4 hr1 hr2 hfin hU1 hK1 hB1 HH hat hp hw hfr0 hpz hdd hls HPl
      go_wp2_with (first | (at_builtin; refine wpList_append_run (.tmp 87) (.tmp 88) 28 28 rfl rfl rfl rfl HR1.out ?_) | (at_builtin; refine wpList_append_run (.tmp 94) (.tmp 95) 108 108 rfl rfl rfl rfl HR2.out ?_))
      go_ret2
      exact HFin.out

theorem rname_any {w : World} {B q e : Nat} {v : Value} {K : List (List UInt8 × Nat)} (h : Rk w B q v K e) (hG : GoodK K) (hK : K.length ≤ 900000) (a : Int) (n : List UInt8) (hn : n.length ≤ 1000) :
    Calls Tryz.prog 82 #[.pointer (some ⟨q, 0, none⟩), .int .i64 a, .string (bs n)] w (RNamePost w B q v K e a n) := by
  by_cases h0 : pkE e a n = 0
  · have hc : chk n = 0 := by
      unfold pkE at h0
      split at h0
      · rename_i h1; exact absurd h0 h1
      · rename_i h1; simpa using h1
    have hr : 0 ≤ a ∧ a ≤ 65535 ∧ (e : Int) ≤ a := by
      unfold pkE at h0
      rw [if_neg (fun h => h hc)] at h0
      split at h0
      · exact absurd h0 (by decide)
      · split at h0
        · exact absurd h0 (by decide)
        · omega
    obtain ⟨p, rfl⟩ : ∃ p : Nat, a = p := ⟨a.toNat, by omega⟩
    obtain ⟨hs, hnm⟩ := shorts_of hc
    have hnm2 : n = nm (labs n) := hnm
    rw [hnm2]
    exact rname_core h hG hK p (by omega) (by omega) hs
  · exact rname_no h a n hn h0
end Go.Proofs.YteegekpanadmkaaGreat

/-
  The document's own Write: its rows and its packer, round for round.
-/
namespace Go.Proofs.YteegekpanadmkaaGreat
open Go.RowKit Go.Shelf
set_option linter.unusedVariables false
set_option linter.unusedSimpArgs false
set_option maxRecDepth 100000

def Hold (q : Nat) (w wr : World) : Prop := ∀ (g : Nat) (c : Array Value) (T : TypeId) (fz : Nat × Nat), g ≠ q → T ≠ 145 → w.heap[g]? = some (.cells c T fz) → wr.heap[g]? = some (.cells c T fz)
theorem Hold.refl (q : Nat) (w : World) : Hold q w w := fun _ _ _ _ _ _ h => h
theorem Hold.trans {q : Nat} {w w1 w2 : World} (h : Hold q w w1) (k : Hold q w1 w2) : Hold q w w2 := fun g c T fz hq hT hg => k g c T fz hq hT (h g c T fz hq hT hg)
theorem heap_lt {w : World} {g : Nat} {o : Obj} (h : w.heap[g]? = some o) : g < w.heap.size := by
  by_cases hg : g < w.heap.size
  · exact hg
  · rw [Array.getElem?_eq_none (by omega)] at h; cases h
theorem Hold.step {q : Nat} {w w1 w2 : World} {G : Nat → Prop} (h : Hold q w w1) (ha : Aside G w1 w2) (hG : ∀ (g : Nat) (c : Array Value) (T : TypeId) (fz : Nat × Nat), g < w.heap.size → g ≠ q → T ≠ 145 → w1.heap[g]? = some (.cells c T fz) → ¬ G g) : Hold q w w2 := fun g c T fz hq hT hg => by
  have h1 := h g c T fz hq hT hg
  rw [ha.block g (heap_lt h1) (hG g c T fz (heap_lt hg) hq hT h1)]
  exact h1
theorem Hold.below {q : Nat} {w w1 w2 : World} (h : Hold q w w1) (hb : Below w1.heap.size w1 w2) : Hold q w w2 := h.step (G := fun _ => False) (Aside.of_all hb) fun _ _ _ _ _ _ _ _ h => h
theorem Hold.name {q B : Nat} {w w1 w2 : World} {v : Value} {K : KK} (h : Hold q w w1) (ha : Aside (fun b => b = q ∨ v.ownBlock = some b) w1 w2) (hk : OwnK w1 B v K) : Hold q w w2 :=
  h.step ha fun g c T fz _ hq hT hg hh => by
    rcases hh with hh | hh
    · exact hq hh
    · rcases hk.2 with ⟨rfl, _⟩ | ⟨g', cap, cur, rfl, _, hg', _⟩
      · simp [Value.ownBlock] at hh
      · simp [Value.ownBlock] at hh
        subst hh
        rw [hg] at hg'
        injection hg' with hg'
        injection hg' with _ h3
        exact hT h3
theorem Hold.own {q D : Nat} {w w1 w2 : World} {v : Value} {l : List UInt8} (h : Hold q w w1) (ha : Aside (fun b => v.ownBlock = some b) w1 w2) (ho : OwnB w1 D v l) (hD : w.heap.size ≤ D) : Hold q w w2 :=
  h.step ha fun g c T fz hg _ _ _ hh => by have := (ho.lt g hh).1; omega

structure Rw (w wr : World) (B q : Nat) (vf vt vb vr : Value) (cs ts : List Value) (nf nt : Nat) (acc : List UInt8) (K : KK) (e : Nat) : Prop where
  rf : wr.ownsRow w.heap.size 3 1 vf nf cs
  rt : wr.ownsRow w.heap.size 9 1 vt nt ts
  rb : OwnB wr w.heap.size vb acc
  pk : Rk wr B q vr K e
  has : Aside (fun b => b = q ∨ B ≤ b) w wr
  keep : ∀ B' v' (l' : List UInt8), B ≤ B' → OwnB w B' v' l' → OwnB wr B' v' l'
  held : Hold q w wr

section
variable {w wr w' : World} {B q nf nt e : Nat} {vf vt vb vr : Value} {cs ts : List Value} {acc : List UInt8} {K : KK}

theorem Rw.later (h : Rw w wr B q vf vt vb vr cs ts nf nt acc K e) (hb : Below wr.heap.size wr w') : Rw w w' B q vf vt vb vr cs ts nf nt acc K e :=
  ⟨row_below h.rf hb, row_below h.rt hb, h.rb.below hb, h.pk.later hb, h.has.trans (Aside.of_all hb), fun B' v' l' hB ho => (h.keep B' v' l' hB ho).below hb, h.held.below hb⟩

theorem Rw.name {K' : KK} {e' : Nat} {v2 : Value} (h : Rw w wr B q vf vt vb vr cs ts nf nt acc K e) (hBw : B ≤ w.heap.size) (ha : Aside (fun b => b = q ∨ vr.ownBlock = some b) wr w') (hk : Rk w' B q v2 K' e') : Rw w w' B q vf vt vb v2 cs ts nf nt acc K' e' := by
  have hlt := h.pk.lt
  have hol := h.pk.own.lt
  refine ⟨row_aside h.rf ha fun b hb hg => ?_, row_aside h.rt ha fun b hb hg => ?_, h.rb.aside ha fun b hb hg => ?_, hk, h.has.trans (ha.mono fun b _ hg => hg.elim .inl fun hg => .inr (hol b hg).1), fun B' v' l' hB ho => (h.keep B' v' l' hB ho).aside ha fun b hb hg => ?_, h.held.name ha h.pk.own⟩
  · exact hg.elim (fun hg => by have := (World.ownsRow.lt h.rf b hb).1; omega) fun hg => row_apart h.rf h.pk.own (by decide) b hb hg
  · exact hg.elim (fun hg => by have := (World.ownsRow.lt h.rt b hb).1; omega) fun hg => row_apart h.rt h.pk.own (by decide) b hb hg
  · exact hg.elim (fun hg => by have := (h.rb.lt b hb).1; omega) fun hg => apart_BK h.rb h.pk.own b hb hg
  · exact hg.elim (fun hg => by have := ((h.keep B' v' l' hB ho).lt b hb).1; omega) fun hg => apart_BK (h.keep B' v' l' hB ho) h.pk.own b hb hg

theorem Rw.app (h : Rw w wr B q vf vt vb vr cs ts nf nt acc K e) (hBw : B ≤ w.heap.size) {xv : Value} {l' : List UInt8} {lo hi : Nat} (hx : Sl wr lo hi xv (iz l')) (hb : acc.length + l'.length ≤ 1000000) :
    ∃ a' c' w', (Builtin.append_ #[28, 28] 28 #[vb, xv]).run Tryz.prog wr = .ok (.slice a' (acc.length + l'.length) c') w' ∧ Rw w w' B q vf vt (.slice a' (acc.length + l'.length) c') vr cs ts nf nt (acc ++ l') K e := by
  have hsz := h.has.size
  obtain ⟨a', c', w', h1, h2, ha⟩ := run_appBs w.heap.size vb xv acc l' h.rb hx hb hsz
  have hlt := h.rb.lt
  have hq := h.pk.lt
  refine ⟨a', c', w', h1, row_aside h.rf ha fun b hb hg => row_apartB h.rb h.rf (by decide) b hg hb, row_aside h.rt ha fun b hb hg => row_apartB h.rb h.rt (by decide) b hg hb, h2, h.pk.aside ha (fun hg => by have := (hlt q hg).1; omega) (fun b hb hg => apart_BK h.rb h.pk.own b hg hb), h.has.trans (ha.mono fun b _ hg => .inr (by have := (hlt b hg).1; omega)), fun B' v' l' hB ho => (h.keep B' v' l' hB ho).aside ha fun b hb hg => ?_, h.held.own ha h.rb (Nat.le_refl _)⟩
  have g1 := (ho.lt b hb).2
  have g2 := (hlt b hg).1
  omega
end

def RWrPost (w : World) (B q : Nat) (R : WR) (x : Ending) (w' : World) : Prop :=
  ∃ v1 v2, x = .returned (.tuple #[v1, .int .i64 R.code]) ∧ Sl w' w.heap.size w'.heap.size v1 (iz R.out) ∧ Rk w' B q v2 R.K R.e ∧ Aside (fun b => b = q ∨ B ≤ b) w w' ∧ (∀ B' v' (l' : List UInt8), B ≤ B' → OwnB w B' v' l' → OwnB w' B' v' l') ∧ Hold q w w'
end Go.Proofs.YteegekpanadmkaaGreat

/-
  The document's own Write: the walk.
-/
namespace Go.Proofs.YteegekpanadmkaaGreat
open Go.RowKit Go.Shelf
set_option linter.unusedVariables false
set_option linter.unusedSimpArgs false
set_option maxRecDepth 100000

theorem row_mono {w : World} {B B' : Nat} {e : TypeId} {k n : Nat} {v : Value} {xs : List Value} (h : w.ownsRow B e k v n xs) (hB : B' ≤ B) : w.ownsRow B' e k v n xs := by
  refine ⟨h.1, ?_⟩
  rcases h.2 with h2 | ⟨g, cap, cur, hv, hg, r⟩
  · exact .inl h2
  · exact .inr ⟨g, cap, cur, hv, Nat.le_trans hB hg, r⟩

theorem form_row (w : World) (ks : List PK) (hk : ks.length ≤ 3) : (w.alloc (.cells (ks.map fun k => Value.int .i64 (codeK k)).toArray 3)).ownsRow w.heap.size 3 1 (.slice (some ⟨w.heap.size, 0, none⟩) ks.length ks.length) ks.length (ks.map fun k => Value.int .i64 (codeK k)) :=
  ⟨by simp, .inr ⟨w.heap.size, ks.length, _, rfl, Nat.le_refl _, heap_alloc_new w _, Nat.le_refl _, by unfold maxLen; omega, by simp, by simp; exact List.take_of_length_le (by simp)⟩⟩

set_option maxHeartbeats 8000000 in
theorem rwrite_any {w : World} {B q e : Nat} {v : Value} {K : KK} (h : Rk w B q v K e) (hG : GoodK K) (hK : K.length ≤ 800000) (a t : Int) (d : List UInt8) (hd : d.length ≤ 1000000) :
    Calls Tryz.prog 84 #[.pointer (some ⟨q, 0, none⟩), .int .i64 a, .int .i64 t, .string (bs d)] w (RWrPost w B q (wrR a t d K e)) := by
  have HC := Lib.hid (fun wx => rcheckR_any t d hd wx)
  have HFm := Lib.hid (fun wx => form_any t wx)
  have HPk := Lib.hid h
  have hBw := h.size
  rcases hR : spl t d with L | ⟨c, aa⟩
  · have eR : wrR a t d K e = wrL a L K e [] := by unfold wrR; rw [hR]
    rw [eR]
    obtain ⟨_, _, hd6, hf, hj⟩ := spl_ok hR
    have hcut := fits_cuts hf
    rw [hj] at hcut
    have HP := Lib.hid (fun wx => rparts_yes hd hcut wx)
    rw [decide_eq_true rfl] at HP
    rw [hR] at HC
    have HC' : Hid (∀ wx, Calls Tryz.prog 92 #[.int .i64 t, .string (bs d)] wx (Tells wx (.int .i64 0))) := fun wx => HC.out wx
    have HCD := Lib.hid (fits_code hf)
    have hfl := fits_len hf
    have hk3 := (kinds_small t).1
    obtain ⟨ks, hks⟩ : ∃ ks, kinds t = ks := ⟨_, rfl⟩
    rw [hks] at HFm HCD hfl hk3
    have HLP := Lib.hid (fun k (h : k < L.length) => show L[k].1.length ≤ 65535 from by
      have h1 := joined_take h
      have h2 := joined_part L (k + 1)
      rw [h1, List.length_append, hj] at h2
      omega)
    have HNM := Lib.hid (fun k (h : k < L.length) (h2 : L[k].2 = true) => fits_nam hf L[k] (List.getElem_mem h) h2)
    obtain ⟨X, hX⟩ : ∃ X, wrL a L K e [] = X := ⟨_, rfl⟩
    rw [hX]
    have HX := Lib.hid hX
    obtain ⟨n, hn⟩ : ∃ n, L.length = n := ⟨_, rfl⟩
    have HN := Lib.hid hn
    have HKN := Lib.hid (show ks.length = n by omega)
    have HFR := Lib.hid (fun wx => form_row wx ks hk3)
    have hn3 : n ≤ 3 := by omega
    clear hR eR hf hj hfl hk3 hd6 hn hX h hks hcut HC
    go_enter Tryz.func84, Tryz.ntmps84
    go_wp2_with fail
    refine (HC'.out _).mono ?_; rintro e0 w1 ⟨rfl, hb1⟩
    have HB1 := Lib.hid hb1
    clear hb1
    go_wp2_with fail
    refine (HFm.out _).mono ?_; rintro e0 w2 ⟨rfl, hw2⟩
    have HF2 := Lib.hid (row_mono (HFR.out w1) HB1.out.size)
    rw [← hw2] at HF2
    have HB2 : Hid (Below w.heap.size w w2) := by rw [hw2]; exact bel_alloc HB1.out _
    rw [HKN.out] at HF2 ⊢
    obtain ⟨gf, hgf⟩ : ∃ gf, w1.heap.size = gf := ⟨_, rfl⟩
    rw [hgf] at HF2 ⊢
    clear hw2 hgf
    go_wp2_with fail
    refine (HP.out _).mono ?_; rintro e0 w3 ⟨vt, rfl, ho, hb3⟩
    obtain ⟨at_, ct, rfl⟩ := OwnT.shape ho
    have HT3 : Hid (w3.ownsRow w.heap.size 9 1 (.slice at_ n ct) n ((L.map (·.1)).map tv)) := by
      have h1 := row_mono (OwnZ.owns ho) HB2.out.size
      simp only [List.length_map, HN.out] at h1 ⊢
      exact h1
    rw [List.length_map, HN.out]
    have HRw := Lib.hid (show Rw w w3 B q (.slice (some ⟨gf, 0, none⟩) n n) (.slice at_ n ct) (.slice none 0 0) v (ks.map fun k => Value.int .i64 (codeK k)) ((L.map (·.1)).map tv) n n [] K e from
      ⟨row_below HF2.out hb3, HT3.out, OwnB.nil _ _, HPk.out.later (bel_call HB2.out hb3), Aside.of_all (bel_call HB2.out hb3), fun B' v' l' _ ho => ho.below (bel_call HB2.out hb3), (Hold.refl q w).below (bel_call HB2.out hb3)⟩)
    clear ho hb3 HF2 HB2 HT3 HPk
    go_wp2_with fail
    go_loopg [14, 15, 16, 17, 18] n (fun g v14 v15 v16 v17 v18 wr => ∃ (k z : Nat) (acc : List UInt8) (K' : KK) (e' : Nat) (vr : Value) (ab : Option Addr) (cb : Nat), k + g = n ∧ v15 = .int .i64 k ∧ v14 = .slice ab z cb ∧ Hid (acc.length = z) ∧ z ≤ 65535 * k ∧ K'.length ≤ K.length + 127 * k ∧ Hid (Rw w wr B q (.slice (some ⟨gf, 0, none⟩) n n) (.slice at_ n ct) (.slice ab z cb) vr (ks.map fun k => Value.int .i64 (codeK k)) ((L.map (·.1)).map tv) n n acc K' e') ∧ Hid (GoodK K') ∧ Hid (wrL a (L.drop k) K' e' acc = X))
    case atStart => exact ⟨0, 0, [], K, e, v, none, 0, by omega, rfl, rfl, rfl, by omega, by omega, HRw, hG, HX⟩
    case round =>
      obtain ⟨k, z, acc, K', e', vr, ab, cb, hk, rfl, rfl, hz, hzl, hKl, HW, HGk, HXk⟩ := hrel
      clear HRw
      by_cases hlt : k < n
      · have hlk : k < L.length := by have := HN.out; omega
        have hkk : k < ks.length := by have := HKN.out; omega
        have hcf := World.ownsRow.cells HW.out.rf (g := gf) rfl k _ (by rw [List.getElem?_map, List.getElem?_eq_getElem hkk]; rfl)
        rw [WideShapes.add_plain, Nat.zero_add] at hcf
        replace hcf : wr.cell? ⟨gf, k, none⟩ = some (.int .i64 (codeK ks[k])) := hcf
        obtain ⟨gt, hgt⟩ : ∃ gt, at_ = some ⟨gt, 0, none⟩ := by
          rcases HW.out.rt.2 with ⟨he, h0⟩ | ⟨g, cap, cur, he, _⟩
          · omega
          · injection he with he _ _; exact ⟨g, he⟩
        subst hgt
        have hct := World.ownsRow.cells HW.out.rt (g := gt) rfl k _ (by rw [List.getElem?_map, List.getElem?_map, List.getElem?_eq_getElem hlk]; rfl)
        rw [WideShapes.add_plain, Nat.zero_add] at hct
        replace hct : wr.cell? ⟨gt, k, none⟩ = some (tv L[k].1) := hct
        have hxl := HLP.out k hlk
        have hcd := HCD.out k hkk hlk
        have hst := HXk.out
        rw [List.drop_eq_getElem_cons hlk, wrL] at hst
        have hnm := fun h => HNM.out k hlk h
        obtain ⟨cq, hcq⟩ : ∃ cq, codeK ks[k] = cq := ⟨_, rfl⟩
        obtain ⟨x, hx⟩ : ∃ x, L[k].1 = x := ⟨_, rfl⟩
        obtain ⟨f, hf⟩ : ∃ f, L[k].2 = f := ⟨_, rfl⟩
        rw [hcq] at hcf hcd
        rw [hx] at hct hxl hst
        rw [hf] at hcd hst
        rw [hz.out] at hst
        rw [hf, hx] at hnm
        have hct2 : wr.cell? ⟨gt, k, none⟩ = some (.string (bs x)) := hct
        obtain ⟨cap, W, hcv, ho, hbW, hltW⟩ := conv_B wr x (by omega)
        have HWW := Lib.hid (HW.out.later hbW)
        have HO := Lib.hid ho
        have d0 := cell_later hbW hcf
        have d1 := cell_later hbW hct2
        clear hcq hx hf hct ho hbW hltW
        cases f with
        | false =>
          rw [if_neg (by simp)] at hst
          have HST := Lib.hid hst
          obtain ⟨l2, hl2⟩ : ∃ l2, x.length = l2 := ⟨_, rfl⟩
          obtain ⟨a3, c3, w3, hr3, hk3⟩ := HWW.out.app hBw HO.out.sl (by rw [hz.out]; omega)
          rw [hz.out, hl2] at hr3 hk3
          have HR3 := Lib.hid hr3
          have HK3 := Lib.hid hk3
          have hzl2 : z + l2 ≤ 65535 * (k + 1) := by omega
          have hlen := Lib.hid (show (acc ++ x).length = z + l2 by rw [List.length_append, hz.out, hl2])
          rw [hl2] at hcv
          clear hr3 hk3 hst hl2 HO
          go_wp2_with (at_builtin; refine wpList_append_run (.tmp 66) (.tmp 67) 28 28 rfl rfl rfl rfl HR3.out ?_)
          go_roundg (n - (k + 1))
          case measure => omega
          case rel => exact ⟨k + 1, z + l2, acc ++ x, K', e', vr, a3, c3, by omega, by go_num, rfl, hlen, hzl2, by omega, HK3, HGk, HST⟩
        | true =>
          rw [if_pos rfl] at hst
          have hx255 := (chk_pos (hnm rfl)).2
          have hnb := nameB_len (e := e') (a := wrap64 (a + z)) (n := x) HGk.out
          have hnk := nameK_good (e := e') (a := wrap64 (a + z)) (n := x) HGk.out
          have HNm0 := rname_any HWW.out.pk HGk.out (by omega) (wrap64 (a + z)) x (by omega)
          unfold RNamePost at HNm0
          obtain ⟨pl, hq⟩ : ∃ pl, wrap64 (a + z) = pl := ⟨_, rfl⟩
          rw [hq] at hst hnb hnk HNm0
          by_cases hE : pkE e' pl x = 0
          · rw [if_neg (by simpa using hE)] at hst
            have HST := Lib.hid hst
            obtain ⟨T, hT⟩ : ∃ T, nameB K' e' pl x = T := ⟨_, rfl⟩
            obtain ⟨K2, hK2⟩ : ∃ K2, nameK K' e' pl x = K2 := ⟨_, rfl⟩
            obtain ⟨e2, he2⟩ : ∃ e2, nameE K' e' pl x = e2 := ⟨_, rfl⟩
            rw [hT, hK2, he2] at HST
            have HNm : Hid (Calls Tryz.prog 82 #[.pointer (some ⟨q, 0, none⟩), .int .i64 pl, .string (bs x)] W fun y w' => ∃ v1 v2, y = .returned (.tuple #[v1, .int .i64 0]) ∧ Sl w' W.heap.size w'.heap.size v1 (iz T) ∧ Rk w' B q v2 K2 e2 ∧ Aside (fun b => b = q ∨ vr.ownBlock = some b) W w') := by
              refine HNm0.mono ?_
              rintro y w' ⟨v1, v2, rfl, g1, g2, g3⟩
              rw [hE]
              rw [hT] at g1
              rw [hK2, he2] at g2
              exact ⟨v1, v2, rfl, g1, g2, g3⟩
            rw [hT] at hnb
            rw [hK2] at hnk
            clear hst HNm0 hT hK2 he2 hE hnm
            go_wp2_with fail
            rw [hq]
            refine HNm.out.mono ?_; rintro e0 w3 ⟨v3, v4, rfl, hs3, hrk3, ha3⟩
            have HK3 := HWW.out.name hBw ha3 hrk3
            obtain ⟨l2, hl2⟩ : ∃ l2, T.length = l2 := ⟨_, rfl⟩
            obtain ⟨a4, c4, w4, hr4, hk4⟩ := HK3.app hBw hs3 (by rw [hz.out]; omega)
            obtain ⟨a5, c5, rfl, _⟩ := hs3
            rw [iz_len] at hr4 ⊢
            rw [hz.out, hl2] at hr4 hk4
            rw [hl2] at hnb ⊢
            have HR4 := Lib.hid hr4
            have HK4 := Lib.hid hk4
            have hzl2 : z + l2 ≤ 65535 * (k + 1) := by omega
            have hlen := Lib.hid (show (acc ++ T).length = z + l2 by rw [List.length_append, hz.out, hl2])
            have hG2 := Lib.hid hnk.1
            clear hr4 hk4 hl2 HO hrk3 ha3 HK3 hq
            go_wp2_with (at_builtin; refine wpList_append_run (.tmp 66) (.tmp 67) 28 28 rfl rfl rfl rfl HR4.out ?_)
            go_roundg (n - (k + 1))
            case measure => omega
            case rel => exact ⟨k + 1, z + l2, acc ++ T, K2, e2, v4, a4, c4, by omega, by go_num, rfl, hlen, hzl2, by omega, HK4, hG2, HST⟩
          · rw [if_pos (by simpa using hE)] at hst
            have HST := Lib.hid hst
            have hnk0 : nameK K' e' pl x = K' ∧ nameE K' e' pl x = e' := by unfold nameK nameE; rw [if_neg hE, if_neg hE]; exact ⟨rfl, rfl⟩
            obtain ⟨cc, hcc⟩ : ∃ cc, pkE e' pl x = cc := ⟨_, rfl⟩
            rw [hcc] at HST hE
            have HNm : Hid (Calls Tryz.prog 82 #[.pointer (some ⟨q, 0, none⟩), .int .i64 pl, .string (bs x)] W fun y w' => ∃ v1 v2, y = .returned (.tuple #[v1, .int .i64 cc]) ∧ Rk w' B q v2 K' e' ∧ Aside (fun b => b = q ∨ vr.ownBlock = some b) W w') := by
              refine HNm0.mono ?_
              rintro y w' ⟨v1, v2, rfl, _, g2, g3⟩
              rw [hcc]
              rw [hnk0.1, hnk0.2] at g2
              exact ⟨v1, v2, rfl, g2, g3⟩
            have tc : (cc != 0) = true := by simpa using hE
            clear hst HNm0 hcc hE hnm hnk0 hnk hnb
            go_wp2_with fail
            rw [hq]
            refine HNm.out.mono ?_; rintro e0 w3 ⟨v3, v4, rfl, hrk3, ha3⟩
            have HK3 := Lib.hid (HWW.out.name hBw ha3 hrk3)
            clear hrk3 ha3 hq
            go_wp2_with fail
            go_ret2
            rw [← HST.out]
            exact ⟨_, v4, rfl, ⟨none, 0, rfl, by simp [iz], fun _ => rfl, fun h => by simp [iz] at h⟩, HK3.out.pk, HK3.out.has, HK3.out.keep, HK3.out.held⟩
      · have hXe : wrL a [] K' e' acc = X := by have h := HXk.out; rw [List.drop_eq_nil_of_le (by have := HN.out; omega)] at h; exact h
        have HXe := Lib.hid hXe
        clear hXe
        have HSl := Lib.hid HW.out.rb.sl
        go_wp2_with fail
        go_ret2
        rw [← HXe.out]
        exact ⟨_, vr, rfl, HSl.out, HW.out.pk, HW.out.has, HW.out.keep, HW.out.held⟩
  · have eR : wrR a t d K e = ⟨[], c, K, e⟩ := by unfold wrR; rw [hR]
    rw [eR]
    have hcb := code_bad hR
    rw [hR] at HC
    have HC' : Hid (∀ wx, Calls Tryz.prog 92 #[.int .i64 t, .string (bs d)] wx (Tells wx (.int .i64 c))) := fun wx => HC.out wx
    have tc : (c != 0) = true := by simpa using hcb
    clear hR hcb HC eR h
    go_enter Tryz.func84, Tryz.ntmps84
    go_wp2_with fail
    refine (HC'.out _).mono ?_; rintro e0 w1 ⟨rfl, hb1⟩
    have HB1 := Lib.hid hb1
    clear hb1
    go_wp2_with fail
    go_ret2
    exact ⟨_, v, rfl, ⟨none, 0, rfl, by simp [iz], fun _ => rfl, fun h => by simp [iz] at h⟩, HPk.out.later HB1.out, Aside.of_all HB1.out, fun B' v' l' _ ho => ho.below HB1.out, (Hold.refl q w).below HB1.out⟩
end Go.Proofs.YteegekpanadmkaaGreat

/-
  What the program writes and what the document's own text writes: the walk.
-/
namespace Go.Proofs.YteegekpanadmkaaGreat
open Go.RowKit Go.Shelf
set_option linter.unusedVariables false
set_option linter.unusedSimpArgs false
set_option maxRecDepth 100000

theorem wrL_next (a : Int) : ∀ (L : List Pc) (K : KK) (e : Nat) (acc : List UInt8), GoodK K → e ≤ 66000 → GoodK (wrL a L K e acc).K ∧ (wrL a L K e acc).K.length ≤ K.length + 127 * L.length ∧ (wrL a L K e acc).e ≤ 66000
  | [], K, e, acc, hG, he => ⟨hG, by simp [wrL], he⟩
  | x :: L, K, e, acc, hG, he => by
    rw [wrL]
    split
    · split
      · exact ⟨hG, by simp, he⟩
      · have h1 := nameK_good (e := e) (a := wrap64 (a + acc.length)) (n := x.1) hG
        obtain ⟨g1, g2, g3⟩ := wrL_next a L (nameK K e (wrap64 (a + acc.length)) x.1) (nameE K e (wrap64 (a + acc.length)) x.1) (acc ++ nameB K e (wrap64 (a + acc.length)) x.1) h1.1 (by omega)
        exact ⟨g1, by rw [List.length_cons]; omega, g3⟩
    · obtain ⟨g1, g2, g3⟩ := wrL_next a L K e (acc ++ x.1) hG he
      exact ⟨g1, by rw [List.length_cons]; omega, g3⟩

theorem wrR_next {K : KK} {e : Nat} (a t : Int) (d : List UInt8) (hG : GoodK K) (he : e ≤ 66000) : GoodK (wrR a t d K e).K ∧ (wrR a t d K e).K.length ≤ K.length + 400 ∧ (wrR a t d K e).e ≤ 66000 := by
  unfold wrR
  rcases hs : spl t d with L | ⟨c, aa⟩
  · obtain ⟨_, _, _, hf, _⟩ := spl_ok hs
    have h1 := fits_len hf
    have h2 := (kinds_small t).1
    obtain ⟨g1, g2, g3⟩ := wrL_next a L K e [] hG he
    exact ⟨g1, by simp only; omega, g3⟩
  · exact ⟨hG, by simp, he⟩

end Go.Proofs.YteegekpanadmkaaGreat

/-
  The document's Put16, Put32, Bytes, Get16, Get32.
-/
namespace Go.Proofs.YteegekpanadmkaaGreat
open Go.RowKit
set_option linter.unusedVariables false
set_option maxRecDepth 100000

def RPost (w : World) (E : Int) (L : List Int) (e : Ending) (w' : World) : Prop :=
  ∃ v, e = .returned (.tuple #[v, .int .i64 E]) ∧ OwnR w' w.heap.size v L ∧ Below w.heap.size w w'

set_option maxHeartbeats 1000000 in
theorem rput2_ok (n : Int) (w : World) (h0 : 0 ≤ n) (h1 : n ≤ 65535) : Calls Tryz.prog 81 #[.int .i64 n, .int .i64 2] w (RPost w 0 [n / 256, n % 256]) := by
  have hz : n / 65536 = 0 := by omega
  have HB0 := Lib.hid (Below.refl w.heap.size w)
  go_enter Tryz.func81, Tryz.ntmps81
  go_wp2
  refine wp_loop_rounds 3 ?_
  rw [rounds_succ]
  go_wp2_with (at_builtin; refine wpList_app rfl (.tmp 23) (.tmp 29) rfl w.heap.size ?l1 ?h1 _ _ [] ?x1 rfl rfl ?a1 ?b1 ?c1 ?d1 ?_)
  case b1 => exact sl_one _ _
  case a1 => exact World.ownsRow_nil _ _ _ _
  case c1 => simp
  case d1 => simp
  intro v1 w1 HO1 hb
  have HB1 := Lib.hid ((HB0.out.alloc HB0.out.size _).trans hb.out)
  clear hb HB0
  go_wp2_with fail
  rw [rounds_succ]
  go_wp2_with (at_builtin; refine wpList_app rfl (.tmp 23) (.tmp 29) rfl w.heap.size ?l2 ?h2 _ _ ?y2 ?x2 rfl rfl ?a2 ?b2 ?c2 ?d2 ?_)
  case b2 => exact sl_one _ _
  case a2 => exact World.ownsRow.alloc HO1.out _
  case c2 => simp
  case d2 => have := HB1.out.size; simp; omega
  intro v2 w2 HO2 hb
  have HB2 := Lib.hid ((HB1.out.alloc HB1.out.size _).trans hb.out)
  clear hb HB1
  clear HO1
  go_wp2_with fail
  rw [rounds_succ]
  go_wp2_with fail
  go_ret2
  refine ⟨v2, rfl, ?_, HB2.out⟩
  have e := HO2.out
  exact e

set_option maxHeartbeats 400000 in
theorem rput2_no (n : Int) (w : World) (h : n < 0 ∨ 65535 < n) : Calls Tryz.prog 81 #[.int .i64 n, .int .i64 2] w (RPost w 5 []) := by
  by_cases hn : n < 0
  · go_enter Tryz.func81, Tryz.ntmps81
    go_wp2
    go_ret2
    exact ⟨_, rfl, World.ownsRow_nil _ _ _ _, Below.refl _ _⟩
  · have hz : ¬ n / 65536 = 0 := by omega
    go_enter Tryz.func81, Tryz.ntmps81
    go_wp2
    go_ret2
    exact ⟨_, rfl, World.ownsRow_nil _ _ _ _, Below.refl _ _⟩

theorem rput2_any (n : Int) (w : World) : Calls Tryz.prog 81 #[.int .i64 n, .int .i64 2] w (RPost w (putE 65535 n) (putL2 n)) := by
  unfold putE putL2
  by_cases h : 0 ≤ n ∧ n ≤ 65535
  · rw [if_pos h, if_pos h]; exact rput2_ok n w h.1 h.2
  · rw [if_neg h, if_neg h]; exact rput2_no n w (by omega)

set_option maxHeartbeats 400000 in
theorem rput16_any (n : Int) (w : World) : Calls Tryz.prog 65 #[.int .i64 n] w (RPost w (putE 65535 n) (putL2 n)) := by
  go_enter Tryz.func65, Tryz.ntmps65
  go_wp2_with (go_at_call 81; refine (rput2_any n _).mono ?_; rintro e w1 ⟨v, rfl, h1, h2⟩; have H1 := Lib.hid h1; have H2 := Lib.hid h2; clear h1 h2)
  go_ret2
  exact ⟨v, rfl, H1.out, H2.out⟩

set_option maxHeartbeats 1000000 in
theorem rput4_ok (n : Int) (w : World) (h0 : 0 ≤ n) (h1 : n ≤ 4294967295) : Calls Tryz.prog 81 #[.int .i64 n, .int .i64 4] w (RPost w 0 [n / 256 / 256 / 256, n / 256 / 256 % 256, n / 256 % 256, n % 256]) := by
  have hz : n / 4294967296 = 0 := by omega
  have HB0 := Lib.hid (Below.refl w.heap.size w)
  go_enter Tryz.func81, Tryz.ntmps81
  go_wp2
  refine wp_loop_rounds 5 ?_
  rw [rounds_succ]
  go_wp2_with (at_builtin; refine wpList_app rfl (.tmp 23) (.tmp 29) rfl w.heap.size ?l1 ?h1 _ _ [] ?x1 rfl rfl ?a1 ?b1 ?c1 ?d1 ?_)
  case b1 => exact sl_one _ _
  case a1 => exact World.ownsRow_nil _ _ _ _
  case c1 => simp
  case d1 => simp
  intro v1 w1 HO1 hb
  have HB1 := Lib.hid ((HB0.out.alloc HB0.out.size _).trans hb.out)
  clear hb HB0
  go_wp2_with fail
  rw [rounds_succ]
  go_wp2_with (at_builtin; refine wpList_app rfl (.tmp 23) (.tmp 29) rfl w.heap.size ?l2 ?h2 _ _ ?y2 ?x2 rfl rfl ?a2 ?b2 ?c2 ?d2 ?_)
  case b2 => exact sl_one _ _
  case a2 => exact World.ownsRow.alloc HO1.out _
  case c2 => simp
  case d2 => have := HB1.out.size; simp; omega
  intro v2 w2 HO2 hb
  have HB2 := Lib.hid ((HB1.out.alloc HB1.out.size _).trans hb.out)
  clear hb HB1
  clear HO1
  go_wp2_with fail
  rw [rounds_succ]
  go_wp2_with (at_builtin; refine wpList_app rfl (.tmp 23) (.tmp 29) rfl w.heap.size ?l3 ?h3 _ _ ?y3 ?x3 rfl rfl ?a3 ?b3 ?c3 ?d3 ?_)
  case b3 => exact sl_one _ _
  case a3 => exact World.ownsRow.alloc HO2.out _
  case c3 => simp
  case d3 => have := HB2.out.size; simp; omega
  intro v3 w3 HO3 hb
  have HB3 := Lib.hid ((HB2.out.alloc HB2.out.size _).trans hb.out)
  clear hb HB2
  clear HO2
  go_wp2_with fail
  rw [rounds_succ]
  go_wp2_with (at_builtin; refine wpList_app rfl (.tmp 23) (.tmp 29) rfl w.heap.size ?l4 ?h4 _ _ ?y4 ?x4 rfl rfl ?a4 ?b4 ?c4 ?d4 ?_)
  case b4 => exact sl_one _ _
  case a4 => exact World.ownsRow.alloc HO3.out _
  case c4 => simp
  case d4 => have := HB3.out.size; simp; omega
  intro v4 w4 HO4 hb
  have HB4 := Lib.hid ((HB3.out.alloc HB3.out.size _).trans hb.out)
  clear hb HB3
  clear HO3
  go_wp2_with fail
  rw [rounds_succ]
  go_wp2_with fail
  go_ret2
  refine ⟨v4, rfl, ?_, HB4.out⟩
  have e := HO4.out
  have e1 : n / 256 / 256 / 256 = n / 16777216 := by omega
  have e2 : n / 256 / 256 % 256 = n / 65536 % 256 := by omega
  rw [e1, e2]
  exact e

set_option maxHeartbeats 400000 in
theorem rput4_no (n : Int) (w : World) (h : n < 0 ∨ 4294967295 < n) : Calls Tryz.prog 81 #[.int .i64 n, .int .i64 4] w (RPost w 5 []) := by
  by_cases hn : n < 0
  · go_enter Tryz.func81, Tryz.ntmps81
    go_wp2
    go_ret2
    exact ⟨_, rfl, World.ownsRow_nil _ _ _ _, Below.refl _ _⟩
  · have hz : ¬ n / 4294967296 = 0 := by omega
    go_enter Tryz.func81, Tryz.ntmps81
    go_wp2
    go_ret2
    exact ⟨_, rfl, World.ownsRow_nil _ _ _ _, Below.refl _ _⟩

theorem rput4_any (n : Int) (w : World) : Calls Tryz.prog 81 #[.int .i64 n, .int .i64 4] w (RPost w (putE 4294967295 n) (putL4 n)) := by
  unfold putE putL4
  by_cases h : 0 ≤ n ∧ n ≤ 4294967295
  · rw [if_pos h, if_pos h]; exact rput4_ok n w h.1 h.2
  · rw [if_neg h, if_neg h]; exact rput4_no n w (by omega)

set_option maxHeartbeats 400000 in
theorem rput32_any (n : Int) (w : World) : Calls Tryz.prog 83 #[.int .i64 n] w (RPost w (putE 4294967295 n) (putL4 n)) := by
  go_enter Tryz.func83, Tryz.ntmps83
  go_wp2_with (go_at_call 81; refine (rput4_any n _).mono ?_; rintro e w1 ⟨v, rfl, h1, h2⟩; have H1 := Lib.hid h1; have H2 := Lib.hid h2; clear h1 h2)
  go_ret2
  exact ⟨v, rfl, H1.out, H2.out⟩

end Go.Proofs.YteegekpanadmkaaGreat

/-
  The document's own: a question's bytes.
-/
namespace Go.Proofs.YteegekpanadmkaaGreat
open Go.RowKit Go.Shelf
set_option linter.unusedVariables false
set_option linter.unusedSimpArgs false
set_option maxRecDepth 100000

theorem two_l (t : Int) : (two t).length = 2 := rfl
theorem four_l (t : Int) : (four t).length = 4 := rfl

theorem sl_aside {w w' : World} {lo hi : Nat} {v : Value} {l : List Int} {G : Nat → Prop} (h : Sl w lo hi v l) (ha : Aside G w w') (hG : ∀ b, lo ≤ b → ¬ G b) (hhi : hi ≤ w.heap.size) : Sl w' lo hi v l :=
  h.keep fun b o h1 h2 => ha.cell (p := ⟨b, o, none⟩) (Nat.lt_of_lt_of_le h2 hhi) (hG b h1)

theorem app_on {w0 w : World} {v xv : Value} {l l' : List UInt8} {lo hi : Nat} (ho : OwnB w w0.heap.size v l) (hb : Below w0.heap.size w0 w) (hx : Sl w lo hi xv (iz l')) (hl : l.length + l'.length ≤ 1000000) :
    ∃ a' c' w', (Builtin.append_ #[28, 28] 28 #[v, xv]).run Tryz.prog w = .ok (.slice a' (l.length + l'.length) c') w' ∧ OwnB w' w0.heap.size (.slice a' (l.length + l'.length) c') (l ++ l') ∧ Below w0.heap.size w0 w' := by
  obtain ⟨a', c', w', h1, h2, ha⟩ := run_appBs w0.heap.size v xv l l' ho hx hl hb.size
  have hlt := ho.lt
  exact ⟨a', c', w', h1, h2, below_aside hb ha fun b hb2 => ⟨Nat.lt_of_lt_of_le hb2 hb.size, fun hg => by have := (hlt b hg).1; omega⟩⟩

def RAskPost (w : World) (B q : Nat) (v : Value) (R : WR) (x : Ending) (w' : World) : Prop :=
  ∃ v1 v2, x = .returned (.tuple #[v1, .int .i64 R.code]) ∧ OwnB w' w.heap.size v1 R.out ∧ Rk w' B q v2 R.K R.e ∧ Aside (fun b => b = q ∨ v.ownBlock = some b) w w' ∧ ∀ B' v' (l' : List UInt8), B ≤ B' → OwnB w B' v' l' → OwnB w' B' v' l'

set_option maxHeartbeats 8000000 in
theorem rask_any {w : World} {B q e : Nat} {v : Value} {K : KK} (h : Rk w B q v K e) (hG : GoodK K) (hK : K.length ≤ 800000) (a : Int) (n : List UInt8) (hn : n.length ≤ 1000000) (t c : Int) :
    Calls Tryz.prog 66 #[.pointer (some ⟨q, 0, none⟩), .int .i64 a, .agg #[.string (bs n), .int .i64 t, .int .i64 c]] w (RAskPost w B q v (askW a n t c K e)) := by
  obtain ⟨W0, hW0⟩ : ∃ W0, w.alloc (.cells #[.string (bs n), .int .i64 t, .int .i64 c] 56) = W0 := ⟨_, rfl⟩
  have hb0 : Below w.heap.size w W0 := by rw [← hW0]; exact (Below.refl _ _).alloc (Nat.le_refl _) _
  have hx : Cel W0 w.heap.size [.string (bs n), .int .i64 t, .int .i64 c] := by rw [← hW0]; exact cel_new3 w _ _ _ _
  obtain ⟨g, hg⟩ : ∃ g, w.heap.size = g := ⟨_, rfl⟩
  have HX := Lib.hid hx
  rw [hg] at HX
  have HB := Lib.hid hb0
  have HRk := Lib.hid h
  have hqB := h.lt
  have hBw := h.size
  have HCk := Lib.hid (fun wx => rcheck_any n hn wx)
  have HPt := Lib.hid (fun wx => rput16_any t wx)
  have HPc := Lib.hid (fun wx => rput16_any c wx)
  unfold RPost at HPt HPc
  obtain ⟨X, hX⟩ : ∃ X, askW a n t c K e = X := ⟨_, rfl⟩
  rw [hX]
  have HXv := Lib.hid hX
  clear hX hx hb0 h
  unfold askW at HXv
  obtain ⟨E, hE⟩ : ∃ E, chk n = E := ⟨_, rfl⟩
  rw [hE] at HCk
  obtain ⟨b0, b1, b2⟩ : W0.cell? ⟨g, 0, none⟩ = some (.string (bs n)) ∧ W0.cell? ⟨g, 1, none⟩ = some (.int .i64 t) ∧ W0.cell? ⟨g, 2, none⟩ = some (.int .i64 c) := ⟨HX.out.c 0 (by simp), HX.out.c 1 (by simp), HX.out.c 2 (by simp)⟩
  by_cases h0 : E = 0
  · subst h0
    have hn255 := (chk_pos hE).2
    by_cases htc : 0 ≤ t ∧ t ≤ 65535 ∧ 0 ≤ c ∧ c ≤ 65535
    · have hA : askE n t c = 0 := by unfold askE; rw [if_neg (by simpa using hE), if_neg (by omega)]
      rw [if_neg (by simpa using hA)] at HXv
      have e1 : putE 65535 t = 0 := by unfold putE; rw [if_pos ⟨htc.1, htc.2.1⟩]
      have e2 : putE 65535 c = 0 := by unfold putE; rw [if_pos htc.2.2]
      rw [e1, ← iz_two t htc.1 htc.2.1] at HPt
      rw [e2, ← iz_two c htc.2.2.1 htc.2.2.2] at HPc
      have HNm := Lib.hid (fun (wx : World) vx (hp : Rk wx B q vx K e) => rname_any hp hG (by omega) a n (by omega))
      unfold RNamePost at HNm
      have hnb := (nameB_len (e := e) (a := a) (n := n) hG).1
      obtain ⟨C, hC⟩ : ∃ C, pkE e a n = C := ⟨_, rfl⟩
      obtain ⟨T, hT⟩ : ∃ T, nameB K e a n = T := ⟨_, rfl⟩
      obtain ⟨K2, hK2⟩ : ∃ K2, nameK K e a n = K2 := ⟨_, rfl⟩
      obtain ⟨e2', he2⟩ : ∃ e2, nameE K e a n = e2 := ⟨_, rfl⟩
      have hKE : C ≠ 0 → K2 = K ∧ e2' = e := fun hne => by rw [← hK2, ← he2]; unfold nameK nameE; rw [hC, if_neg hne, if_neg hne]; exact ⟨rfl, rfl⟩
      rw [hC, hT, hK2, he2] at HNm HXv
      rw [hT] at hnb
      clear hC hT hK2 he2 hE hA e1 e2 htc hn255 hG
      go_enter Tryz.func66, Tryz.ntmps66
      go_wp2_with fail
      refine (HCk.out _).mono ?_; rintro e0 w1 ⟨rfl, hb⟩
      replace HB := Lib.hid (bel_call HB.out hb)
      have hX1 := HX.out.below (by simp) hb
      have c1 : w1.cell? ⟨g, 1, none⟩ = some (.int .i64 t) := hX1.c 1 (by simp)
      clear hb b0 b1 b2
      go_wp2_with fail
      refine (HPt.out _).mono ?_; rintro e0 w2 ⟨v9, rfl, ho9, hb⟩
      replace HB := Lib.hid (bel_call HB.out hb)
      have hX2 := hX1.below (by simp) hb
      have c2 : w2.cell? ⟨g, 2, none⟩ = some (.int .i64 c) := hX2.c 2 (by simp)
      have HS9 := Lib.hid ((ho9.sl).wide (show g ≤ w1.heap.size by have := World.block_lt_of_cell? w1 _ c1; simp only at this; omega) (Nat.le_refl _))
      clear hb c1 ho9 hX1
      go_wp2_with fail
      refine (HPc.out _).mono ?_; rintro e0 w3 ⟨v11, rfl, ho11, hb⟩
      have HB3 := Lib.hid (bel_call HB.out hb)
      have hX3 := hX2.below (by simp) hb
      have d0 : w3.cell? ⟨g, 0, none⟩ = some (.string (bs n)) := hX3.c 0 (by simp)
      have hs9 := HS9.out.below hb (Nat.le_refl _)
      have HS11 := Lib.hid ((ho11.sl).wide (show g ≤ w2.heap.size by have := World.block_lt_of_cell? w2 _ c2; simp only at this; omega) (Nat.le_refl _))
      replace HS9 := Lib.hid (hs9.wide (Nat.le_refl _) hb.size)
      have HRk3 := Lib.hid (HRk.out.later HB3.out)
      clear hb c2 ho11 hX2 hX3 HB HX hs9
      go_wp2_with fail
      refine (HNm.out _ _ HRk3.out).mono ?_; rintro e0 w4 ⟨v13, v2, rfl, hs, hrk, has⟩
      have hown := HRk.out.own.lt
      have hGf : ∀ b, g ≤ b → ¬ (b = q ∨ v.ownBlock = some b) := fun b hb hg2 => by
        rcases hg2 with rfl | hg2
        · omega
        · have := (hown b hg2).2; omega
      replace HS9 := Lib.hid ((sl_aside HS9.out has hGf (Nat.le_refl _)).wide (Nat.le_refl _) has.size)
      replace HS11 := Lib.hid ((sl_aside HS11.out has hGf (Nat.le_refl _)).wide (Nat.le_refl _) has.size)
      have HS13 := Lib.hid hs
      have HRk4 := Lib.hid hrk
      have HA4 := Lib.hid ((Aside.of_all HB3.out : Aside (fun b => b = q ∨ v.ownBlock = some b) w w3).trans has)
      have HKp := Lib.hid (fun B' v' (l' : List UInt8) (hB' : B ≤ B') (ho : OwnB w B' v' l') => (ho.below HB3.out).aside has fun b hb hg2 => by
        rcases hg2 with rfl | hg2
        · have := (ho.lt b hb).1; omega
        · exact apart_BK (ho.below HB3.out) HRk3.out.own b hb hg2)
      clear d0 hs hrk has hown hGf HRk3
      by_cases hC0 : C = 0
      · subst hC0
        rw [if_neg (by simp)] at HXv
        have hal : Below w4.heap.size w4 (w4.alloc (.cells #[] 5)) := (Below.refl _ _).alloc (Nat.le_refl _) _
        have hoE : OwnB (w4.alloc (.cells #[] 5)) w4.heap.size (.slice (some ⟨w4.heap.size, 0, none⟩) 0 0) [] := .inr ⟨w4.heap.size, 0, (0, 0), rfl, Nat.le_refl _, Nat.le_refl _, Nat.zero_le _, .inl rfl, heap_alloc_new w4 _⟩
        obtain ⟨a5, k5, w5, hr5, ho5, hb5⟩ := app_on hoE hal (HS13.out.below hal (Nat.le_refl _)) (by simp; omega)
        simp only [List.length_nil, Nat.zero_add, List.nil_append] at hr5 ho5
        obtain ⟨a6, k6, w6, hr6, ho6, hb6⟩ := app_on ho5 hb5 (HS9.out.below hb5 (Nat.le_refl _)) (by simp [two]; omega)
        simp only [two_l] at hr6 ho6
        obtain ⟨a7, k7, w7, hr7, ho7, hb7⟩ := app_on ho6 hb6 (HS11.out.below hb6 (Nat.le_refl _)) (by simp [two]; omega)
        simp only [List.length_append, two_l] at hr7 ho7
        have HR5 := Lib.hid hr5
        have HR6 := Lib.hid hr6
        have HR7 := Lib.hid hr7
        have HO7 := Lib.hid ho7
        have HB7 := Lib.hid hb7
        clear hal hoE hr5 hr6 hr7 ho5 ho6 ho7 hb5 hb6 hb7 hKE
        go_wp2_with (first | (at_builtin; refine wpList_append_run (.tmp 49) (.tmp 50) 28 28 rfl rfl rfl rfl HR5.out ?_) | (at_builtin; refine wpList_append_run (.tmp 51) (.tmp 52) 28 28 rfl rfl rfl rfl HR6.out ?_) | (at_builtin; refine wpList_append_run (.tmp 53) (.tmp 54) 28 28 rfl rfl rfl rfl HR7.out ?_))
        go_ret2
        rw [← HXv.out]
        have HO8 : OwnB w7 w4.heap.size (.slice a7 (T.length + 2 + 2) k7) (T ++ (two t ++ two c)) := by rw [← List.append_assoc]; exact HO7.out
        exact ⟨_, v2, rfl, HO8.mono HA4.out.size, HRk4.out.later HB7.out, HA4.out.trans (Aside.of_all HB7.out), fun B' v' l' hB' ho => (HKp.out B' v' l' hB' ho).below HB7.out⟩
      · have tC : (C != 0) = true := by simpa using hC0
        rw [if_pos hC0] at HXv
        obtain ⟨rfl, rfl⟩ := hKE hC0
        go_wp2_with fail
        go_ret2
        rw [← HXv.out]
        exact ⟨_, _, rfl, OwnB.nil _ _, HRk4.out, HA4.out, HKp.out⟩
    · have hA : askE n t c = 5 := by unfold askE; rw [if_neg (by simpa using hE), if_pos (by omega)]
      rw [hA, if_pos (by decide)] at HXv
      obtain ⟨E1, hE1⟩ : ∃ E1, putE 65535 t = E1 := ⟨_, rfl⟩
      obtain ⟨E2, hE2⟩ : ∃ E2, putE 65535 c = E2 := ⟨_, rfl⟩
      rw [hE1] at HPt
      rw [hE2] at HPc
      have hor : (E1 != 0) = true ∨ ((E1 != 0) = false ∧ (E2 != 0) = true) := by
        rw [← hE1, ← hE2]
        unfold putE
        by_cases h1 : 0 ≤ t ∧ t ≤ 65535
        · have h2 : ¬ (0 ≤ c ∧ c ≤ 65535) := fun h2 => htc ⟨h1.1, h1.2, h2⟩
          rw [if_pos h1, if_neg h2]
          exact .inr ⟨by decide, by decide⟩
        · rw [if_neg h1]
          exact .inl (by decide)
      clear hE1 hE2 hE hA htc hn255 hG
      rcases hor with hor | ⟨hor, hor2⟩
      all_goals
        go_enter Tryz.func66, Tryz.ntmps66
        go_wp2_with fail
        refine (HCk.out _).mono ?_; rintro e0 w1 ⟨rfl, hb⟩
        replace HB := Lib.hid (bel_call HB.out hb)
        have hX1 := HX.out.below (by simp) hb
        have c1 : w1.cell? ⟨g, 1, none⟩ = some (.int .i64 t) := hX1.c 1 (by simp)
        clear hb b0 b1 b2
        go_wp2_with fail
        refine (HPt.out _).mono ?_; rintro e0 w2 ⟨v9, rfl, ho9, hb⟩
        replace HB := Lib.hid (bel_call HB.out hb)
        have hX2 := hX1.below (by simp) hb
        have c2 : w2.cell? ⟨g, 2, none⟩ = some (.int .i64 c) := hX2.c 2 (by simp)
        clear hb c1 ho9 hX1
        go_wp2_with fail
        refine (HPc.out _).mono ?_; rintro e0 w3 ⟨v11, rfl, ho11, hb⟩
        have HB3 := Lib.hid (bel_call HB.out hb)
        clear hb c2 ho11 hX2 HB
        go_wp2_with fail
        go_ret2
        rw [← HXv.out]
        exact ⟨_, _, rfl, OwnB.nil _ _, HRk.out.later HB3.out, Aside.of_all HB3.out, fun B' v' l' _ ho => ho.below HB3.out⟩
  · have hA : askE n t c = E := by unfold askE; rw [hE, if_pos h0]
    rw [hA, if_pos h0] at HXv
    have tE : (E != 0) = true := by simpa using h0
    clear hE hA h0 hG
    go_enter Tryz.func66, Tryz.ntmps66
    go_wp2_with fail
    refine (HCk.out _).mono ?_; rintro e0 w1 ⟨rfl, hb⟩
    have HB1 := Lib.hid (bel_call HB.out hb)
    clear hb b0 b1 b2 HB
    go_wp2_with fail
    go_ret2
    rw [← HXv.out]
    exact ⟨_, _, rfl, OwnB.nil _ _, HRk.out.later HB1.out, Aside.of_all HB1.out, fun B' v' l' _ ho => ho.below HB1.out⟩
end Go.Proofs.YteegekpanadmkaaGreat
