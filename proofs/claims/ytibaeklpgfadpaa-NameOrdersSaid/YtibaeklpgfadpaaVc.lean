/-
  The order of names, plainly.
-/
import Derived.Test.YtibaeklpgfadpaaUc
namespace Go.Proofs.Ytibaeklpgfadpaa
open Go.RowKit Go.Shelf
set_option linter.unusedVariables false
set_option linter.unusedSimpArgs false

theorem cmpL_cases (x y : List (List UInt8)) : cmpL x y = -1 ∨ cmpL x y = 0 ∨ cmpL x y = 1 := by
  induction x generalizing y with
  | nil => cases y <;> simp [cmpL]
  | cons a r ih =>
    cases y with
    | nil => simp [cmpL]
    | cons b s =>
      rw [cmpL]
      split
      · exact ih s
      · exact cmpS_cases a b

theorem cmpL_zero (x y : List (List UInt8)) : cmpL x y = 0 ↔ x = y := by
  induction x generalizing y with
  | nil => cases y <;> simp [cmpL]
  | cons a r ih =>
    cases y with
    | nil => simp [cmpL]
    | cons b s =>
      rw [cmpL]
      have h := cmpS_zero a b
      split
      · rename_i h0
        rw [ih s, h.mp h0]
        simp
      · rename_i h0
        refine ⟨fun e => (h0 e).elim, fun e => ?_⟩
        injection e with e1 e2
        exact h.mpr e1

theorem cmpL_anti (x y : List (List UInt8)) : cmpL y x = - cmpL x y := by
  induction x generalizing y with
  | nil => cases y <;> simp [cmpL]
  | cons a r ih =>
    cases y with
    | nil => simp [cmpL]
    | cons b s =>
      rw [cmpL, cmpL, cmpS_anti a b]
      by_cases h : cmpS a b = 0
      · rw [if_pos h, if_pos (by omega)]; exact ih s
      · rw [if_neg h, if_neg (by omega)]

theorem cmpL_trans (x y z : List (List UInt8)) (h1 : cmpL x y ≤ 0) (h2 : cmpL y z ≤ 0) : cmpL x z ≤ 0 := by
  induction x generalizing y z with
  | nil => cases z <;> simp [cmpL]
  | cons a r ih =>
    cases y with
    | nil => simp [cmpL] at h1
    | cons b s =>
      cases z with
      | nil => simp [cmpL] at h2
      | cons c t =>
        rw [cmpL] at h1 h2 ⊢
        have hab : cmpS a b ≤ 0 := by split at h1 <;> omega
        have hbc : cmpS b c ≤ 0 := by split at h2 <;> omega
        obtain ⟨h3, h4⟩ := cmpS_trans a b c hab hbc
        by_cases h0 : cmpS a c = 0
        · obtain ⟨h5, h6⟩ := h4 h0
          rw [if_pos h5] at h1
          rw [if_pos h6] at h2
          rw [if_pos h0]
          exact ih s t h1 h2
        · rw [if_neg h0]
          exact h3

theorem cmpL_prefix (p q : List (List UInt8)) : 0 ≤ cmpL (p ++ q) p := by
  induction p with
  | nil => cases q <;> simp [cmpL]
  | cons a r ih =>
    rw [List.cons_append, cmpL, if_pos ((cmpS_zero a a).mpr rfl)]
    exact ih

theorem down_inj {a b : List UInt8} (ha : chk a = 0) (hb : chk b = 0) : down a = down b ↔ low a = low b := by
  refine ⟨fun h => ?_, fun h => by unfold down; rw [h]⟩
  have h1 : labs (low a) = labs (low b) := by have := congrArg List.reverse h; simpa [down] using this
  have h2 := chk_wire (n := low a) (by rw [chk_low]; exact ha)
  have h3 := chk_wire (n := low b) (by rw [chk_low]; exact hb)
  rw [h2, h3, h1]

theorem ncmp_cases (a b : List UInt8) : ncmp a b = -1 ∨ ncmp a b = 0 ∨ ncmp a b = 1 := by
  unfold ncmp
  split
  · exact cmpL_cases _ _
  · simp

theorem ncmp_anti (a b : List UInt8) : ncmp b a = - ncmp a b := by
  unfold ncmp
  by_cases h : chk a = 0 ∧ chk b = 0
  · rw [if_pos h, if_pos ⟨h.2, h.1⟩]; exact cmpL_anti _ _
  · rw [if_neg h, if_neg (fun e => h ⟨e.2, e.1⟩)]; rfl

theorem ncmp_zero {a b : List UInt8} (ha : chk a = 0) (hb : chk b = 0) : ncmp a b = 0 ↔ low a = low b := by
  unfold ncmp
  rw [if_pos ⟨ha, hb⟩, cmpL_zero, down_inj ha hb]

theorem ncmp_trans {a b c : List UInt8} (ha : chk a = 0) (hb : chk b = 0) (hc : chk c = 0) (h1 : ncmp a b ≤ 0) (h2 : ncmp b c ≤ 0) : ncmp a c ≤ 0 := by
  unfold ncmp at *
  rw [if_pos ⟨ha, hb⟩] at h1
  rw [if_pos ⟨hb, hc⟩] at h2
  rw [if_pos ⟨ha, hc⟩]
  exact cmpL_trans _ _ _ h1 h2

theorem wthn_same {a b : List UInt8} (ha : chk a = 0) (hb : chk b = 0) (h : low a = low b) (c : List UInt8) : wthn a c = wthn b c ∧ wthn c a = wthn c b := by
  unfold wthn down
  rw [ha, hb, h]
  exact ⟨rfl, rfl⟩

theorem wthn_iff {n z : List UInt8} (hn : chk n = 0) (hz : chk z = 0) : wthn n z = true ↔ ∃ q, down n = down z ++ q := by
  unfold wthn
  rw [decide_eq_true_eq]
  refine ⟨fun h => ⟨(down n).drop (down z).length, ?_⟩, fun ⟨q, hq⟩ => ⟨hn, hz, by rw [hq]; simp⟩⟩
  conv => lhs; rw [← List.take_append_drop (down z).length (down n), h.2.2]

theorem wthn_self {n : List UInt8} (hn : chk n = 0) : wthn n n = true := (wthn_iff hn hn).2 ⟨[], by simp⟩
theorem wthn_trans {a b c : List UInt8} (h1 : wthn a b = true) (h2 : wthn b c = true) : wthn a c = true := by
  have hh1 := h1
  have hh2 := h2
  unfold wthn at hh1 hh2
  rw [decide_eq_true_eq] at hh1 hh2
  obtain ⟨q, hq⟩ := (wthn_iff hh1.1 hh1.2.1).1 h1
  obtain ⟨r, hr⟩ := (wthn_iff hh2.1 hh2.2.1).1 h2
  exact (wthn_iff hh1.1 hh2.2.1).2 ⟨r ++ q, by rw [hq, hr, List.append_assoc]⟩
theorem chk_root : chk [0] = 0 := shorts_chk (l := []) (by decide)
theorem down_root : down [0] = [] := (shorts_down (l := []) (by decide)).trans rfl
theorem wthn_root {n : List UInt8} (hn : chk n = 0) : wthn n [0] = true := (wthn_iff hn chk_root).2 ⟨down n, by rw [down_root]; rfl⟩
theorem wthn_ncmp {n z : List UInt8} (h : wthn n z = true) : 0 ≤ ncmp n z := by
  have hh := h
  unfold wthn at hh
  rw [decide_eq_true_eq] at hh
  obtain ⟨q, hq⟩ := (wthn_iff hh.1 hh.2.1).1 h
  unfold ncmp
  rw [if_pos ⟨hh.1, hh.2.1⟩, hq]
  exact cmpL_prefix _ _

/-- A name's parent. -/
theorem par_facts {n : List UInt8} (hn : chk n = 0) (hp : hasP n = true) : ∃ k, cnt n = k + 1 ∧ cnt (par n) = k ∧ chk (par n) = 0 ∧ wthn n (par n) = true ∧ wthn (par n) n = false := by
  have h0 : n ≠ [0] := by unfold hasP at hp; rw [decide_eq_true_eq] at hp; exact hp.2
  obtain ⟨x, r, hl, hpar, _, _, _⟩ := par_eq n hn h0
  obtain ⟨hs, hw⟩ := shorts_of hn
  have hsr : Shorts r := by
    rw [hl] at hs
    refine ⟨fun y hy => hs.1 y (by simp [hy]), ?_⟩
    have := hs.2
    simp only [wire, List.cons_append, List.length_cons, List.length_append] at this
    omega
  have hcp : chk (par n) = 0 := by rw [hpar]; exact shorts_chk hsr
  have hdn : down n = down (par n) ++ [low x] := by rw [down_eq, hl, hpar, shorts_down hsr]; simp
  refine ⟨r.length, ?_, ?_, hcp, (wthn_iff hn hcp).2 ⟨_, hdn⟩, ?_⟩
  · unfold cnt; rw [if_pos hn, hl]; rfl
  · unfold cnt; rw [if_pos hcp, hpar, shorts_labs hsr]
  · cases h : wthn (par n) n with
    | false => rfl
    | true =>
      obtain ⟨q, hq⟩ := (wthn_iff hcp hn).1 h
      rw [hdn] at hq
      have := congrArg List.length hq
      simp at this

theorem no_par {n : List UInt8} (hn : chk n = 0) (hp : hasP n = false) : cnt n = 0 := by
  have h0 : n = [0] := by
    unfold hasP at hp
    rw [decide_eq_false_iff_not] at hp
    exact Classical.byContradiction fun h => hp ⟨hn, h⟩
  unfold cnt
  rw [if_pos hn, (labs_root n hn).2 h0]
  rfl
end Go.Proofs.Ytibaeklpgfadpaa
