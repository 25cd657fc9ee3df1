/-
  slices.Equal, cmp.Compare, slices.Compare at texts.
-/
import Derived.Test.YtibaeklpgfadpaaTq
namespace Go.Proofs.Ytibaeklpgfadpaa
open Go.RowKit Go.Shelf
set_option linter.unusedVariables false
set_option linter.unusedSimpArgs false

theorem equalT_any {w : World} {lo hi lo' hi' : Nat} {v v' : Value} {l l' : List (List UInt8)} (h : St w lo hi v l) (h' : St w lo' hi' v' l') (hl : l.length ≤ 1000000) (hl' : l'.length ≤ 1000000) :
    Calls Try.prog 42 #[v, v'] w (SamePost w (decide (l = l'))) := by
  obtain ⟨a, c, rfl, hc, hn, hp⟩ := id h
  obtain ⟨a', c', rfl, hc', hn', hp'⟩ := id h'
  by_cases hlen : l.length = l'.length
  · by_cases h0 : l.length = 0
    · have e1 : l = [] := List.eq_nil_of_length_eq_zero h0
      have e2 : l' = [] := List.eq_nil_of_length_eq_zero (by omega)
      subst e1; subst e2
      refine (Try.slices_Equal_string_empty a a' c 0 c' w (by omega)).mono ?_
      rintro e w' ⟨rfl, rfl⟩
      exact ⟨by simp, Drawn.refl _⟩
    · obtain ⟨b, off, rfl, _, _, hx⟩ := hp (by omega)
      obtain ⟨b', off', rfl, _, _, hx'⟩ := hp' (by omega)
      have g : ∀ (l : List (List UInt8)) j, (l.map bs).getD j ByteArray.empty = bs (l.getD j []) := fun l j => by
        rw [List.getD, List.getD, List.getElem?_map]
        cases l[j]? <;> rfl
      refine (Try.slices_Equal_string b off l.length c b' off' l'.length c' (l.map bs) (l'.map bs) w (by simp) (by simp) (by omega) (by omega) (fun j hj => by rw [g]; exact hx j (by simpa using hj)) (fun j hj => by rw [g]; exact hx' j (by simpa using hj))).mono ?_
      rintro e w' ⟨rfl, q, rfl⟩
      refine ⟨?_, q, rfl⟩
      congr 2
      rw [List.take_of_length_le (by simp), List.take_of_length_le (by simp)]
      have : (l.map bs = l'.map bs) ↔ l = l' := ⟨fun e => by
        have := congrArg (List.map fun s : ByteArray => s.data.toList) e
        simpa [List.map_map, Function.comp_def, bs] using this, fun e => by rw [e]⟩
      simp [this]
  · refine (Try.slices_Equal_string_lens a a' l.length c l'.length c' w hlen).mono ?_
    rintro e w' ⟨rfl, rfl⟩
    refine ⟨?_, Drawn.refl _⟩
    rw [decide_eq_false (fun e => hlen (by rw [e]))]

/-! ### the order of texts -/
/-- Which of two lists of bytes is ahead: -1, 0, 1. -/
def cmpS : List UInt8 → List UInt8 → Int
  | [], [] => 0
  | [], _ :: _ => -1
  | _ :: _, [] => 1
  | a :: x, b :: y => if a.toNat < b.toNat then -1 else if b.toNat < a.toNat then 1 else cmpS x y

theorem cmpS_less (x y : List UInt8) : Op.bytesLess x y = decide (cmpS x y = -1) := by
  induction x generalizing y with
  | nil => cases y <;> simp [Op.bytesLess, cmpS]
  | cons a r ih =>
    cases y with
    | nil => simp [Op.bytesLess, cmpS]
    | cons b s =>
      rw [Op.bytesLess, cmpS]
      have h1 : (a < b) = (a.toNat < b.toNat) := propext UInt8.lt_iff_toNat_lt
      have h2 : (a == b) = decide (a.toNat = b.toNat) := by
        rw [Bool.eq_iff_iff]; simp [UInt8.toNat_inj]
      rw [h2, ih s]
      by_cases e1 : a.toNat < b.toNat
      · simp [h1, e1]
      · by_cases e2 : b.toNat < a.toNat
        · have : ¬ a.toNat = b.toNat := by omega
          simp [h1, e1, this, e2]
        · have : a.toNat = b.toNat := by omega
          simp [h1, this]

theorem cmpS_cases (x y : List UInt8) : cmpS x y = -1 ∨ cmpS x y = 0 ∨ cmpS x y = 1 := by
  induction x generalizing y with
  | nil => cases y <;> simp [cmpS]
  | cons a r ih =>
    cases y with
    | nil => simp [cmpS]
    | cons b s =>
      rw [cmpS]
      split
      · simp
      · split
        · simp
        · exact ih s

theorem cmpS_zero (x y : List UInt8) : cmpS x y = 0 ↔ x = y := by
  induction x generalizing y with
  | nil => cases y <;> simp [cmpS]
  | cons a r ih =>
    cases y with
    | nil => simp [cmpS]
    | cons b s =>
      rw [cmpS]
      split
      · constructor
        · intro h; simp at h
        · intro h; injection h with h1 h2; subst h1; omega
      · split
        · constructor
          · intro h; simp at h
          · intro h; injection h with h1 h2; subst h1; omega
        · rw [ih s]
          have : a = b := UInt8.toNat_inj.mp (by omega)
          simp [this]

theorem cmpS_anti (x y : List UInt8) : cmpS y x = - cmpS x y := by
  induction x generalizing y with
  | nil => cases y <;> simp [cmpS]
  | cons a r ih =>
    cases y with
    | nil => simp [cmpS]
    | cons b s =>
      rw [cmpS, cmpS]
      by_cases h1 : a.toNat < b.toNat
      · have h2 : ¬ b.toNat < a.toNat := by omega
        simp [h1, h2]
      · by_cases h2 : b.toNat < a.toNat
        · simp [h1, h2]
        · simp [h1, h2, ih s]

theorem cmpS_trans (x y z : List UInt8) (h1 : cmpS x y ≤ 0) (h2 : cmpS y z ≤ 0) : cmpS x z ≤ 0 ∧ (cmpS x z = 0 → cmpS x y = 0 ∧ cmpS y z = 0) := by
  induction x generalizing y z with
  | nil =>
    cases z with
    | nil =>
      cases y with
      | nil => simp [cmpS]
      | cons b s => simp [cmpS] at h2
    | cons c t => simp [cmpS]
  | cons a r ih =>
    cases y with
    | nil => simp [cmpS] at h1
    | cons b s =>
      cases z with
      | nil => simp [cmpS] at h2
      | cons c t =>
        rw [cmpS] at h1 h2
        simp only [cmpS]
        by_cases e1 : a.toNat < b.toNat
        · have : a.toNat < c.toNat := by
            by_cases e2 : b.toNat < c.toNat
            · omega
            · by_cases e3 : c.toNat < b.toNat
              · rw [if_neg e2, if_pos e3] at h2; omega
              · omega
          simp [this]
        · by_cases e2 : b.toNat < a.toNat
          · rw [if_neg e1, if_pos e2] at h1; omega
          · rw [if_neg e1, if_neg e2] at h1
            by_cases e3 : b.toNat < c.toNat
            · have : a.toNat < c.toNat := by omega
              simp [this]
            · by_cases e4 : c.toNat < b.toNat
              · rw [if_neg e3, if_pos e4] at h2; omega
              · rw [if_neg e3, if_neg e4] at h2
                have f1 : ¬ a.toNat < c.toNat := by omega
                have f2 : ¬ c.toNat < a.toNat := by omega
                obtain ⟨i1, i2⟩ := ih s t h1 h2
                simp only [e1, e2, e3, e4, f1, f2, if_false]
                exact ⟨i1, i2⟩

/-- Lists of texts. -/
def cmpL : List (List UInt8) → List (List UInt8) → Int
  | [], [] => 0
  | [], _ :: _ => -1
  | _ :: _, [] => 1
  | a :: x, b :: y => if cmpS a b = 0 then cmpL x y else cmpS a b

set_option maxHeartbeats 400000 in
theorem isNaN_any (x : List UInt8) (w : World) : Calls Try.prog 63 #[.string (bs x)] w fun e w' => e = .returned (.bool false) ∧ w = w' := by
  have h := bs_eq x x
  rw [decide_eq_true rfl] at h
  go_enter Try.func63, Try.ntmps63
  go_wp2
  go_ret
  exact ⟨rfl, rfl⟩

set_option maxHeartbeats 400000 in
theorem cmpS_any (x y : List UInt8) (w : World) : Calls Try.prog 55 #[.string (bs x), .string (bs y)] w fun e w' => e = .returned (.int .i64 (cmpS x y)) ∧ w = w' := by
  have h1 : Op.bytesLess (bs x).toList (bs y).toList = decide (cmpS x y = -1) := by rw [bs_toList, bs_toList]; exact cmpS_less x y
  have h2 : ((bs x).toList == (bs y).toList) = decide (cmpS x y = 0) := by
    rw [bs_eq]; by_cases h : x = y
    · rw [decide_eq_true h, decide_eq_true ((cmpS_zero x y).2 h)]
    · rw [decide_eq_false h, decide_eq_false (fun e => h ((cmpS_zero x y).1 e))]
  have h3 := cmpS_cases x y
  obtain ⟨c, hc⟩ : ∃ c, cmpS x y = c := ⟨_, rfl⟩
  rw [hc] at h1 h2 h3 ⊢
  clear hc
  rcases h3 with rfl | rfl | rfl
  · have h1' : Op.bytesLess (bs x).toList (bs y).toList = true := by rw [h1]; rfl
    clear h1 h2
    go_enter Try.func55, Try.ntmps55
    go_wp2_with fail
    refine (isNaN_any _ _).mono ?_; rintro e w1 ⟨rfl, rfl⟩
    go_wp2_with fail
    refine (isNaN_any _ _).mono ?_; rintro e w1 ⟨rfl, rfl⟩
    go_wp2_with fail
    go_ret
    exact ⟨rfl, rfl⟩
  · have h1' : Op.bytesLess (bs x).toList (bs y).toList = false := by rw [h1]; rfl
    have h2' : ((bs x).toList == (bs y).toList) = true := by rw [h2]; rfl
    clear h1 h2
    go_enter Try.func55, Try.ntmps55
    go_wp2_with fail
    refine (isNaN_any _ _).mono ?_; rintro e w1 ⟨rfl, rfl⟩
    go_wp2_with fail
    refine (isNaN_any _ _).mono ?_; rintro e w1 ⟨rfl, rfl⟩
    go_wp2_with fail
    go_ret
    exact ⟨rfl, rfl⟩
  · have h1' : Op.bytesLess (bs x).toList (bs y).toList = false := by rw [h1]; rfl
    have h2' : ((bs x).toList == (bs y).toList) = false := by rw [h2]; rfl
    clear h1 h2
    go_enter Try.func55, Try.ntmps55
    go_wp2_with fail
    refine (isNaN_any _ _).mono ?_; rintro e w1 ⟨rfl, rfl⟩
    go_wp2_with fail
    refine (isNaN_any _ _).mono ?_; rintro e w1 ⟨rfl, rfl⟩
    go_wp2_with fail
    go_ret
    exact ⟨rfl, rfl⟩

theorem cmpL_end (l : List (List UInt8)) : cmpL [] l = if 0 < l.length then -1 else 0 := by cases l <;> simp [cmpL]

set_option maxHeartbeats 1000000 in
theorem cmpL_any {w : World} {lo hi lo' hi' : Nat} {v v' : Value} {l l' : List (List UInt8)} (h : St w lo hi v l) (h' : St w lo' hi' v' l') (hl : l.length ≤ 1000000) (hl' : l'.length ≤ 1000000) :
    Calls Try.prog 43 #[v, v'] w fun e w' => e = .returned (.int .i64 (cmpL l l')) ∧ w = w' := by
  obtain ⟨a, c, rfl, hc, hn, hp⟩ := id h
  obtain ⟨a', c', rfl, hc', hn', hp'⟩ := id h'
  have HS := Lib.hid h
  have HS' := Lib.hid h'
  clear h h' hn hp hn' hp' hc hc'
  go_enter Try.func43, Try.ntmps43
  go_wp2
  go_loop [11] (fun i => ∃ k : Nat, k ≤ l.length ∧ i = .int .i64 k ∧ Hid (cmpL l l' = cmpL (l.drop k) (l'.drop k) ∧ k ≤ l'.length)) (fun i => l.length - (intOf i).toNat)
  case atStart => exact ⟨0, by omega, rfl, by simp [Hid]⟩
  case round =>
    obtain ⟨k, hk, rfl, HL⟩ := hrel
    have hk' := HL.out.2
    by_cases hlt : k < l.length
    · obtain ⟨b, off, rfl, hb1, hb2, hcell⟩ := HS.out.cell (by omega)
      have hc1 := hcell k hlt
      have e1 : l.drop k = l[k] :: l.drop (k + 1) := List.drop_eq_getElem_cons hlt
      have e : l.getD k [] = l[k] := by rw [List.getD, List.getElem?_eq_getElem hlt]; rfl
      rw [e] at hc1
      obtain ⟨y, hy⟩ : ∃ y, l[k] = y := ⟨_, rfl⟩
      rw [hy] at hc1 e1
      clear hcell e hy
      unfold tv at hc1
      by_cases hlt' : k < l'.length
      · obtain ⟨b', off', rfl, hb1', hb2', hcell'⟩ := HS'.out.cell (by omega)
        have hc2 := hcell' k hlt'
        have e1' : l'.drop k = l'[k] :: l'.drop (k + 1) := List.drop_eq_getElem_cons hlt'
        have e' : l'.getD k [] = l'[k] := by rw [List.getD, List.getElem?_eq_getElem hlt']; rfl
        rw [e'] at hc2
        obtain ⟨y', hy'⟩ : ∃ y, l'[k] = y := ⟨_, rfl⟩
        rw [hy'] at hc2 e1'
        clear hcell' e' hy'
        unfold tv at hc2
        have hcm := HL.out.1
        rw [e1, e1', cmpL] at hcm
        have HC := Lib.hid (cmpS_any y y')
        have t0 : decide (l'.length ≤ k) = false := by simp; omega
        by_cases h0 : cmpS y y' = 0
        · rw [h0] at HC
          rw [if_pos h0] at hcm
          have HE := Lib.hid (show cmpL l l' = cmpL (l.drop (k + 1)) (l'.drop (k + 1)) ∧ k + 1 ≤ l'.length from ⟨hcm, hlt'⟩)
          clear hcm e1 e1' h0
          go_wp2_with fail
          refine (HC.out _).mono ?_; rintro e w1 ⟨rfl, rfl⟩
          go_wp2_with fail
          go_round
          case rel => exact ⟨k + 1, by omega, by go_num, HE⟩
          case measure => simp [intOf]; omega
        · rw [if_neg h0] at hcm
          obtain ⟨d, hd⟩ : ∃ d, cmpS y y' = d := ⟨_, rfl⟩
          rw [hd] at HC hcm h0
          have HE := Lib.hid hcm
          have t1 : (d != 0) = true := by simpa using h0
          clear hcm e1 e1' h0 hd
          go_wp2_with fail
          refine (HC.out _).mono ?_; rintro e w1 ⟨rfl, rfl⟩
          go_wp2_with fail
          go_ret
          exact ⟨by rw [HE.out]; rfl, rfl⟩
      · have t0 : decide (l'.length ≤ k) = true := by simp; omega
        have hcm := HL.out.1
        rw [e1, List.drop_eq_nil_of_le (show l'.length ≤ k by omega), cmpL] at hcm
        have HE := Lib.hid hcm
        clear hcm e1
        go_wp2_with fail
        go_ret
        exact ⟨by rw [HE.out]; rfl, rfl⟩
    · obtain rfl : k = l.length := by omega
      have hcm := HL.out.1
      rw [List.drop_eq_nil_of_le (Nat.le_refl _), cmpL_end, List.length_drop] at hcm
      by_cases hll : l.length < l'.length
      · have t0 : decide (l.length < l'.length) = true := by simp; omega
        rw [if_pos (by omega)] at hcm
        have HE := Lib.hid hcm
        clear hcm
        go_wp2_with fail
        go_ret
        exact ⟨by rw [HE.out]; rfl, rfl⟩
      · have t0 : decide (l.length < l'.length) = false := by simp; omega
        rw [if_neg (by omega)] at hcm
        have HE := Lib.hid hcm
        clear hcm
        go_wp2_with fail
        go_ret
        exact ⟨by rw [HE.out]; rfl, rfl⟩
end Go.Proofs.Ytibaeklpgfadpaa
