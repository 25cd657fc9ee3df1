/-
  The document's Within and Compare.
-/
import Derived.Test.YtibaeklpgfadpaaTs
namespace Go.Proofs.Ytibaeklpgfadpaa
open Go.RowKit Go.Shelf
set_option linter.unusedVariables false
set_option linter.unusedSimpArgs false

theorem lw_le {c : UInt8} (h : c.toNat ≤ 63) : lw c = c := lw_as (by omega)
theorem lw_big {c : UInt8} (h : 63 < c.toNat) : 63 < (lw c).toNat := by
  by_cases hu : 65 ≤ c.toNat ∧ c.toNat ≤ 90
  · rw [lw_up hu]; omega
  · rw [lw_as hu]; exact h

theorem labs_low (n : List UInt8) : labs (low n) = (labs n).map low ∧ left (low n) = low (left n) := by
  induction n using labs.induct with
  | case1 => simp [low, labs, left]
  | case2 c r h =>
    have e : low (c :: r) = lw c :: low r := rfl
    have h' : (lw c).toNat = 0 ∨ 63 < (lw c).toNat ∨ (low r).length < (lw c).toNat := by
      rcases h with h | h | h
      · left; rw [lw_le (by omega)]; exact h
      · right; left; exact lw_big h
      · by_cases h63 : 63 < c.toNat
        · right; left; exact lw_big h63
        · right; right; rw [lw_le (by omega), low_len]; exact h
    rw [e, labs, left, if_pos h', if_pos h', labs, left, if_pos h, if_pos h]
    exact ⟨rfl, rfl⟩
  | case3 c r h ih =>
    have e : low (c :: r) = lw c :: low r := rfl
    have hc : lw c = c := lw_le (by omega)
    have h' : ¬ (c.toNat = 0 ∨ 63 < c.toNat ∨ (low r).length < c.toNat) := by rw [low_len]; exact h
    have ed : (low r).drop c.toNat = low (r.drop c.toNat) := by simp [low]
    have et : (low r).take c.toNat = low (r.take c.toNat) := by simp [low]
    rw [e, hc, labs, left, if_neg h', if_neg h', labs, left, if_neg h, if_neg h, ed, et, ih.1, ih.2]
    exact ⟨rfl, rfl⟩

theorem lw_zero {c : UInt8} : lw c = 0 ↔ c = 0 := by
  constructor
  · intro h
    by_cases hu : 65 ≤ c.toNat ∧ c.toNat ≤ 90
    · have := lw_up hu
      rw [h] at this
      simp at this
    · rwa [lw_as hu] at h
  · intro h; rw [h]; rfl

theorem low_root (l : List UInt8) : low l = [0] ↔ l = [0] := by
  constructor
  · intro h
    cases l with
    | nil => simp [low] at h
    | cons c r =>
      simp only [low, List.map_cons] at h
      injection h with h1 h2
      have h3 : r = [] := by simpa using h2
      rw [lw_zero.1 h1, h3]
  · intro h; rw [h]; rfl

theorem chk_low (n : List UInt8) : chk (low n) = chk n := by
  unfold chk
  rw [low_len, (labs_low n).2]
  by_cases h : left n = [0]
  · rw [if_pos h, if_pos ((low_root _).2 h)]
  · rw [if_neg h, if_neg (fun e => h ((low_root _).1 e))]

theorem lbs_low (n : List UInt8) : lbs (low n) = (lbs n).map low := by
  unfold lbs
  rw [chk_low, (labs_low n).1]
  split <;> rfl

theorem low_wire (l : List (List UInt8)) (h : ∀ x ∈ l, 0 < x.length ∧ x.length ≤ 63) : low (wire l ++ [0]) = wire (l.map low) ++ [0] := by
  induction l with
  | nil => rfl
  | cons x r ih =>
    have hx := h x (by simp)
    have h8 : (UInt8.ofNat x.length).toNat = x.length := by rw [UInt8.toNat_ofNat']; omega
    have i := ih fun y hy => h y (List.mem_cons_of_mem _ hy)
    have e1 : wire (x :: r) ++ [0] = UInt8.ofNat x.length :: (x ++ (wire r ++ [0])) := by simp [wire]
    have e2 : wire ((x :: r).map low) ++ [0] = UInt8.ofNat x.length :: (low x ++ (wire (r.map low) ++ [0])) := by simp [wire, low_len]
    rw [e1, e2, ← i]
    unfold low
    rw [List.map_cons, lw_le (by omega), List.map_append]

theorem low_short {l : List (List UInt8)} (h : ∀ x ∈ l, 0 < x.length ∧ x.length ≤ 63) : ∀ x ∈ l.map low, 0 < x.length ∧ x.length ≤ 63 := by
  intro x hx
  obtain ⟨y, hy, rfl⟩ := List.mem_map.mp hx
  rw [low_len]
  exact h y hy

theorem wire_inj {a b : List (List UInt8)} (ha : ∀ x ∈ a, 0 < x.length ∧ x.length ≤ 63) (hb : ∀ x ∈ b, 0 < x.length ∧ x.length ≤ 63) (h : wire a ++ [0] = wire b ++ [0]) : a = b := by
  have := congrArg labs h
  rwa [(labs_wire a ha).1, (labs_wire b hb).1] at this

theorem down_eq (n : List UInt8) : down n = ((labs n).map low).reverse := by unfold down; rw [(labs_low n).1]

theorem wire_drop_le (l : List (List UInt8)) (k : Nat) : (wire (l.drop k)).length ≤ (wire l).length := by
  have h2 : wire (l.take k) ++ wire (l.drop k) = wire l := by rw [← wire_app, List.take_append_drop]
  have h3 := congrArg List.length h2
  rw [List.length_append] at h3
  omega

theorem chk_wire_len {n : List UInt8} (h : chk n = 0) : (wire (labs n)).length ≤ 254 := by
  have h1 := congrArg List.length (chk_wire h)
  have h2 := (chk_ok h).2
  simp at h1
  omega

/-- The document's way to say that a name is in a zone. -/
theorem wthn_tail (a b : List UInt8) (ha : chk a = 0) (hb : chk b = 0) (hl : (labs b).length ≤ (labs a).length) :
    wthn a b = decide (low (jname ((labs a).drop ((labs a).length - (labs b).length))) = low b) := by
  have hsa := labs_short a
  have hsb := labs_short b
  have hsd : ∀ x ∈ (labs a).drop ((labs a).length - (labs b).length), 0 < x.length ∧ x.length ≤ 63 := fun x hx => hsa x (List.mem_of_mem_drop hx)
  have hj := (jname_short _ hsd (Nat.le_trans (wire_drop_le _ _) (chk_wire_len ha))).1
  have hbw : low b = wire ((labs b).map low) ++ [0] := by
    have := chk_wire hb
    conv => lhs; rw [this]
    exact low_wire _ hsb
  rw [hj, low_wire _ hsd, hbw]
  unfold wthn
  have e : ((down a).take (down b).length = down b) ↔ (wire (((labs a).drop ((labs a).length - (labs b).length)).map low) ++ [0] = wire ((labs b).map low) ++ [0]) := by
    have hl2 : (down b).length = (labs b).length := by rw [down_eq]; simp
    rw [hl2, down_eq, down_eq, List.take_reverse]
    rw [List.length_map]
    constructor
    · intro h
      have := List.reverse_inj.mp h
      rw [List.map_drop, this]
    · intro h
      have := wire_inj (low_short hsd) (low_short hsb) h
      rw [List.map_drop] at this
      rw [this]
  by_cases h : (down a).take (down b).length = down b
  · rw [decide_eq_true ⟨ha, hb, h⟩, decide_eq_true (e.1 h)]
  · rw [decide_eq_false (fun x => h x.2.2), decide_eq_false (fun x => h (e.2 x))]

theorem wthn_long (a b : List UInt8) (hl : (labs a).length < (labs b).length) : wthn a b = false := by
  unfold wthn
  apply decide_eq_false
  rintro ⟨_, _, h⟩
  have := congrArg List.length h
  rw [down_eq, down_eq] at this
  simp at this
  omega

set_option maxHeartbeats 2000000 in
theorem rwithin_any (a b : List UInt8) (ha : a.length ≤ 900000) (hb : b.length ≤ 900000) (w : World) : Calls Try.prog 29 #[.string (bs a), .string (bs b)] w (Tells w (.bool (wthn a b))) := by
  obtain ⟨ca, hca⟩ : ∃ c, chk a = c := ⟨_, rfl⟩
  obtain ⟨cb, hcb⟩ : ∃ c, chk b = c := ⟨_, rfl⟩
  obtain ⟨A, hA⟩ : ∃ A, lbs a = A := ⟨_, rfl⟩
  obtain ⟨B, hB⟩ : ∃ B, lbs b = B := ⟨_, rfl⟩
  have HLa := Lib.hid (rlabels_c ha hca hA)
  have HLb := Lib.hid (rlabels_c hb hcb hB)
  have HLW := Lib.hid (fun w => rlower_any b (by omega) w)
  by_cases h1 : ca = 0
  · subst h1
    by_cases h2 : cb = 0
    · subst h2
      have hA' : labs a = A := by rw [← hA, lbs, if_pos hca]
      have hB' : labs b = B := by rw [← hB, lbs, if_pos hcb]
      have hlA : A.length ≤ 900000 := by rw [← hA']; have := labs_len a; omega
      by_cases hlen : B.length ≤ A.length
      · have e : wthn a b = decide (low (jname (A.drop (A.length - B.length))) = low b) := by
          rw [wthn_tail a b hca hcb (by rw [hA', hB']; exact hlen), hA', hB']
        have hwl : (wire (A.drop (A.length - B.length))).length ≤ 900000 := by
          have h1 := wire_drop_le A (A.length - B.length)
          have h2 := chk_wire_len hca
          rw [hA'] at h2
          omega
        obtain ⟨T, hT⟩ : ∃ T, jname (A.drop (A.length - B.length)) = T := ⟨_, rfl⟩
        have hTl : T.length ≤ 1000000 := by rw [← hT]; unfold jname; split <;> simp; omega
        have HJ := Lib.hid (fun (v : Value) (w : World) (lo hi : Nat) (hst : St w lo hi v (A.drop (A.length - B.length))) => rjoin_any _ v w hst hwl)
        rw [hT] at HJ e
        have hq := bs_eq (low T) (low b)
        rw [e]
        obtain ⟨r, hr⟩ : ∃ r, decide (low T = low b) = r := ⟨_, rfl⟩
        rw [hr] at hq ⊢
        have HLT := Lib.hid (fun w => rlower_any T hTl w)
        have t1 : decide ((A.length : Int) < B.length) = false := by simp; omega
        have hk : ((A.length - B.length : Nat) : Int) = (A.length : Int) - B.length := by omega
        have HK := Lib.hid hk
        have HLEN := Lib.hid hlen
        clear hA' hB' hT hTl hwl e hr hca hcb hA hB hk
        go_enter Try.func29, Try.ntmps29
        go_wp2_with fail
        refine (HLa.out _).mono ?_; rintro e w1 ⟨v1, rfl, ho, hb1⟩; have HBw1 := Lib.hid hb1; have HOw1 := Lib.hid ho; clear hb1 ho
        go_wp2_with fail
        refine (HLb.out _).mono ?_; rintro e w2 ⟨v2, rfl, ho, hb1⟩; have HBw2 := Lib.hid hb1; have HOw2 := Lib.hid ho; clear hb1 ho
        obtain ⟨a1, c1, rfl⟩ := HOw1.out.shape
        obtain ⟨a2, c2, rfl⟩ := HOw2.out.shape
        obtain ⟨sv, hsl, hst⟩ := st_from (p := A.length - B.length) (HOw1.out.below HBw2.out).st (by omega)
        rw [HK.out] at hsl
        have HST := Lib.hid hst
        clear hst
        go_wp2_with fail
        refine (HJ.out _ _ _ _ HST.out).mono ?_; rintro e w3 ⟨rfl, hb1⟩; have HBw3 := Lib.hid hb1; clear hb1
        go_wp2_with fail
        refine (HLT.out _).mono ?_; rintro e w4 ⟨rfl, hb1⟩; have HBw4 := Lib.hid hb1; clear hb1
        go_wp2_with fail
        refine (HLW.out _).mono ?_; rintro e w5 ⟨rfl, hb1⟩; have HBw5 := Lib.hid hb1; clear hb1
        go_wp2_with fail
        go_ret
        exact ⟨rfl, (bel_call (bel_call (bel_call (bel_call HBw1.out HBw2.out) HBw3.out) HBw4.out) HBw5.out)⟩
      · have e : wthn a b = false := wthn_long a b (by rw [hA', hB']; omega)
        rw [e]
        have t1 : decide ((A.length : Int) < B.length) = true := by simp; omega
        clear hA' hB' e hca hcb hA hB
        go_enter Try.func29, Try.ntmps29
        go_wp2_with fail
        refine (HLa.out _).mono ?_; rintro e w1 ⟨v1, rfl, ho, hb1⟩; have HBw1 := Lib.hid hb1; have HOw1 := Lib.hid ho; clear hb1 ho
        go_wp2_with fail
        refine (HLb.out _).mono ?_; rintro e w2 ⟨v2, rfl, ho, hb1⟩; have HBw2 := Lib.hid hb1; have HOw2 := Lib.hid ho; clear hb1 ho
        obtain ⟨a1, c1, rfl⟩ := HOw1.out.shape
        obtain ⟨a2, c2, rfl⟩ := HOw2.out.shape
        go_wp2_with fail
        go_ret
        exact ⟨rfl, (bel_call HBw1.out HBw2.out)⟩
    · have e : wthn a b = false := by unfold wthn; simp [hcb, h2]
      rw [e]
      have t2 : (cb != 0) = true := by simpa using h2
      clear e hca hcb hA hB h2
      go_enter Try.func29, Try.ntmps29
      go_wp2_with fail
      refine (HLa.out _).mono ?_; rintro e w1 ⟨v1, rfl, ho, hb1⟩; have HBw1 := Lib.hid hb1; have HOw1 := Lib.hid ho; clear hb1 ho
      go_wp2_with fail
      refine (HLb.out _).mono ?_; rintro e w2 ⟨v2, rfl, ho, hb1⟩; have HBw2 := Lib.hid hb1; have HOw2 := Lib.hid ho; clear hb1 ho
      go_wp2_with fail
      go_ret
      exact ⟨rfl, (bel_call HBw1.out HBw2.out)⟩
  · have e : wthn a b = false := by unfold wthn; simp [hca, h1]
    rw [e]
    have t2 : (ca != 0) = true := by simpa using h1
    clear e hca hcb hA hB h1
    go_enter Try.func29, Try.ntmps29
    go_wp2_with fail
    refine (HLa.out _).mono ?_; rintro e w1 ⟨v1, rfl, ho, hb1⟩; have HBw1 := Lib.hid hb1; have HOw1 := Lib.hid ho; clear hb1 ho
    go_wp2_with fail
    refine (HLb.out _).mono ?_; rintro e w2 ⟨v2, rfl, ho, hb1⟩; have HBw2 := Lib.hid hb1; have HOw2 := Lib.hid ho; clear hb1 ho
    go_wp2_with fail
    go_ret
    exact ⟨rfl, (bel_call HBw1.out HBw2.out)⟩
end Go.Proofs.Ytibaeklpgfadpaa
