/-
  The statement about texts and back.
-/
import Derived.Test.YtibaeklpgfadpaaWd
import Derived.Test.YtibaeklpgfadpaaVd
namespace Go.Proofs.Ytibaeklpgfadpaa
open Go.RowKit Go.Shelf
set_option linter.unusedVariables false
set_option linter.unusedSimpArgs false

theorem tell_keep {f : Nat} {args : Array Value} {v : Value} {w0 w : World} (h : Hid (Below w0.heap.size w0 w)) (hc : Calls Try.prog f args w (Tells w v)) : Calls Try.prog f args w fun e w' => e = .returned v ∧ Hid (Below w0.heap.size w0 w') ∧ Below w.heap.size w w' :=
  hc.mono fun e w' hp => ⟨hp.1, bel_call h.out hp.2, hp.2⟩

theorem text_any (n : List UInt8) (hn : n.length ≤ 1000000) (w : World) : Calls Try.prog 32 #[.string (bs n)] w (Tells w (.tuple #[.string (bs (txt n)), .int .i64 (chk n)])) := by
  by_cases h : chk n = 0
  · by_cases h0 : n = [0]
    · subst h0
      have e : txt [0] = [46] := by unfold txt; rw [if_pos h, if_pos rfl]
      rw [h, e]
      exact text_root w
    · have e : txt n = tx (labs n) := by unfold txt; rw [if_pos h, if_neg h0]
      rw [h, e]
      exact text_fine n h h0 w
  · have e : txt n = [] := by unfold txt; rw [if_neg h]
    rw [e]
    exact text_wrong n hn h w

theorem parse_is {t m : List UInt8} {e : Int} {a : Nat} (h : prs t = (m, e, a)) (hlen : t.length ≤ 800000) (w : World) : Calls Try.prog 33 #[.string (bs t)] w (Tells w (.tuple #[.string (bs m), .agg #[.int .i64 e, .int .i64 a]])) := by
  refine (parse_any t hlen w).mono ?_
  rintro en w' ⟨h1, h2⟩
  rw [h] at h1
  exact ⟨h1, h2⟩

set_option maxRecDepth 100000 in
set_option maxHeartbeats 4000000 in
theorem back_early (n t : List UInt8) (w : World) (h : 400 < n.length ∨ 1200 < t.length) : Calls Try.prog 5 #[.string (bs n), .string (bs t)] w (Tells w (.bool true)) := by
  have HAW := Lib.hid awake_any
  have HB := Lib.hid (Below.refl w.heap.size w)
  by_cases h1 : 400 < n.length
  · have t1 : decide ((400 : Int) < n.length) = true := by simp; omega
    clear h
    go_enter Try.func5, Try.ntmps5
    go_wp2_with fail
    refine (tell_on HB (HAW.out _)).mono ?_; rintro e w1 ⟨rfl, HB⟩
    go_wp2_with fail
    go_ret
    exact ⟨rfl, HB.out⟩
  · have t1 : decide ((400 : Int) < n.length) = false := by simp; omega
    have t2 : decide ((1200 : Int) < t.length) = true := by simp; omega
    clear h
    go_enter Try.func5, Try.ntmps5
    go_wp2_with fail
    refine (tell_on HB (HAW.out _)).mono ?_; rintro e w1 ⟨rfl, HB⟩
    go_wp2_with fail
    go_ret
    exact ⟨rfl, HB.out⟩

set_option maxRecDepth 100000 in
set_option maxHeartbeats 4000000 in
theorem back_none_bad {n t m : List UInt8} {e2 : Int} {a2 : Nat} (hn : n.length ≤ 400) (ht : t.length ≤ 1200) (hpt : ∀ w, Calls Try.prog 33 #[.string (bs t)] w (Tells w (.tuple #[.string (bs m), .agg #[.int .i64 e2, .int .i64 a2]]))) (he : e2 ≠ 0) (hm : m = []) (ha : a2 ≤ t.length) {c : Int} (hc : ∀ w, Calls Try.prog 16 #[.string (bs n)] w (Tells w (.int .i64 c))) (hc0 : c ≠ 0) (w : World) : Calls Try.prog 5 #[.string (bs n), .string (bs t)] w (Tells w (.bool true)) := by
  have HAW := Lib.hid awake_any
  have HB := Lib.hid (Below.refl w.heap.size w)
  have HPT := Lib.hid hpt
  have t1 : decide ((400 : Int) < n.length) = false := by simp; omega
  have t2 : decide ((1200 : Int) < t.length) = false := by simp; omega
  subst hm
  have t3 : (e2 == 0) = false := by simpa using he
  have t4 : decide ((a2 : Int) ≤ t.length) = true := by simp; omega
  have t5 : decide ((0 : Int) ≤ a2) = true := by simp
  have t6 : (bs []).toList.isEmpty = true := by rw [bs_toList]; rfl
  have t7 : (e2 != 0) = true := by simpa using he
  clear he
  clear hpt hn ht
  have HC := Lib.hid hc
  have t0 : (c == 0) = false := by simpa using hc0
  clear hc hc0
  go_enter Try.func5, Try.ntmps5
  go_wp2_with fail
  refine (tell_on HB (HAW.out _)).mono ?_; rintro e w1 ⟨rfl, HB⟩
  go_wp2_with fail
  refine (tell_on HB (HC.out _)).mono ?_; rintro e w1 ⟨rfl, HB⟩
  go_wp2_with fail
  refine (tell_keep HB (HPT.out _)).mono ?_; rintro e wa ⟨rfl, HB, hka⟩
  replace HB := Lib.hid (HB.out.alloc HB.out.size (.cells #[.int .i64 e2, .int .i64 a2] 43))
  clear hka
  go_wp2_with fail
  go_ret
  exact ⟨rfl, HB.out⟩

set_option maxRecDepth 100000 in
set_option maxHeartbeats 4000000 in
theorem back_none_ok {n t m : List UInt8} {e2 : Int} {a2 : Nat} (hn : n.length ≤ 400) (ht : t.length ≤ 1200) (hpt : ∀ w, Calls Try.prog 33 #[.string (bs t)] w (Tells w (.tuple #[.string (bs m), .agg #[.int .i64 e2, .int .i64 a2]]))) {U : List UInt8} (he : e2 = 0) (htm : ∀ w, Calls Try.prog 32 #[.string (bs m)] w (Tells w (.tuple #[.string (bs U), .int .i64 0]))) (hpu : ∀ w, Calls Try.prog 33 #[.string (bs U)] w (Tells w (.tuple #[.string (bs m), .agg #[.int .i64 0, .int .i64 0]]))) (hcm : ∀ w, Calls Try.prog 16 #[.string (bs m)] w (Tells w (.int .i64 0))) {c : Int} (hc : ∀ w, Calls Try.prog 16 #[.string (bs n)] w (Tells w (.int .i64 c))) (hc0 : c ≠ 0) (w : World) : Calls Try.prog 5 #[.string (bs n), .string (bs t)] w (Tells w (.bool true)) := by
  have HAW := Lib.hid awake_any
  have HB := Lib.hid (Below.refl w.heap.size w)
  have HPT := Lib.hid hpt
  have t1 : decide ((400 : Int) < n.length) = false := by simp; omega
  have t2 : decide ((1200 : Int) < t.length) = false := by simp; omega
  subst he
  have HTM := Lib.hid htm
  have HPU := Lib.hid hpu
  have HCM := Lib.hid hcm
  clear htm hpu hcm
  clear hpt hn ht
  have HC := Lib.hid hc
  have t0 : (c == 0) = false := by simpa using hc0
  clear hc hc0
  go_enter Try.func5, Try.ntmps5
  go_wp2_with fail
  refine (tell_on HB (HAW.out _)).mono ?_; rintro e w1 ⟨rfl, HB⟩
  go_wp2_with fail
  refine (tell_on HB (HC.out _)).mono ?_; rintro e w1 ⟨rfl, HB⟩
  go_wp2_with fail
  refine (tell_keep HB (HPT.out _)).mono ?_; rintro e wa ⟨rfl, HB, hka⟩
  replace HB := Lib.hid (HB.out.alloc HB.out.size (.cells #[.int .i64 0, .int .i64 a2] 43))
  clear hka
  go_wp2_with fail
  refine (tell_on HB (HTM.out _)).mono ?_; rintro e w1 ⟨rfl, HB⟩
  go_wp2_with fail
  refine (tell_keep HB (HPU.out _)).mono ?_; rintro e wb ⟨rfl, HB, hkb⟩
  replace HB := Lib.hid (HB.out.alloc HB.out.size (.cells #[.int .i64 0, .int .i64 0] 43))
  clear hkb
  go_wp2_with fail
  refine (tell_keep HB (HCM.out _)).mono ?_; rintro e wc ⟨rfl, HB, hk⟩
  have g0 : wc.cell? ⟨wb.heap.size, 0, none⟩ = some (.int .i64 0) := (hk.cell (p := ⟨_, _, _⟩) (by simp)).trans (by simp [go_sem])
  clear hk
  go_wp2_with fail
  go_ret
  exact ⟨rfl, HB.out⟩

set_option maxRecDepth 100000 in
set_option maxHeartbeats 4000000 in
theorem back_root_bad {n t m : List UInt8} {e2 : Int} {a2 : Nat} (hn : n.length ≤ 400) (ht : t.length ≤ 1200) (hpt : ∀ w, Calls Try.prog 33 #[.string (bs t)] w (Tells w (.tuple #[.string (bs m), .agg #[.int .i64 e2, .int .i64 a2]]))) (he : e2 ≠ 0) (hm : m = []) (ha : a2 ≤ t.length) {T : List UInt8} {L : List (List UInt8)} {q : Nat} (hc : ∀ w, Calls Try.prog 16 #[.string (bs n)] w (Tells w (.int .i64 0)))
    (htx : ∀ w, Calls Try.prog 32 #[.string (bs n)] w (Tells w (.tuple #[.string (bs T), .int .i64 0])))
    (hp1 : ∀ w, Calls Try.prog 33 #[.string (bs T)] w (Tells w (.tuple #[.string (bs n), .agg #[.int .i64 0, .int .i64 0]])))
    (hN : ∀ w, Calls Try.prog 11 #[.string (bs n)] w fun e w' => ∃ v, e = .returned (.tuple #[v, .int .i64 0]) ∧ OwnT w' w.heap.size v L ∧ Below w.heap.size w w')
    (hJ : ∀ v w lo hi, St w lo hi v L → Calls Try.prog 13 #[v] w (Tells w (.tuple #[.string (bs n), .int .i64 0])))
    (hK : ∀ w, Calls Try.prog 18 #[.string (bs n)] w (Tells w (.int .i64 L.length))) (hq : T.length = q + 1) (hq2 : q ≤ 10000) (h46 : T[q]? = some 46) (hL : L.length ≤ 1000) (hL0 : L = []) (w : World) : Calls Try.prog 5 #[.string (bs n), .string (bs t)] w (Tells w (.bool true)) := by
  have HAW := Lib.hid awake_any
  have HB := Lib.hid (Below.refl w.heap.size w)
  have HPT := Lib.hid hpt
  have t1 : decide ((400 : Int) < n.length) = false := by simp; omega
  have t2 : decide ((1200 : Int) < t.length) = false := by simp; omega
  subst hm
  have t3 : (e2 == 0) = false := by simpa using he
  have t4 : decide ((a2 : Int) ≤ t.length) = true := by simp; omega
  have t5 : decide ((0 : Int) ≤ a2) = true := by simp
  have t6 : (bs []).toList.isEmpty = true := by rw [bs_toList]; rfl
  have t7 : (e2 != 0) = true := by simpa using he
  clear he
  clear hpt hn ht
  subst hL0
  have HC := Lib.hid hc
  have HTX := Lib.hid htx
  have HP1 := Lib.hid hp1
  have HN := Lib.hid hN
  have HJ := Lib.hid hJ
  have HK := Lib.hid hK
  have hlt : q < T.length := by omega
  have hix : ∀ w, (Instr.index 9 (.string (bs T)) (.int .i64 q)).run Try.prog w = .ok (.int .u8 46) w := fun w => by
    rw [ix_run T q hlt w]
    have : T[q] = 46 := by rw [List.getElem?_eq_getElem hlt] at h46; injection h46
    rw [this]
    rfl
  obtain ⟨tl, htl⟩ : ∃ s : Int, (T.length : Int) = s := ⟨_, rfl⟩
  have n1 : (tl == 0) = false := by simp; omega
  have n3 : IntKind.i64.wrap (tl - 1) = (q : Int) := by rw [show tl - 1 = (q : Int) by omega]; exact IntWalk.i64_in _ (by omega)
  clear hc htx hp1 hN hJ hK h46
  go_enter Try.func5, Try.ntmps5
  go_wp2_with fail
  refine (tell_on HB (HAW.out _)).mono ?_; rintro e w1 ⟨rfl, HB⟩
  go_wp2_with fail
  refine (tell_on HB (HC.out _)).mono ?_; rintro e w1 ⟨rfl, HB⟩
  go_wp2_with fail
  refine (tell_on HB (HTX.out _)).mono ?_; rintro e w1 ⟨rfl, HB⟩
  go_wp2_with fail
  refine (tell_keep HB (HP1.out _)).mono ?_; rintro e w4 ⟨rfl, HB, hk⟩
  clear hk
  have hgw := HB.out.size
  replace HB := Lib.hid (HB.out.alloc HB.out.size (.cells #[.int .i64 0, .int .i64 0] 43))
  go_wp2_with fail
  refine (HN.out _).mono ?_; rintro e w5 ⟨v, rfl, ho, hk⟩
  obtain ⟨av, cv, rfl⟩ := ho.shape
  have HS5 := Lib.hid ho.st
  replace HB := Lib.hid (bel_call HB.out hk)
  have G5 : Hid (w5.cell? ⟨w4.heap.size, 0, none⟩ = some (.int .i64 0) ∧ w5.cell? ⟨w4.heap.size, 1, none⟩ = some (.int .i64 0) ∧ ∀ j, w5.frozen? ⟨w4.heap.size, j, none⟩ = false) := ⟨(hk.cell (p := ⟨_, _, _⟩) (by simp)).trans (by simp [go_sem]), (hk.cell (p := ⟨_, _, _⟩) (by simp)).trans (by simp [go_sem]), fun j => (hk.frozen (p := ⟨_, _, _⟩) (by simp)).trans (by simp [go_sem])⟩
  have hg5 : w4.heap.size < w5.heap.size := by have := hk.size; simp at this; omega
  clear ho hk
  go_wp2_with fail
  refine (tell_keep HB (HJ.out _ _ _ _ HS5.out)).mono ?_; rintro e w6 ⟨rfl, HB, hk⟩
  have g60 := (hk.cell (p := ⟨w4.heap.size, 0, none⟩) hg5).trans G5.out.1
  have G6 : Hid (w6.cell? ⟨w4.heap.size, 0, none⟩ = some (.int .i64 0) ∧ w6.cell? ⟨w4.heap.size, 1, none⟩ = some (.int .i64 0) ∧ ∀ j, w6.frozen? ⟨w4.heap.size, j, none⟩ = false) := ⟨(hk.cell (p := ⟨_, _, _⟩) hg5).trans G5.out.1, (hk.cell (p := ⟨_, _, _⟩) hg5).trans G5.out.2.1, fun j => (hk.frozen (p := ⟨_, _, _⟩) hg5).trans (G5.out.2.2 j)⟩
  have hg6 : w4.heap.size < w6.heap.size := Nat.lt_of_lt_of_le hg5 hk.size
  clear hk
  go_wp2_with fail
  refine (tell_keep HB (HK.out _)).mono ?_; rintro e w7 ⟨rfl, HB, hk⟩
  have G7 : Hid (w7.cell? ⟨w4.heap.size, 0, none⟩ = some (.int .i64 0) ∧ w7.cell? ⟨w4.heap.size, 1, none⟩ = some (.int .i64 0) ∧ ∀ j, w7.frozen? ⟨w4.heap.size, j, none⟩ = false) := ⟨(hk.cell (p := ⟨_, _, _⟩) hg6).trans G6.out.1, (hk.cell (p := ⟨_, _, _⟩) hg6).trans G6.out.2.1, fun j => (hk.frozen (p := ⟨_, _, _⟩) hg6).trans (G6.out.2.2 j)⟩
  have hg7 : w4.heap.size < w7.heap.size := Nat.lt_of_lt_of_le hg6 hk.size
  clear hk
  go_wp2_with fail
  refine (tell_keep HB (HPT.out _)).mono ?_; rintro e wa ⟨rfl, HB, hka⟩
  replace HB := Lib.hid (HB.out.alloc HB.out.size (.cells #[.int .i64 e2, .int .i64 a2] 43))
  clear hka
  go_wp2_with fail
  go_ret
  exact ⟨rfl, HB.out⟩

set_option maxRecDepth 100000 in
set_option maxHeartbeats 4000000 in
theorem back_root_ok {n t m : List UInt8} {e2 : Int} {a2 : Nat} (hn : n.length ≤ 400) (ht : t.length ≤ 1200) (hpt : ∀ w, Calls Try.prog 33 #[.string (bs t)] w (Tells w (.tuple #[.string (bs m), .agg #[.int .i64 e2, .int .i64 a2]]))) {U : List UInt8} (he : e2 = 0) (htm : ∀ w, Calls Try.prog 32 #[.string (bs m)] w (Tells w (.tuple #[.string (bs U), .int .i64 0]))) (hpu : ∀ w, Calls Try.prog 33 #[.string (bs U)] w (Tells w (.tuple #[.string (bs m), .agg #[.int .i64 0, .int .i64 0]]))) (hcm : ∀ w, Calls Try.prog 16 #[.string (bs m)] w (Tells w (.int .i64 0))) {T : List UInt8} {L : List (List UInt8)} {q : Nat} (hc : ∀ w, Calls Try.prog 16 #[.string (bs n)] w (Tells w (.int .i64 0)))
    (htx : ∀ w, Calls Try.prog 32 #[.string (bs n)] w (Tells w (.tuple #[.string (bs T), .int .i64 0])))
    (hp1 : ∀ w, Calls Try.prog 33 #[.string (bs T)] w (Tells w (.tuple #[.string (bs n), .agg #[.int .i64 0, .int .i64 0]])))
    (hN : ∀ w, Calls Try.prog 11 #[.string (bs n)] w fun e w' => ∃ v, e = .returned (.tuple #[v, .int .i64 0]) ∧ OwnT w' w.heap.size v L ∧ Below w.heap.size w w')
    (hJ : ∀ v w lo hi, St w lo hi v L → Calls Try.prog 13 #[v] w (Tells w (.tuple #[.string (bs n), .int .i64 0])))
    (hK : ∀ w, Calls Try.prog 18 #[.string (bs n)] w (Tells w (.int .i64 L.length))) (hq : T.length = q + 1) (hq2 : q ≤ 10000) (h46 : T[q]? = some 46) (hL : L.length ≤ 1000) (hL0 : L = []) (w : World) : Calls Try.prog 5 #[.string (bs n), .string (bs t)] w (Tells w (.bool true)) := by
  have HAW := Lib.hid awake_any
  have HB := Lib.hid (Below.refl w.heap.size w)
  have HPT := Lib.hid hpt
  have t1 : decide ((400 : Int) < n.length) = false := by simp; omega
  have t2 : decide ((1200 : Int) < t.length) = false := by simp; omega
  subst he
  have HTM := Lib.hid htm
  have HPU := Lib.hid hpu
  have HCM := Lib.hid hcm
  clear htm hpu hcm
  clear hpt hn ht
  subst hL0
  have HC := Lib.hid hc
  have HTX := Lib.hid htx
  have HP1 := Lib.hid hp1
  have HN := Lib.hid hN
  have HJ := Lib.hid hJ
  have HK := Lib.hid hK
  have hlt : q < T.length := by omega
  have hix : ∀ w, (Instr.index 9 (.string (bs T)) (.int .i64 q)).run Try.prog w = .ok (.int .u8 46) w := fun w => by
    rw [ix_run T q hlt w]
    have : T[q] = 46 := by rw [List.getElem?_eq_getElem hlt] at h46; injection h46
    rw [this]
    rfl
  obtain ⟨tl, htl⟩ : ∃ s : Int, (T.length : Int) = s := ⟨_, rfl⟩
  have n1 : (tl == 0) = false := by simp; omega
  have n3 : IntKind.i64.wrap (tl - 1) = (q : Int) := by rw [show tl - 1 = (q : Int) by omega]; exact IntWalk.i64_in _ (by omega)
  clear hc htx hp1 hN hJ hK h46
  go_enter Try.func5, Try.ntmps5
  go_wp2_with fail
  refine (tell_on HB (HAW.out _)).mono ?_; rintro e w1 ⟨rfl, HB⟩
  go_wp2_with fail
  refine (tell_on HB (HC.out _)).mono ?_; rintro e w1 ⟨rfl, HB⟩
  go_wp2_with fail
  refine (tell_on HB (HTX.out _)).mono ?_; rintro e w1 ⟨rfl, HB⟩
  go_wp2_with fail
  refine (tell_keep HB (HP1.out _)).mono ?_; rintro e w4 ⟨rfl, HB, hk⟩
  clear hk
  have hgw := HB.out.size
  replace HB := Lib.hid (HB.out.alloc HB.out.size (.cells #[.int .i64 0, .int .i64 0] 43))
  go_wp2_with fail
  refine (HN.out _).mono ?_; rintro e w5 ⟨v, rfl, ho, hk⟩
  obtain ⟨av, cv, rfl⟩ := ho.shape
  have HS5 := Lib.hid ho.st
  replace HB := Lib.hid (bel_call HB.out hk)
  have G5 : Hid (w5.cell? ⟨w4.heap.size, 0, none⟩ = some (.int .i64 0) ∧ w5.cell? ⟨w4.heap.size, 1, none⟩ = some (.int .i64 0) ∧ ∀ j, w5.frozen? ⟨w4.heap.size, j, none⟩ = false) := ⟨(hk.cell (p := ⟨_, _, _⟩) (by simp)).trans (by simp [go_sem]), (hk.cell (p := ⟨_, _, _⟩) (by simp)).trans (by simp [go_sem]), fun j => (hk.frozen (p := ⟨_, _, _⟩) (by simp)).trans (by simp [go_sem])⟩
  have hg5 : w4.heap.size < w5.heap.size := by have := hk.size; simp at this; omega
  clear ho hk
  go_wp2_with fail
  refine (tell_keep HB (HJ.out _ _ _ _ HS5.out)).mono ?_; rintro e w6 ⟨rfl, HB, hk⟩
  have g60 := (hk.cell (p := ⟨w4.heap.size, 0, none⟩) hg5).trans G5.out.1
  have G6 : Hid (w6.cell? ⟨w4.heap.size, 0, none⟩ = some (.int .i64 0) ∧ w6.cell? ⟨w4.heap.size, 1, none⟩ = some (.int .i64 0) ∧ ∀ j, w6.frozen? ⟨w4.heap.size, j, none⟩ = false) := ⟨(hk.cell (p := ⟨_, _, _⟩) hg5).trans G5.out.1, (hk.cell (p := ⟨_, _, _⟩) hg5).trans G5.out.2.1, fun j => (hk.frozen (p := ⟨_, _, _⟩) hg5).trans (G5.out.2.2 j)⟩
  have hg6 : w4.heap.size < w6.heap.size := Nat.lt_of_lt_of_le hg5 hk.size
  clear hk
  go_wp2_with fail
  refine (tell_keep HB (HK.out _)).mono ?_; rintro e w7 ⟨rfl, HB, hk⟩
  have G7 : Hid (w7.cell? ⟨w4.heap.size, 0, none⟩ = some (.int .i64 0) ∧ w7.cell? ⟨w4.heap.size, 1, none⟩ = some (.int .i64 0) ∧ ∀ j, w7.frozen? ⟨w4.heap.size, j, none⟩ = false) := ⟨(hk.cell (p := ⟨_, _, _⟩) hg6).trans G6.out.1, (hk.cell (p := ⟨_, _, _⟩) hg6).trans G6.out.2.1, fun j => (hk.frozen (p := ⟨_, _, _⟩) hg6).trans (G6.out.2.2 j)⟩
  have hg7 : w4.heap.size < w7.heap.size := Nat.lt_of_lt_of_le hg6 hk.size
  clear hk
  go_wp2_with fail
  refine (tell_keep HB (HPT.out _)).mono ?_; rintro e wa ⟨rfl, HB, hka⟩
  replace HB := Lib.hid (HB.out.alloc HB.out.size (.cells #[.int .i64 0, .int .i64 a2] 43))
  clear hka
  go_wp2_with fail
  refine (tell_on HB (HTM.out _)).mono ?_; rintro e w1 ⟨rfl, HB⟩
  go_wp2_with fail
  refine (tell_keep HB (HPU.out _)).mono ?_; rintro e wb ⟨rfl, HB, hkb⟩
  replace HB := Lib.hid (HB.out.alloc HB.out.size (.cells #[.int .i64 0, .int .i64 0] 43))
  clear hkb
  go_wp2_with fail
  refine (tell_keep HB (HCM.out _)).mono ?_; rintro e wc ⟨rfl, HB, hk⟩
  have g0 : wc.cell? ⟨wb.heap.size, 0, none⟩ = some (.int .i64 0) := (hk.cell (p := ⟨_, _, _⟩) (by simp)).trans (by simp [go_sem])
  clear hk
  go_wp2_with fail
  go_ret
  exact ⟨rfl, HB.out⟩

set_option maxRecDepth 100000 in
set_option maxHeartbeats 4000000 in
theorem back_bad {n t m : List UInt8} {e2 : Int} {a2 : Nat} (hn : n.length ≤ 400) (ht : t.length ≤ 1200) (hpt : ∀ w, Calls Try.prog 33 #[.string (bs t)] w (Tells w (.tuple #[.string (bs m), .agg #[.int .i64 e2, .int .i64 a2]]))) (he : e2 ≠ 0) (hm : m = []) (ha : a2 ≤ t.length) {T : List UInt8} {L : List (List UInt8)} {q : Nat} (hc : ∀ w, Calls Try.prog 16 #[.string (bs n)] w (Tells w (.int .i64 0)))
    (htx : ∀ w, Calls Try.prog 32 #[.string (bs n)] w (Tells w (.tuple #[.string (bs T), .int .i64 0])))
    (hp1 : ∀ w, Calls Try.prog 33 #[.string (bs T)] w (Tells w (.tuple #[.string (bs n), .agg #[.int .i64 0, .int .i64 0]])))
    (hN : ∀ w, Calls Try.prog 11 #[.string (bs n)] w fun e w' => ∃ v, e = .returned (.tuple #[v, .int .i64 0]) ∧ OwnT w' w.heap.size v L ∧ Below w.heap.size w w')
    (hJ : ∀ v w lo hi, St w lo hi v L → Calls Try.prog 13 #[v] w (Tells w (.tuple #[.string (bs n), .int .i64 0])))
    (hK : ∀ w, Calls Try.prog 18 #[.string (bs n)] w (Tells w (.int .i64 L.length))) (hq : T.length = q + 1) (hq2 : q ≤ 10000) (h46 : T[q]? = some 46) (hL : L.length ≤ 1000) (hL0 : 0 < L.length) (hp2 : ∀ w, Calls Try.prog 33 #[.string (bs (T.take q))] w (Tells w (.tuple #[.string (bs n), .agg #[.int .i64 0, .int .i64 0]]))) (w : World) : Calls Try.prog 5 #[.string (bs n), .string (bs t)] w (Tells w (.bool true)) := by
  have HAW := Lib.hid awake_any
  have HB := Lib.hid (Below.refl w.heap.size w)
  have HPT := Lib.hid hpt
  have t1 : decide ((400 : Int) < n.length) = false := by simp; omega
  have t2 : decide ((1200 : Int) < t.length) = false := by simp; omega
  subst hm
  have t3 : (e2 == 0) = false := by simpa using he
  have t4 : decide ((a2 : Int) ≤ t.length) = true := by simp; omega
  have t5 : decide ((0 : Int) ≤ a2) = true := by simp
  have t6 : (bs []).toList.isEmpty = true := by rw [bs_toList]; rfl
  have t7 : (e2 != 0) = true := by simpa using he
  clear he
  clear hpt hn ht
  have HP2 := Lib.hid hp2
  have n5 : decide ((0 : Int) < L.length) = true := by simp; omega
  clear hp2
  have HC := Lib.hid hc
  have HTX := Lib.hid htx
  have HP1 := Lib.hid hp1
  have HN := Lib.hid hN
  have HJ := Lib.hid hJ
  have HK := Lib.hid hK
  have hlt : q < T.length := by omega
  have hix : ∀ w, (Instr.index 9 (.string (bs T)) (.int .i64 q)).run Try.prog w = .ok (.int .u8 46) w := fun w => by
    rw [ix_run T q hlt w]
    have : T[q] = 46 := by rw [List.getElem?_eq_getElem hlt] at h46; injection h46
    rw [this]
    rfl
  obtain ⟨tl, htl⟩ : ∃ s : Int, (T.length : Int) = s := ⟨_, rfl⟩
  have n1 : (tl == 0) = false := by simp; omega
  have n3 : IntKind.i64.wrap (tl - 1) = (q : Int) := by rw [show tl - 1 = (q : Int) by omega]; exact IntWalk.i64_in _ (by omega)
  clear hc htx hp1 hN hJ hK h46
  go_enter Try.func5, Try.ntmps5
  go_wp2_with fail
  refine (tell_on HB (HAW.out _)).mono ?_; rintro e w1 ⟨rfl, HB⟩
  go_wp2_with fail
  refine (tell_on HB (HC.out _)).mono ?_; rintro e w1 ⟨rfl, HB⟩
  go_wp2_with fail
  refine (tell_on HB (HTX.out _)).mono ?_; rintro e w1 ⟨rfl, HB⟩
  go_wp2_with fail
  refine (tell_keep HB (HP1.out _)).mono ?_; rintro e w4 ⟨rfl, HB, hk⟩
  clear hk
  have hgw := HB.out.size
  replace HB := Lib.hid (HB.out.alloc HB.out.size (.cells #[.int .i64 0, .int .i64 0] 43))
  go_wp2_with fail
  refine (HN.out _).mono ?_; rintro e w5 ⟨v, rfl, ho, hk⟩
  obtain ⟨av, cv, rfl⟩ := ho.shape
  have HS5 := Lib.hid ho.st
  replace HB := Lib.hid (bel_call HB.out hk)
  have G5 : Hid (w5.cell? ⟨w4.heap.size, 0, none⟩ = some (.int .i64 0) ∧ w5.cell? ⟨w4.heap.size, 1, none⟩ = some (.int .i64 0) ∧ ∀ j, w5.frozen? ⟨w4.heap.size, j, none⟩ = false) := ⟨(hk.cell (p := ⟨_, _, _⟩) (by simp)).trans (by simp [go_sem]), (hk.cell (p := ⟨_, _, _⟩) (by simp)).trans (by simp [go_sem]), fun j => (hk.frozen (p := ⟨_, _, _⟩) (by simp)).trans (by simp [go_sem])⟩
  have hg5 : w4.heap.size < w5.heap.size := by have := hk.size; simp at this; omega
  clear ho hk
  go_wp2_with fail
  refine (tell_keep HB (HJ.out _ _ _ _ HS5.out)).mono ?_; rintro e w6 ⟨rfl, HB, hk⟩
  have g60 := (hk.cell (p := ⟨w4.heap.size, 0, none⟩) hg5).trans G5.out.1
  have G6 : Hid (w6.cell? ⟨w4.heap.size, 0, none⟩ = some (.int .i64 0) ∧ w6.cell? ⟨w4.heap.size, 1, none⟩ = some (.int .i64 0) ∧ ∀ j, w6.frozen? ⟨w4.heap.size, j, none⟩ = false) := ⟨(hk.cell (p := ⟨_, _, _⟩) hg5).trans G5.out.1, (hk.cell (p := ⟨_, _, _⟩) hg5).trans G5.out.2.1, fun j => (hk.frozen (p := ⟨_, _, _⟩) hg5).trans (G5.out.2.2 j)⟩
  have hg6 : w4.heap.size < w6.heap.size := Nat.lt_of_lt_of_le hg5 hk.size
  clear hk
  go_wp2_with fail
  refine (tell_keep HB (HK.out _)).mono ?_; rintro e w7 ⟨rfl, HB, hk⟩
  have G7 : Hid (w7.cell? ⟨w4.heap.size, 0, none⟩ = some (.int .i64 0) ∧ w7.cell? ⟨w4.heap.size, 1, none⟩ = some (.int .i64 0) ∧ ∀ j, w7.frozen? ⟨w4.heap.size, j, none⟩ = false) := ⟨(hk.cell (p := ⟨_, _, _⟩) hg6).trans G6.out.1, (hk.cell (p := ⟨_, _, _⟩) hg6).trans G6.out.2.1, fun j => (hk.frozen (p := ⟨_, _, _⟩) hg6).trans (G6.out.2.2 j)⟩
  have hg7 : w4.heap.size < w7.heap.size := Nat.lt_of_lt_of_le hg6 hk.size
  clear hk
  go_wp2_with fail
  rw [show (bs T).extract 0 q = bs (T.take q) by rw [bs_extract]; simp]
  refine (tell_keep HB (HP2.out _)).mono ?_; rintro e w8 ⟨rfl, HB, hk⟩
  have q0 := (hk.cell (p := ⟨w4.heap.size, 0, none⟩) hg7).trans G7.out.1
  have q1 := (hk.cell (p := ⟨w4.heap.size, 1, none⟩) hg7).trans G7.out.2.1
  have q2 : ∀ j, w8.frozen? ⟨w4.heap.size, j, none⟩ = false := fun j => (hk.frozen (p := ⟨_, _, _⟩) hg7).trans (G7.out.2.2 j)
  obtain ⟨W8, hW8⟩ : ∃ W, (w8.setCell ⟨w4.heap.size, 0, none⟩ (.int .i64 0)).setCell ⟨w4.heap.size, 1, none⟩ (.int .i64 0) = W := ⟨_, rfl⟩
  replace HB : Hid (Below w.heap.size w W8) := by rw [← hW8]; exact (HB.out.setCell (p := ⟨w4.heap.size, 0, none⟩) hgw _).setCell (p := ⟨w4.heap.size, 1, none⟩) hgw _
  obtain ⟨z0, _⟩ := res_set (.int .i64 0) (.int .i64 0) q0 q1
  have HW8 := Lib.hid (And.intro hW8 z0)
  clear hk hW8 z0
  go_wp2_with fail
  rw [HW8.out.1]
  refine (tell_keep HB (HPT.out _)).mono ?_; rintro e wa ⟨rfl, HB, hka⟩
  replace HB := Lib.hid (HB.out.alloc HB.out.size (.cells #[.int .i64 e2, .int .i64 a2] 43))
  clear hka
  go_wp2_with fail
  go_ret
  exact ⟨rfl, HB.out⟩

set_option maxRecDepth 100000 in
set_option maxHeartbeats 4000000 in
theorem back_ok {n t m : List UInt8} {e2 : Int} {a2 : Nat} (hn : n.length ≤ 400) (ht : t.length ≤ 1200) (hpt : ∀ w, Calls Try.prog 33 #[.string (bs t)] w (Tells w (.tuple #[.string (bs m), .agg #[.int .i64 e2, .int .i64 a2]]))) {U : List UInt8} (he : e2 = 0) (htm : ∀ w, Calls Try.prog 32 #[.string (bs m)] w (Tells w (.tuple #[.string (bs U), .int .i64 0]))) (hpu : ∀ w, Calls Try.prog 33 #[.string (bs U)] w (Tells w (.tuple #[.string (bs m), .agg #[.int .i64 0, .int .i64 0]]))) (hcm : ∀ w, Calls Try.prog 16 #[.string (bs m)] w (Tells w (.int .i64 0))) {T : List UInt8} {L : List (List UInt8)} {q : Nat} (hc : ∀ w, Calls Try.prog 16 #[.string (bs n)] w (Tells w (.int .i64 0)))
    (htx : ∀ w, Calls Try.prog 32 #[.string (bs n)] w (Tells w (.tuple #[.string (bs T), .int .i64 0])))
    (hp1 : ∀ w, Calls Try.prog 33 #[.string (bs T)] w (Tells w (.tuple #[.string (bs n), .agg #[.int .i64 0, .int .i64 0]])))
    (hN : ∀ w, Calls Try.prog 11 #[.string (bs n)] w fun e w' => ∃ v, e = .returned (.tuple #[v, .int .i64 0]) ∧ OwnT w' w.heap.size v L ∧ Below w.heap.size w w')
    (hJ : ∀ v w lo hi, St w lo hi v L → Calls Try.prog 13 #[v] w (Tells w (.tuple #[.string (bs n), .int .i64 0])))
    (hK : ∀ w, Calls Try.prog 18 #[.string (bs n)] w (Tells w (.int .i64 L.length))) (hq : T.length = q + 1) (hq2 : q ≤ 10000) (h46 : T[q]? = some 46) (hL : L.length ≤ 1000) (hL0 : 0 < L.length) (hp2 : ∀ w, Calls Try.prog 33 #[.string (bs (T.take q))] w (Tells w (.tuple #[.string (bs n), .agg #[.int .i64 0, .int .i64 0]]))) (w : World) : Calls Try.prog 5 #[.string (bs n), .string (bs t)] w (Tells w (.bool true)) := by
  have HAW := Lib.hid awake_any
  have HB := Lib.hid (Below.refl w.heap.size w)
  have HPT := Lib.hid hpt
  have t1 : decide ((400 : Int) < n.length) = false := by simp; omega
  have t2 : decide ((1200 : Int) < t.length) = false := by simp; omega
  subst he
  have HTM := Lib.hid htm
  have HPU := Lib.hid hpu
  have HCM := Lib.hid hcm
  clear htm hpu hcm
  clear hpt hn ht
  have HP2 := Lib.hid hp2
  have n5 : decide ((0 : Int) < L.length) = true := by simp; omega
  clear hp2
  have HC := Lib.hid hc
  have HTX := Lib.hid htx
  have HP1 := Lib.hid hp1
  have HN := Lib.hid hN
  have HJ := Lib.hid hJ
  have HK := Lib.hid hK
  have hlt : q < T.length := by omega
  have hix : ∀ w, (Instr.index 9 (.string (bs T)) (.int .i64 q)).run Try.prog w = .ok (.int .u8 46) w := fun w => by
    rw [ix_run T q hlt w]
    have : T[q] = 46 := by rw [List.getElem?_eq_getElem hlt] at h46; injection h46
    rw [this]
    rfl
  obtain ⟨tl, htl⟩ : ∃ s : Int, (T.length : Int) = s := ⟨_, rfl⟩
  have n1 : (tl == 0) = false := by simp; omega
  have n3 : IntKind.i64.wrap (tl - 1) = (q : Int) := by rw [show tl - 1 = (q : Int) by omega]; exact IntWalk.i64_in _ (by omega)
  clear hc htx hp1 hN hJ hK h46
  go_enter Try.func5, Try.ntmps5
  go_wp2_with fail
  refine (tell_on HB (HAW.out _)).mono ?_; rintro e w1 ⟨rfl, HB⟩
  go_wp2_with fail
  refine (tell_on HB (HC.out _)).mono ?_; rintro e w1 ⟨rfl, HB⟩
  go_wp2_with fail
  refine (tell_on HB (HTX.out _)).mono ?_; rintro e w1 ⟨rfl, HB⟩
  go_wp2_with fail
  refine (tell_keep HB (HP1.out _)).mono ?_; rintro e w4 ⟨rfl, HB, hk⟩
  clear hk
  have hgw := HB.out.size
  replace HB := Lib.hid (HB.out.alloc HB.out.size (.cells #[.int .i64 0, .int .i64 0] 43))
  go_wp2_with fail
  refine (HN.out _).mono ?_; rintro e w5 ⟨v, rfl, ho, hk⟩
  obtain ⟨av, cv, rfl⟩ := ho.shape
  have HS5 := Lib.hid ho.st
  replace HB := Lib.hid (bel_call HB.out hk)
  have G5 : Hid (w5.cell? ⟨w4.heap.size, 0, none⟩ = some (.int .i64 0) ∧ w5.cell? ⟨w4.heap.size, 1, none⟩ = some (.int .i64 0) ∧ ∀ j, w5.frozen? ⟨w4.heap.size, j, none⟩ = false) := ⟨(hk.cell (p := ⟨_, _, _⟩) (by simp)).trans (by simp [go_sem]), (hk.cell (p := ⟨_, _, _⟩) (by simp)).trans (by simp [go_sem]), fun j => (hk.frozen (p := ⟨_, _, _⟩) (by simp)).trans (by simp [go_sem])⟩
  have hg5 : w4.heap.size < w5.heap.size := by have := hk.size; simp at this; omega
  clear ho hk
  go_wp2_with fail
  refine (tell_keep HB (HJ.out _ _ _ _ HS5.out)).mono ?_; rintro e w6 ⟨rfl, HB, hk⟩
  have g60 := (hk.cell (p := ⟨w4.heap.size, 0, none⟩) hg5).trans G5.out.1
  have G6 : Hid (w6.cell? ⟨w4.heap.size, 0, none⟩ = some (.int .i64 0) ∧ w6.cell? ⟨w4.heap.size, 1, none⟩ = some (.int .i64 0) ∧ ∀ j, w6.frozen? ⟨w4.heap.size, j, none⟩ = false) := ⟨(hk.cell (p := ⟨_, _, _⟩) hg5).trans G5.out.1, (hk.cell (p := ⟨_, _, _⟩) hg5).trans G5.out.2.1, fun j => (hk.frozen (p := ⟨_, _, _⟩) hg5).trans (G5.out.2.2 j)⟩
  have hg6 : w4.heap.size < w6.heap.size := Nat.lt_of_lt_of_le hg5 hk.size
  clear hk
  go_wp2_with fail
  refine (tell_keep HB (HK.out _)).mono ?_; rintro e w7 ⟨rfl, HB, hk⟩
  have G7 : Hid (w7.cell? ⟨w4.heap.size, 0, none⟩ = some (.int .i64 0) ∧ w7.cell? ⟨w4.heap.size, 1, none⟩ = some (.int .i64 0) ∧ ∀ j, w7.frozen? ⟨w4.heap.size, j, none⟩ = false) := ⟨(hk.cell (p := ⟨_, _, _⟩) hg6).trans G6.out.1, (hk.cell (p := ⟨_, _, _⟩) hg6).trans G6.out.2.1, fun j => (hk.frozen (p := ⟨_, _, _⟩) hg6).trans (G6.out.2.2 j)⟩
  have hg7 : w4.heap.size < w7.heap.size := Nat.lt_of_lt_of_le hg6 hk.size
  clear hk
  go_wp2_with fail
  rw [show (bs T).extract 0 q = bs (T.take q) by rw [bs_extract]; simp]
  refine (tell_keep HB (HP2.out _)).mono ?_; rintro e w8 ⟨rfl, HB, hk⟩
  have q0 := (hk.cell (p := ⟨w4.heap.size, 0, none⟩) hg7).trans G7.out.1
  have q1 := (hk.cell (p := ⟨w4.heap.size, 1, none⟩) hg7).trans G7.out.2.1
  have q2 : ∀ j, w8.frozen? ⟨w4.heap.size, j, none⟩ = false := fun j => (hk.frozen (p := ⟨_, _, _⟩) hg7).trans (G7.out.2.2 j)
  obtain ⟨W8, hW8⟩ : ∃ W, (w8.setCell ⟨w4.heap.size, 0, none⟩ (.int .i64 0)).setCell ⟨w4.heap.size, 1, none⟩ (.int .i64 0) = W := ⟨_, rfl⟩
  replace HB : Hid (Below w.heap.size w W8) := by rw [← hW8]; exact (HB.out.setCell (p := ⟨w4.heap.size, 0, none⟩) hgw _).setCell (p := ⟨w4.heap.size, 1, none⟩) hgw _
  obtain ⟨z0, _⟩ := res_set (.int .i64 0) (.int .i64 0) q0 q1
  have HW8 := Lib.hid (And.intro hW8 z0)
  clear hk hW8 z0
  go_wp2_with fail
  rw [HW8.out.1]
  refine (tell_keep HB (HPT.out _)).mono ?_; rintro e wa ⟨rfl, HB, hka⟩
  replace HB := Lib.hid (HB.out.alloc HB.out.size (.cells #[.int .i64 0, .int .i64 a2] 43))
  clear hka
  go_wp2_with fail
  refine (tell_on HB (HTM.out _)).mono ?_; rintro e w1 ⟨rfl, HB⟩
  go_wp2_with fail
  refine (tell_keep HB (HPU.out _)).mono ?_; rintro e wb ⟨rfl, HB, hkb⟩
  replace HB := Lib.hid (HB.out.alloc HB.out.size (.cells #[.int .i64 0, .int .i64 0] 43))
  clear hkb
  go_wp2_with fail
  refine (tell_keep HB (HCM.out _)).mono ?_; rintro e wc ⟨rfl, HB, hk⟩
  have g0 : wc.cell? ⟨wb.heap.size, 0, none⟩ = some (.int .i64 0) := (hk.cell (p := ⟨_, _, _⟩) (by simp)).trans (by simp [go_sem])
  clear hk
  go_wp2_with fail
  go_ret
  exact ⟨rfl, HB.out⟩

theorem back_any (n t : List UInt8) (w : World) : Calls Try.prog 5 #[.string (bs n), .string (bs t)] w (Tells w (.bool true)) := by
  by_cases hlen : 400 < n.length ∨ 1200 < t.length
  · exact back_early n t w hlen
  have hn : n.length ≤ 400 := by omega
  have ht : t.length ≤ 1200 := by omega
  clear hlen
  obtain ⟨⟨m, e2, a2⟩, hp⟩ : ∃ X, prs t = X := ⟨_, rfl⟩
  obtain ⟨f1, f2, f3, f4⟩ := prs_any t
  rw [hp] at f1 f2 f3 f4
  simp only at f1 f2 f3 f4
  have hpt := fun w => parse_is hp (by omega) w
  have utl : ∀ k, chk k = 0 → (txt k).length ≤ 1020 := fun k hk => by
    unfold txt
    rw [if_pos hk]
    split
    · simp
    · have h1 := tx_len (labs k)
      have h2 := chk_wire_len hk
      omega
  have tell : ∀ k, chk k = 0 → ∀ w, Calls Try.prog 32 #[.string (bs k)] w (Tells w (.tuple #[.string (bs (txt k)), .int .i64 0])) := fun k hk w => by
    have h1 := text_any k (by have := (chk_ok hk).2; omega) w
    rw [hk] at h1
    exact h1
  have back : ∀ k, chk k = 0 → ∀ w, Calls Try.prog 33 #[.string (bs (txt k))] w (Tells w (.tuple #[.string (bs k), .agg #[.int .i64 0, .int .i64 0]])) := fun k hk w =>
    parse_is (a := 0) (prs_text hk) (by have := utl k hk; omega) w
  have check : ∀ k, chk k = 0 → ∀ w, Calls Try.prog 16 #[.string (bs k)] w (Tells w (.int .i64 0)) := fun k hk w => hk ▸ check_any k (by have := (chk_ok hk).2; omega) w
  by_cases hc : chk n = 0
  · obtain ⟨hs, hw⟩ := shorts_of hc
    have hll := labs_len n
    have hJ : ∀ v w lo hi, St w lo hi v (labs n) → Calls Try.prog 13 #[v] w (Tells w (.tuple #[.string (bs n), .int .i64 0])) := fun v w lo hi hst => by
      have h1 := Join_any (labs n) v w hst (by have := hs.2; omega)
      obtain ⟨j1, j2⟩ := jname_short (labs n) hs.1 hs.2
      rw [j1, j2, ← hw] at h1
      exact h1
    have hK : ∀ w, Calls Try.prog 18 #[.string (bs n)] w (Tells w (.int .i64 (labs n).length)) := fun w => by
      have h1 := count_any n (by omega) w
      unfold cnt at h1
      rw [if_pos hc] at h1
      exact h1
    obtain ⟨l1, l2⟩ := txt_last hc
    have hq : (txt n).length = ((txt n).length - 1) + 1 := by omega
    have hu := utl n hc
    by_cases h0 : n = [0]
    · have hL0 : labs n = [] := (labs_root n hc).2 h0
      by_cases he : e2 = 0
      · exact back_root_ok hn ht hpt he (tell m (f1 he)) (back m (f1 he)) (check m (f1 he)) (check n hc) (tell n hc) (back n hc) (labels_fine n (by omega) hc) hJ hK hq (by omega) l2 (by omega) hL0 w
      · exact back_root_bad hn ht hpt he (f2 he) f3 (check n hc) (tell n hc) (back n hc) (labels_fine n (by omega) hc) hJ hK hq (by omega) l2 (by omega) hL0 w
    · have hL0 : 0 < (labs n).length := List.length_pos_iff.mpr fun e => h0 ((labs_root n hc).1 e)
      have hsh := prs_short hc h0
      rw [List.dropLast_eq_take] at hsh
      have hp2 : ∀ w, Calls Try.prog 33 #[.string (bs ((txt n).take ((txt n).length - 1)))] w (Tells w (.tuple #[.string (bs n), .agg #[.int .i64 0, .int .i64 0]])) := fun w =>
        parse_is (a := 0) hsh (by rw [List.length_take]; omega) w
      by_cases he : e2 = 0
      · exact back_ok hn ht hpt he (tell m (f1 he)) (back m (f1 he)) (check m (f1 he)) (check n hc) (tell n hc) (back n hc) (labels_fine n (by omega) hc) hJ hK hq (by omega) l2 (by omega) hL0 hp2 w
      · exact back_bad hn ht hpt he (f2 he) f3 (check n hc) (tell n hc) (back n hc) (labels_fine n (by omega) hc) hJ hK hq (by omega) l2 (by omega) hL0 hp2 w
  · by_cases he : e2 = 0
    · exact back_none_ok hn ht hpt he (tell m (f1 he)) (back m (f1 he)) (check m (f1 he)) (fun w => check_any n (by omega) w) hc w
    · exact back_none_bad hn ht hpt he (f2 he) f3 (fun w => check_any n (by omega) w) hc w
end Go.Proofs.Ytibaeklpgfadpaa
