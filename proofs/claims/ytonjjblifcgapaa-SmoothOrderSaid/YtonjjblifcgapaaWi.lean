/-
  The law SmoothOrder, of a list that is not empty.
-/
import Derived.Test.YtonjjblifcgapaaWh
namespace Go.Proofs.Ytonjjblifcgapaa
open Go.RowKit
set_option linter.unusedVariables false

set_option maxHeartbeats 4000000 in
theorem order_way1 (a b c : Nat) (g off : Nat) (cap m : Nat) (l : List Nat) (h0 : 0 < l.length) (hn : l.length ≤ 100) (w : World) (HC : Hid (∀ j, j < l.length → w.cell? ⟨g, off + j, none⟩ = some (.float .f64 (l.getD j 0))))
    (b2 : m < l.length) (H3 : Hid (∀ (i : Nat), i < l.length → befB (l.getD i 0) (l.getD m 0) = false)) (H4 : Hid (∀ (i : Nat), i < m → befB (l.getD m 0) (l.getD i 0) = true)) (H1 : Hid (bestI l = (m : Int)))
    (z : befB a a = false) (p : befB a b = true) (q : befB b a = false) (r : befB b c = true) (t : befB a c = true) :
    Calls Try.prog 7 #[.float .f64 a, .float .f64 b, .float .f64 c, .slice (some ⟨g, off, none⟩) l.length cap] w (YesB w) := by
  have e1 : ((l.length : Int) == 0) = false := by simp; intro h; rw [h] at h0; simp at h0
  have e2 : decide (100 < (l.length : Int)) = false := by simp; omega
  have e3 : ¬ l = [] := by intro h; rw [h] at h0; simp at h0
  go_enter Try.func7, Try.ntmps7
  go_wp2_with (first | (go_at_call 6; (with_reducible refine (known_any _).mono ?_); rintro e w1 ⟨rfl, hb⟩; have HB := Lib.hid hb; clear hb) | (go_at_call 16; refine (bef_any _ _ _).mono ?_; rintro e w' ⟨rfl, rfl⟩) | (go_at_call 25; refine (isnan_any _ _).mono ?_; rintro e w' ⟨rfl, rfl⟩))
  refine (best_at g off cap m l _ hn H1.out (fun j hj => cell_later HB.out (HC.out j hj))).mono ?_
  rintro e w' ⟨rfl, rfl⟩
  clear e1 e2 e3 z p q r t
  go_wp2_with fail
  go_loopw [11] (fun i wr => ∃ k : Nat, k ≤ l.length ∧ i = .int .i64 k ∧ Hid (Drawn w1 wr)) (fun i _ => l.length - (intOf i).toNat)
  case atStart => exact ⟨0, Nat.zero_le _, rfl, Lib.hid (drawn_none _)⟩
  case round =>
    obtain ⟨k, hk, rfl, HW⟩ := hrel
    by_cases hlt : k < l.length
    · have ck : wr.cell? ⟨g, off + k, none⟩ = some (.float .f64 (l.getD k 0)) := drawn_cell HW.out (cell_later HB.out (HC.out k hlt))
      have cm : wr.cell? ⟨g, off + m, none⟩ = some (.float .f64 (l.getD m 0)) := drawn_cell HW.out (cell_later HB.out (HC.out m b2))
      have HF := Lib.hid (H3.out k hlt)
      by_cases hkm : k < m
      · have HT := Lib.hid (H4.out k hkm)
        have hd : decide (k < m) = true := by simpa using hkm
        obtain ⟨x, hx⟩ : ∃ x, l.getD k 0 = x := ⟨_, rfl⟩
        obtain ⟨y, hy⟩ : ∃ y, l.getD m 0 = y := ⟨_, rfl⟩
        rw [hx] at ck HF HT
        rw [hy] at cm HF HT
        clear hx hy
        go_wp2_with fail
        go_quiet ((first | (go_at_call 16; with_reducible exact Calls.quiet_of_same (bef_quiet x y false HF.out _)) | (go_at_call 16; with_reducible exact Calls.quiet_of_same (bef_quiet y x true HT.out _))))
        go_wp2_with fail
        go_roundw
        case rel => exact ⟨k + 1, by omega, by go_num, Lib.hid (drawn_more HW.out _)⟩
        case measure => simp [intOf]; omega
      · have hd : decide (k < m) = false := by simpa using hkm
        obtain ⟨x, hx⟩ : ∃ x, l.getD k 0 = x := ⟨_, rfl⟩
        obtain ⟨y, hy⟩ : ∃ y, l.getD m 0 = y := ⟨_, rfl⟩
        rw [hx] at ck HF
        rw [hy] at cm HF
        clear hx hy
        go_wp2_with fail
        go_quiet ((go_at_call 16; with_reducible exact Calls.quiet_of_same (bef_quiet x y false HF.out _)))
        go_wp2_with fail
        go_roundw
        case rel => exact ⟨k + 1, by omega, by go_num, Lib.hid (drawn_more HW.out _)⟩
        case measure => simp [intOf]; omega
    · go_wp2_with fail
      go_ret
      exact ⟨rfl, drawn_below HB.out HW.out⟩

set_option maxHeartbeats 4000000 in
theorem order_way2 (a b c : Nat) (g off : Nat) (cap m : Nat) (l : List Nat) (h0 : 0 < l.length) (hn : l.length ≤ 100) (w : World) (HC : Hid (∀ j, j < l.length → w.cell? ⟨g, off + j, none⟩ = some (.float .f64 (l.getD j 0))))
    (b2 : m < l.length) (H3 : Hid (∀ (i : Nat), i < l.length → befB (l.getD i 0) (l.getD m 0) = false)) (H4 : Hid (∀ (i : Nat), i < m → befB (l.getD m 0) (l.getD i 0) = true)) (H1 : Hid (bestI l = (m : Int)))
    (z : befB a a = false) (p : befB a b = true) (q : befB b a = false) (r : befB b c = false) :
    Calls Try.prog 7 #[.float .f64 a, .float .f64 b, .float .f64 c, .slice (some ⟨g, off, none⟩) l.length cap] w (YesB w) := by
  have e1 : ((l.length : Int) == 0) = false := by simp; intro h; rw [h] at h0; simp at h0
  have e2 : decide (100 < (l.length : Int)) = false := by simp; omega
  have e3 : ¬ l = [] := by intro h; rw [h] at h0; simp at h0
  go_enter Try.func7, Try.ntmps7
  go_wp2_with (first | (go_at_call 6; (with_reducible refine (known_any _).mono ?_); rintro e w1 ⟨rfl, hb⟩; have HB := Lib.hid hb; clear hb) | (go_at_call 16; refine (bef_any _ _ _).mono ?_; rintro e w' ⟨rfl, rfl⟩) | (go_at_call 25; refine (isnan_any _ _).mono ?_; rintro e w' ⟨rfl, rfl⟩))
  refine (best_at g off cap m l _ hn H1.out (fun j hj => cell_later HB.out (HC.out j hj))).mono ?_
  rintro e w' ⟨rfl, rfl⟩
  clear e1 e2 e3 z p q r
  go_wp2_with fail
  go_loopw [11] (fun i wr => ∃ k : Nat, k ≤ l.length ∧ i = .int .i64 k ∧ Hid (Drawn w1 wr)) (fun i _ => l.length - (intOf i).toNat)
  case atStart => exact ⟨0, Nat.zero_le _, rfl, Lib.hid (drawn_none _)⟩
  case round =>
    obtain ⟨k, hk, rfl, HW⟩ := hrel
    by_cases hlt : k < l.length
    · have ck : wr.cell? ⟨g, off + k, none⟩ = some (.float .f64 (l.getD k 0)) := drawn_cell HW.out (cell_later HB.out (HC.out k hlt))
      have cm : wr.cell? ⟨g, off + m, none⟩ = some (.float .f64 (l.getD m 0)) := drawn_cell HW.out (cell_later HB.out (HC.out m b2))
      have HF := Lib.hid (H3.out k hlt)
      by_cases hkm : k < m
      · have HT := Lib.hid (H4.out k hkm)
        have hd : decide (k < m) = true := by simpa using hkm
        obtain ⟨x, hx⟩ : ∃ x, l.getD k 0 = x := ⟨_, rfl⟩
        obtain ⟨y, hy⟩ : ∃ y, l.getD m 0 = y := ⟨_, rfl⟩
        rw [hx] at ck HF HT
        rw [hy] at cm HF HT
        clear hx hy
        go_wp2_with fail
        go_quiet ((first | (go_at_call 16; with_reducible exact Calls.quiet_of_same (bef_quiet x y false HF.out _)) | (go_at_call 16; with_reducible exact Calls.quiet_of_same (bef_quiet y x true HT.out _))))
        go_wp2_with fail
        go_roundw
        case rel => exact ⟨k + 1, by omega, by go_num, Lib.hid (drawn_more HW.out _)⟩
        case measure => simp [intOf]; omega
      · have hd : decide (k < m) = false := by simpa using hkm
        obtain ⟨x, hx⟩ : ∃ x, l.getD k 0 = x := ⟨_, rfl⟩
        obtain ⟨y, hy⟩ : ∃ y, l.getD m 0 = y := ⟨_, rfl⟩
        rw [hx] at ck HF
        rw [hy] at cm HF
        clear hx hy
        go_wp2_with fail
        go_quiet ((go_at_call 16; with_reducible exact Calls.quiet_of_same (bef_quiet x y false HF.out _)))
        go_wp2_with fail
        go_roundw
        case rel => exact ⟨k + 1, by omega, by go_num, Lib.hid (drawn_more HW.out _)⟩
        case measure => simp [intOf]; omega
    · go_wp2_with fail
      go_ret
      exact ⟨rfl, drawn_below HB.out HW.out⟩

set_option maxHeartbeats 4000000 in
theorem order_way3 (a b c : Nat) (g off : Nat) (cap m : Nat) (l : List Nat) (h0 : 0 < l.length) (hn : l.length ≤ 100) (w : World) (HC : Hid (∀ j, j < l.length → w.cell? ⟨g, off + j, none⟩ = some (.float .f64 (l.getD j 0))))
    (b2 : m < l.length) (H3 : Hid (∀ (i : Nat), i < l.length → befB (l.getD i 0) (l.getD m 0) = false)) (H4 : Hid (∀ (i : Nat), i < m → befB (l.getD m 0) (l.getD i 0) = true)) (H1 : Hid (bestI l = (m : Int)))
    (z : befB a a = false) (p : befB a b = false) (q : befB b a = true) :
    Calls Try.prog 7 #[.float .f64 a, .float .f64 b, .float .f64 c, .slice (some ⟨g, off, none⟩) l.length cap] w (YesB w) := by
  have e1 : ((l.length : Int) == 0) = false := by simp; intro h; rw [h] at h0; simp at h0
  have e2 : decide (100 < (l.length : Int)) = false := by simp; omega
  have e3 : ¬ l = [] := by intro h; rw [h] at h0; simp at h0
  go_enter Try.func7, Try.ntmps7
  go_wp2_with (first | (go_at_call 6; (with_reducible refine (known_any _).mono ?_); rintro e w1 ⟨rfl, hb⟩; have HB := Lib.hid hb; clear hb) | (go_at_call 16; refine (bef_any _ _ _).mono ?_; rintro e w' ⟨rfl, rfl⟩) | (go_at_call 25; refine (isnan_any _ _).mono ?_; rintro e w' ⟨rfl, rfl⟩))
  refine (best_at g off cap m l _ hn H1.out (fun j hj => cell_later HB.out (HC.out j hj))).mono ?_
  rintro e w' ⟨rfl, rfl⟩
  clear e1 e2 e3 z p q
  go_wp2_with fail
  go_loopw [11] (fun i wr => ∃ k : Nat, k ≤ l.length ∧ i = .int .i64 k ∧ Hid (Drawn w1 wr)) (fun i _ => l.length - (intOf i).toNat)
  case atStart => exact ⟨0, Nat.zero_le _, rfl, Lib.hid (drawn_none _)⟩
  case round =>
    obtain ⟨k, hk, rfl, HW⟩ := hrel
    by_cases hlt : k < l.length
    · have ck : wr.cell? ⟨g, off + k, none⟩ = some (.float .f64 (l.getD k 0)) := drawn_cell HW.out (cell_later HB.out (HC.out k hlt))
      have cm : wr.cell? ⟨g, off + m, none⟩ = some (.float .f64 (l.getD m 0)) := drawn_cell HW.out (cell_later HB.out (HC.out m b2))
      have HF := Lib.hid (H3.out k hlt)
      by_cases hkm : k < m
      · have HT := Lib.hid (H4.out k hkm)
        have hd : decide (k < m) = true := by simpa using hkm
        obtain ⟨x, hx⟩ : ∃ x, l.getD k 0 = x := ⟨_, rfl⟩
        obtain ⟨y, hy⟩ : ∃ y, l.getD m 0 = y := ⟨_, rfl⟩
        rw [hx] at ck HF HT
        rw [hy] at cm HF HT
        clear hx hy
        go_wp2_with fail
        go_quiet ((first | (go_at_call 16; with_reducible exact Calls.quiet_of_same (bef_quiet x y false HF.out _)) | (go_at_call 16; with_reducible exact Calls.quiet_of_same (bef_quiet y x true HT.out _))))
        go_wp2_with fail
        go_roundw
        case rel => exact ⟨k + 1, by omega, by go_num, Lib.hid (drawn_more HW.out _)⟩
        case measure => simp [intOf]; omega
      · have hd : decide (k < m) = false := by simpa using hkm
        obtain ⟨x, hx⟩ : ∃ x, l.getD k 0 = x := ⟨_, rfl⟩
        obtain ⟨y, hy⟩ : ∃ y, l.getD m 0 = y := ⟨_, rfl⟩
        rw [hx] at ck HF
        rw [hy] at cm HF
        clear hx hy
        go_wp2_with fail
        go_quiet ((go_at_call 16; with_reducible exact Calls.quiet_of_same (bef_quiet x y false HF.out _)))
        go_wp2_with fail
        go_roundw
        case rel => exact ⟨k + 1, by omega, by go_num, Lib.hid (drawn_more HW.out _)⟩
        case measure => simp [intOf]; omega
    · go_wp2_with fail
      go_ret
      exact ⟨rfl, drawn_below HB.out HW.out⟩

set_option maxHeartbeats 4000000 in
theorem order_way4 (a b c : Nat) (g off : Nat) (cap m : Nat) (l : List Nat) (h0 : 0 < l.length) (hn : l.length ≤ 100) (w : World) (HC : Hid (∀ j, j < l.length → w.cell? ⟨g, off + j, none⟩ = some (.float .f64 (l.getD j 0))))
    (b2 : m < l.length) (H3 : Hid (∀ (i : Nat), i < l.length → befB (l.getD i 0) (l.getD m 0) = false)) (H4 : Hid (∀ (i : Nat), i < m → befB (l.getD m 0) (l.getD i 0) = true)) (H1 : Hid (bestI l = (m : Int)))
    (z : befB a a = false) (p : befB a b = false) (q : befB b a = false) (ne : (FloatKind.f64.format.order a b != some Ordering.eq) = !true) :
    Calls Try.prog 7 #[.float .f64 a, .float .f64 b, .float .f64 c, .slice (some ⟨g, off, none⟩) l.length cap] w (YesB w) := by
  have e1 : ((l.length : Int) == 0) = false := by simp; intro h; rw [h] at h0; simp at h0
  have e2 : decide (100 < (l.length : Int)) = false := by simp; omega
  have e3 : ¬ l = [] := by intro h; rw [h] at h0; simp at h0
  go_enter Try.func7, Try.ntmps7
  go_wp2_with (first | (go_at_call 6; (with_reducible refine (known_any _).mono ?_); rintro e w1 ⟨rfl, hb⟩; have HB := Lib.hid hb; clear hb) | (go_at_call 16; refine (bef_any _ _ _).mono ?_; rintro e w' ⟨rfl, rfl⟩) | (go_at_call 25; refine (isnan_any _ _).mono ?_; rintro e w' ⟨rfl, rfl⟩))
  refine (best_at g off cap m l _ hn H1.out (fun j hj => cell_later HB.out (HC.out j hj))).mono ?_
  rintro e w' ⟨rfl, rfl⟩
  clear e1 e2 e3 z p q ne
  go_wp2_with fail
  go_loopw [11] (fun i wr => ∃ k : Nat, k ≤ l.length ∧ i = .int .i64 k ∧ Hid (Drawn w1 wr)) (fun i _ => l.length - (intOf i).toNat)
  case atStart => exact ⟨0, Nat.zero_le _, rfl, Lib.hid (drawn_none _)⟩
  case round =>
    obtain ⟨k, hk, rfl, HW⟩ := hrel
    by_cases hlt : k < l.length
    · have ck : wr.cell? ⟨g, off + k, none⟩ = some (.float .f64 (l.getD k 0)) := drawn_cell HW.out (cell_later HB.out (HC.out k hlt))
      have cm : wr.cell? ⟨g, off + m, none⟩ = some (.float .f64 (l.getD m 0)) := drawn_cell HW.out (cell_later HB.out (HC.out m b2))
      have HF := Lib.hid (H3.out k hlt)
      by_cases hkm : k < m
      · have HT := Lib.hid (H4.out k hkm)
        have hd : decide (k < m) = true := by simpa using hkm
        obtain ⟨x, hx⟩ : ∃ x, l.getD k 0 = x := ⟨_, rfl⟩
        obtain ⟨y, hy⟩ : ∃ y, l.getD m 0 = y := ⟨_, rfl⟩
        rw [hx] at ck HF HT
        rw [hy] at cm HF HT
        clear hx hy
        go_wp2_with fail
        go_quiet ((first | (go_at_call 16; with_reducible exact Calls.quiet_of_same (bef_quiet x y false HF.out _)) | (go_at_call 16; with_reducible exact Calls.quiet_of_same (bef_quiet y x true HT.out _))))
        go_wp2_with fail
        go_roundw
        case rel => exact ⟨k + 1, by omega, by go_num, Lib.hid (drawn_more HW.out _)⟩
        case measure => simp [intOf]; omega
      · have hd : decide (k < m) = false := by simpa using hkm
        obtain ⟨x, hx⟩ : ∃ x, l.getD k 0 = x := ⟨_, rfl⟩
        obtain ⟨y, hy⟩ : ∃ y, l.getD m 0 = y := ⟨_, rfl⟩
        rw [hx] at ck HF
        rw [hy] at cm HF
        clear hx hy
        go_wp2_with fail
        go_quiet ((go_at_call 16; with_reducible exact Calls.quiet_of_same (bef_quiet x y false HF.out _)))
        go_wp2_with fail
        go_roundw
        case rel => exact ⟨k + 1, by omega, by go_num, Lib.hid (drawn_more HW.out _)⟩
        case measure => simp [intOf]; omega
    · go_wp2_with fail
      go_ret
      exact ⟨rfl, drawn_below HB.out HW.out⟩

set_option maxHeartbeats 4000000 in
theorem order_way5 (a b c : Nat) (g off : Nat) (cap m : Nat) (l : List Nat) (h0 : 0 < l.length) (hn : l.length ≤ 100) (w : World) (HC : Hid (∀ j, j < l.length → w.cell? ⟨g, off + j, none⟩ = some (.float .f64 (l.getD j 0))))
    (b2 : m < l.length) (H3 : Hid (∀ (i : Nat), i < l.length → befB (l.getD i 0) (l.getD m 0) = false)) (H4 : Hid (∀ (i : Nat), i < m → befB (l.getD m 0) (l.getD i 0) = true)) (H1 : Hid (bestI l = (m : Int)))
    (z : befB a a = false) (p : befB a b = false) (q : befB b a = false) (ne : (FloatKind.f64.format.order a b != some Ordering.eq) = !false) (na : isN a = true) (nb : isN b = true) :
    Calls Try.prog 7 #[.float .f64 a, .float .f64 b, .float .f64 c, .slice (some ⟨g, off, none⟩) l.length cap] w (YesB w) := by
  have e1 : ((l.length : Int) == 0) = false := by simp; intro h; rw [h] at h0; simp at h0
  have e2 : decide (100 < (l.length : Int)) = false := by simp; omega
  have e3 : ¬ l = [] := by intro h; rw [h] at h0; simp at h0
  go_enter Try.func7, Try.ntmps7
  go_wp2_with (first | (go_at_call 6; (with_reducible refine (known_any _).mono ?_); rintro e w1 ⟨rfl, hb⟩; have HB := Lib.hid hb; clear hb) | (go_at_call 16; refine (bef_any _ _ _).mono ?_; rintro e w' ⟨rfl, rfl⟩) | (go_at_call 25; refine (isnan_any _ _).mono ?_; rintro e w' ⟨rfl, rfl⟩))
  refine (best_at g off cap m l _ hn H1.out (fun j hj => cell_later HB.out (HC.out j hj))).mono ?_
  rintro e w' ⟨rfl, rfl⟩
  clear e1 e2 e3 z p q ne na nb
  go_wp2_with fail
  go_loopw [11] (fun i wr => ∃ k : Nat, k ≤ l.length ∧ i = .int .i64 k ∧ Hid (Drawn w1 wr)) (fun i _ => l.length - (intOf i).toNat)
  case atStart => exact ⟨0, Nat.zero_le _, rfl, Lib.hid (drawn_none _)⟩
  case round =>
    obtain ⟨k, hk, rfl, HW⟩ := hrel
    by_cases hlt : k < l.length
    · have ck : wr.cell? ⟨g, off + k, none⟩ = some (.float .f64 (l.getD k 0)) := drawn_cell HW.out (cell_later HB.out (HC.out k hlt))
      have cm : wr.cell? ⟨g, off + m, none⟩ = some (.float .f64 (l.getD m 0)) := drawn_cell HW.out (cell_later HB.out (HC.out m b2))
      have HF := Lib.hid (H3.out k hlt)
      by_cases hkm : k < m
      · have HT := Lib.hid (H4.out k hkm)
        have hd : decide (k < m) = true := by simpa using hkm
        obtain ⟨x, hx⟩ : ∃ x, l.getD k 0 = x := ⟨_, rfl⟩
        obtain ⟨y, hy⟩ : ∃ y, l.getD m 0 = y := ⟨_, rfl⟩
        rw [hx] at ck HF HT
        rw [hy] at cm HF HT
        clear hx hy
        go_wp2_with fail
        go_quiet ((first | (go_at_call 16; with_reducible exact Calls.quiet_of_same (bef_quiet x y false HF.out _)) | (go_at_call 16; with_reducible exact Calls.quiet_of_same (bef_quiet y x true HT.out _))))
        go_wp2_with fail
        go_roundw
        case rel => exact ⟨k + 1, by omega, by go_num, Lib.hid (drawn_more HW.out _)⟩
        case measure => simp [intOf]; omega
      · have hd : decide (k < m) = false := by simpa using hkm
        obtain ⟨x, hx⟩ : ∃ x, l.getD k 0 = x := ⟨_, rfl⟩
        obtain ⟨y, hy⟩ : ∃ y, l.getD m 0 = y := ⟨_, rfl⟩
        rw [hx] at ck HF
        rw [hy] at cm HF
        clear hx hy
        go_wp2_with fail
        go_quiet ((go_at_call 16; with_reducible exact Calls.quiet_of_same (bef_quiet x y false HF.out _)))
        go_wp2_with fail
        go_roundw
        case rel => exact ⟨k + 1, by omega, by go_num, Lib.hid (drawn_more HW.out _)⟩
        case measure => simp [intOf]; omega
    · go_wp2_with fail
      go_ret
      exact ⟨rfl, drawn_below HB.out HW.out⟩

theorem order_row (a b c : Nat) (g off : Nat) (cap : Nat) (l : List Nat) (h0 : 0 < l.length) (hn : l.length ≤ 100) (w : World) (hc : ∀ j, j < l.length → w.cell? ⟨g, off + j, none⟩ = some (.float .f64 (l.getD j 0))) :
    Calls Try.prog 7 #[.float .f64 a, .float .f64 b, .float .f64 c, .slice (some ⟨g, off, none⟩) l.length cap] w (YesB w) := by
  obtain ⟨b1, b2, b3, b4⟩ := best_place h0
  obtain ⟨z, ways⟩ := order_ways a b c
  rcases ways with ⟨p, q, r, t⟩ | ⟨p, q, r⟩ | ⟨p, q⟩ | ⟨p, q, e⟩ | ⟨p, q, e, na, nb⟩
  · exact order_way1 a b c g off cap _ l h0 hn w (Lib.hid hc) b2 (Lib.hid b3) (Lib.hid b4) (Lib.hid b1) z p q r t
  · exact order_way2 a b c g off cap _ l h0 hn w (Lib.hid hc) b2 (Lib.hid b3) (Lib.hid b4) (Lib.hid b1) z p q r
  · exact order_way3 a b c g off cap _ l h0 hn w (Lib.hid hc) b2 (Lib.hid b3) (Lib.hid b4) (Lib.hid b1) z p q
  · exact order_way4 a b c g off cap _ l h0 hn w (Lib.hid hc) b2 (Lib.hid b3) (Lib.hid b4) (Lib.hid b1) z p q (bne_is e)
  · exact order_way5 a b c g off cap _ l h0 hn w (Lib.hid hc) b2 (Lib.hid b3) (Lib.hid b4) (Lib.hid b1) z p q (bne_is e) na nb

end Go.Proofs.Ytonjjblifcgapaa
