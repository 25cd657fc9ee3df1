/-
  The law OctetBack, of all numbers and lists; the laws at lists that are too long.
-/
import Derived.Test.YtbfgmenjkneijaaWs
namespace Go.Proofs.Ytbfgmenjkneijaa
open Go.RowKit
set_option linter.unusedVariables false

theorem getD_behind (al M : List Int) (i : Nat) : (al ++ M).getD (al.length + i) 0 = M.getD i 0 := by
  rw [List.getD, List.getD, List.getElem?_append_right (by omega), Nat.add_sub_cancel_left]
theorem ByteL.append {a b : List Int} (ha : ByteL a) (hb : ByteL b) : ByteL (a ++ b) := fun n hn => by
  rcases List.mem_append.mp hn with h | h
  · exact ha n h
  · exact hb n h

theorem back_get16 (n : Int) (al bl : List Int) (h0 : 0 ≤ n) (h1 : n ≤ 65535) (ha : ByteL al) (hb : ByteL bl) (la : al.length ≤ 1000) (lb : bl.length ≤ 1000) :
    ∀ wx {lo hi : Nat} {v : Value}, Sl wx lo hi v (al ++ ([n / 256, n % 256] ++ bl)) → Calls Try.prog 16 #[v, .int .i64 al.length] wx (GetPost wx n (al.length + 2) 0 0) := fun wx _ _ _ h => by
  have hL : ByteL [n / 256, n % 256] := by
    intro x hx
    simp at hx
    omega
  have hlen : (al ++ ([n / 256, n % 256] ++ bl)).length = al.length + (2 + bl.length) := by simp; omega
  have := get16_any h.top (ha.append (hL.append hb)) (by rw [hlen]; omega) (Nat.le_refl _) al.length
  rw [hlen, Int.toNat_natCast] at this
  have e1 : ∀ v, getF 2 (al.length + (2 + bl.length)) al.length v = v := fun v => by unfold getF; rw [if_pos (by omega)]
  have e2 : getE 2 (al.length + (2 + bl.length)) al.length = 0 := by unfold getE; rw [if_neg (by omega), if_neg (by omega)]
  have e3 : getA 2 (al.length + (2 + bl.length)) al.length = 0 := by unfold getA; rw [if_neg (by omega)]
  have e4 : nAt2 (al ++ ([n / 256, n % 256] ++ bl)) al.length = n := by
    unfold nAt2 num2
    have g0 := getD_behind al ([n / 256, n % 256] ++ bl) 0
    have g1 := getD_behind al ([n / 256, n % 256] ++ bl) 1
    rw [Nat.add_zero] at g0
    rw [g0, g1]
    show n / 256 * 256 + n % 256 = n
    omega
  rw [e1, e1, e2, e3, e4] at this
  exact this

theorem back_get32 (n : Int) (al bl : List Int) (h0 : 0 ≤ n) (h1 : n ≤ 4294967295) (ha : ByteL al) (hb : ByteL bl) (la : al.length ≤ 1000) (lb : bl.length ≤ 1000) :
    ∀ wx {lo hi : Nat} {v : Value}, Sl wx lo hi v (al ++ ([n / 256 / 256 / 256, n / 256 / 256 % 256, n / 256 % 256, n % 256] ++ bl)) → Calls Try.prog 18 #[v, .int .i64 al.length] wx (GetPost wx n (al.length + 4) 0 0) := fun wx _ _ _ h => by
  have hL : ByteL [n / 256 / 256 / 256, n / 256 / 256 % 256, n / 256 % 256, n % 256] := by
    intro x hx
    simp at hx
    omega
  have hlen : (al ++ ([n / 256 / 256 / 256, n / 256 / 256 % 256, n / 256 % 256, n % 256] ++ bl)).length = al.length + (4 + bl.length) := by simp; omega
  have := get32_any h.top (ha.append (hL.append hb)) (by rw [hlen]; omega) (Nat.le_refl _) al.length
  rw [hlen, Int.toNat_natCast] at this
  have e1 : ∀ v, getF 4 (al.length + (4 + bl.length)) al.length v = v := fun v => by unfold getF; rw [if_pos (by omega)]
  have e2 : getE 4 (al.length + (4 + bl.length)) al.length = 0 := by unfold getE; rw [if_neg (by omega), if_neg (by omega)]
  have e3 : getA 4 (al.length + (4 + bl.length)) al.length = 0 := by unfold getA; rw [if_neg (by omega)]
  have e4 : nAt4 (al ++ ([n / 256 / 256 / 256, n / 256 / 256 % 256, n / 256 % 256, n % 256] ++ bl)) al.length = n := by
    unfold nAt4 num4
    have g0 := getD_behind al ([n / 256 / 256 / 256, n / 256 / 256 % 256, n / 256 % 256, n % 256] ++ bl) 0
    have g1 := getD_behind al ([n / 256 / 256 / 256, n / 256 / 256 % 256, n / 256 % 256, n % 256] ++ bl) 1
    have g2 := getD_behind al ([n / 256 / 256 / 256, n / 256 / 256 % 256, n / 256 % 256, n % 256] ++ bl) 2
    have g3 := getD_behind al ([n / 256 / 256 / 256, n / 256 / 256 % 256, n / 256 % 256, n % 256] ++ bl) 3
    rw [Nat.add_zero] at g0
    rw [g0, g1, g2, g3]
    show ((n / 256 / 256 / 256 * 256 + n / 256 / 256 % 256) * 256 + n / 256 % 256) * 256 + n % 256 = n
    omega
  rw [e1, e1, e2, e3, e4] at this
  exact this

theorem put2_fine (n : Int) (h0 : 0 ≤ n) (h1 : n ≤ 65535) : ∀ wx, Calls Try.prog 8 #[.int .i64 n] wx (PutTwo wx [n / 256, n % 256]) := fun wx => by
  have := put16_any n wx
  have e1 : putE 65535 n = 0 := by unfold putE; rw [if_pos ⟨h0, h1⟩]
  have e2 : putL2 n = [n / 256, n % 256] := by unfold putL2; rw [if_pos ⟨h0, h1⟩]
  rw [e1, e2] at this
  exact this.mono fun e w' h => h.of rfl (by omega)
theorem put2_out (n : Int) (h : n < 0 ∨ 65535 < n) : ∀ wx, Calls Try.prog 8 #[.int .i64 n] wx (PutPost wx 5 []) := fun wx => by
  have := put16_any n wx
  have e1 : putE 65535 n = 5 := by unfold putE; rw [if_neg (by omega)]
  have e2 : putL2 n = [] := by unfold putL2; rw [if_neg (by omega)]
  rw [e1, e2] at this
  exact this
theorem put4_in (n : Int) (h0 : 0 ≤ n) (h1 : n ≤ 4294967295) : ∀ wx, Calls Try.prog 10 #[.int .i64 n] wx (PutPost wx 0 [n / 256 / 256 / 256, n / 256 / 256 % 256, n / 256 % 256, n % 256]) := fun wx => by
  have := put32_any n wx
  have e1 : putE 4294967295 n = 0 := by unfold putE; rw [if_pos ⟨h0, h1⟩]
  have e2 : putL4 n = [n / 256 / 256 / 256, n / 256 / 256 % 256, n / 256 % 256, n % 256] := by unfold putL4; rw [if_pos ⟨h0, h1⟩]
  rw [e1, e2] at this
  exact this
theorem put4_fine (n : Int) (h0 : 0 ≤ n) (h1 : n ≤ 4294967295) : ∀ wx, Calls Try.prog 10 #[.int .i64 n] wx (PutFour wx [n / 256 / 256 / 256, n / 256 / 256 % 256, n / 256 % 256, n % 256]) := fun wx =>
  (put4_in n h0 h1 wx).mono fun e w' h => h.of rfl (by omega)
theorem put4_out (n : Int) (h : n < 0 ∨ 4294967295 < n) : ∀ wx, Calls Try.prog 10 #[.int .i64 n] wx (PutPost wx 5 []) := fun wx => by
  have := put32_any n wx
  have e1 : putE 4294967295 n = 5 := by unfold putE; rw [if_neg (by omega)]
  have e2 : putL4 n = [] := by unfold putL4; rw [if_neg (by omega)]
  rw [e1, e2] at this
  exact this

/-- The numbers that the first four bytes are. -/
theorem first_four (bl : List Int) (hb : ByteL bl) (h4 : 4 ≤ bl.length) (lb : bl.length ≤ 1000) : ∃ H K : Int, 0 ≤ H ∧ H ≤ 65535 ∧ 0 ≤ K ∧ K ≤ 65535 ∧
    (∀ wx {lo hi : Nat} {v : Value}, Sl wx lo hi v bl → Calls Try.prog 18 #[v, .int .i64 0] wx (GetPost wx (65536 * H + K) 4 0 0)) ∧
    (∀ wx, Calls Try.prog 10 #[.int .i64 (65536 * H + K)] wx (PutPost wx 0 (bl.take 4))) ∧
    (∀ wx {lo hi : Nat} {v : Value}, Sl wx lo hi v bl → Calls Try.prog 16 #[v, .int .i64 0] wx (GetPost wx H 2 0 0)) ∧
    (∀ wx {lo hi : Nat} {v : Value}, Sl wx lo hi v bl → Calls Try.prog 16 #[v, .int .i64 2] wx (GetPost wx K 4 0 0)) := by
  match bl, h4 with
  | b0 :: b1 :: b2 :: b3 :: r, h4 =>
    have x0 := hb b0 (by simp)
    have x1 := hb b1 (by simp)
    have x2 := hb b2 (by simp)
    have x3 := hb b3 (by simp)
    have hm : (b0 :: b1 :: b2 :: b3 :: r).length ≤ 1000000 := by omega
    refine ⟨num2 b0 b1, num2 b2 b3, by unfold num2; omega, by unfold num2; omega, by unfold num2; omega, by unfold num2; omega, fun wx _ _ _ h => ?_, fun wx => ?_, fun wx _ _ _ h => ?_, fun wx _ _ _ h => ?_⟩
    · have := get32_any h.top hb hm (Nat.le_refl _) 0
      have e1 : ∀ v, getF 4 (b0 :: b1 :: b2 :: b3 :: r).length 0 v = v := fun v => by unfold getF; rw [if_pos (by omega)]
      have e2 : getE 4 (b0 :: b1 :: b2 :: b3 :: r).length 0 = 0 := by unfold getE; rw [if_neg (by omega), if_neg (by omega)]
      have e3 : getA 4 (b0 :: b1 :: b2 :: b3 :: r).length 0 = 0 := by unfold getA; rw [if_neg (by omega)]
      have e4 : nAt4 (b0 :: b1 :: b2 :: b3 :: r) (0 : Int).toNat = 65536 * num2 b0 b1 + num2 b2 b3 := by
        show ((b0 * 256 + b1) * 256 + b2) * 256 + b3 = _
        unfold num2
        omega
      rw [e1, e1, e2, e3, e4] at this
      exact this
    · have := put4_in (65536 * num2 b0 b1 + num2 b2 b3) (by unfold num2; omega) (by unfold num2; omega) wx
      have e1 : (65536 * num2 b0 b1 + num2 b2 b3) / 256 / 256 / 256 = b0 := by unfold num2; omega
      have e2 : (65536 * num2 b0 b1 + num2 b2 b3) / 256 / 256 % 256 = b1 := by unfold num2; omega
      have e3 : (65536 * num2 b0 b1 + num2 b2 b3) / 256 % 256 = b2 := by unfold num2; omega
      have e4 : (65536 * num2 b0 b1 + num2 b2 b3) % 256 = b3 := by unfold num2; omega
      rw [e1, e2, e3, e4] at this
      exact this
    · have := get16_any h.top hb hm (Nat.le_refl _) 0
      have e1 : ∀ v, getF 2 (b0 :: b1 :: b2 :: b3 :: r).length 0 v = v := fun v => by unfold getF; rw [if_pos (by omega)]
      have e2 : getE 2 (b0 :: b1 :: b2 :: b3 :: r).length 0 = 0 := by unfold getE; rw [if_neg (by omega), if_neg (by omega)]
      have e3 : getA 2 (b0 :: b1 :: b2 :: b3 :: r).length 0 = 0 := by unfold getA; rw [if_neg (by omega)]
      rw [e1, e1, e2, e3] at this
      exact this
    · have := get16_any h.top hb hm (Nat.le_refl _) 2
      have e1 : ∀ v, getF 2 (b0 :: b1 :: b2 :: b3 :: r).length 2 v = v := fun v => by unfold getF; rw [if_pos (by omega)]
      have e2 : getE 2 (b0 :: b1 :: b2 :: b3 :: r).length 2 = 0 := by unfold getE; rw [if_neg (by omega), if_neg (by omega)]
      have e3 : getA 2 (b0 :: b1 :: b2 :: b3 :: r).length 2 = 0 := by unfold getA; rw [if_neg (by omega)]
      rw [e1, e1, e2, e3] at this
      exact this

theorem back_any (n : Int) (a a' : Option Addr) (c c' : Nat) (al bl : List Int) (w : World) (SA : Sl w 0 w.heap.size (.slice a al.length c) al) (SB : Sl w 0 w.heap.size (.slice a' bl.length c') bl) (ba : ByteL al) (bb : ByteL bl) (ha : al.length ≤ 100) (hb : bl.length ≤ 100) :
    Calls Try.prog 5 #[.int .i64 n, .slice a al.length c, .slice a' bl.length c'] w (YesB w) := by
  have hla : al.length ≤ 1000 := by omega
  have hlb : bl.length ≤ 1000 := by omega
  have SA := Lib.hid SA
  have SB := Lib.hid SB
  by_cases h4 : 4 ≤ bl.length
  · obtain ⟨H, K, u0, u1, u2, u3, t1, t2, t3, t4⟩ := first_four bl bb h4 hlb
    by_cases hn : n < 0
    · exact back_low_long n a a' c c' al bl w SA SB hla ha hb hn (put2_out n (.inl hn)) (put4_out n (.inl hn)) h4 H K u0 u1 u2 u3 t1 t2 t3 t4
    · by_cases hm : n ≤ 65535
      · exact back_in16_long n a a' c c' al bl w SA SB hla ha hb (by omega) hm (by simp; omega) _ _ rfl rfl (put2_fine n (by omega) hm) (put4_fine n (by omega) (by omega))
          (back_get16 n al bl (by omega) hm ba bb hla hlb) (back_get32 n al bl (by omega) (by omega) ba bb hla hlb) h4 H K u0 u1 u2 u3 t1 t2 t3 t4
      · by_cases hk : n ≤ 4294967295
        · exact back_in32_long n a a' c c' al bl w SA SB hla ha hb (by omega) hk _ rfl (put2_out n (.inr (by omega))) (put4_fine n (by omega) hk) (back_get32 n al bl (by omega) hk ba bb hla hlb) h4 H K u0 u1 u2 u3 t1 t2 t3 t4
        · exact back_high_long n a a' c c' al bl w SA SB hla ha hb (by omega) (put2_out n (.inr (by omega))) (put4_out n (.inr (by omega))) h4 H K u0 u1 u2 u3 t1 t2 t3 t4
  · have hF : getE 4 bl.length 0 = 4 := by unfold getE; rw [if_neg (by omega), if_pos (by omega)]
    have hN : ∀ v, getF 4 bl.length 0 v = 0 := fun v => by unfold getF; rw [if_neg (by omega)]
    have t : ∀ wx {lo hi : Nat} {v : Value}, Sl wx lo hi v bl → Calls Try.prog 18 #[v, .int .i64 0] wx (GetPost wx 0 0 4 (getA 4 bl.length 0)) := fun wx _ _ _ h => by
      have := get32_any h.top bb (by omega) (Nat.le_refl _) 0
      rw [hN, hN, hF] at this
      exact this
    by_cases hn : n < 0
    · exact back_low_short n a a' c c' al bl w SA SB hla ha hb hn (put2_out n (.inl hn)) (put4_out n (.inl hn)) 4 _ (by omega) rfl rfl t
    · by_cases hm : n ≤ 65535
      · exact back_in16_short n a a' c c' al bl w SA SB hla ha hb (by omega) hm (by simp; omega) _ _ rfl rfl (put2_fine n (by omega) hm) (put4_fine n (by omega) (by omega))
          (back_get16 n al bl (by omega) hm ba bb hla hlb) (back_get32 n al bl (by omega) (by omega) ba bb hla hlb) 4 _ (by omega) rfl rfl t
      · by_cases hk : n ≤ 4294967295
        · exact back_in32_short n a a' c c' al bl w SA SB hla ha hb (by omega) hk _ rfl (put2_out n (.inr (by omega))) (put4_fine n (by omega) hk) (back_get32 n al bl (by omega) hk ba bb hla hlb) 4 _ (by omega) rfl rfl t
        · exact back_high_short n a a' c c' al bl w SA SB hla ha hb (by omega) (put2_out n (.inr (by omega))) (put4_out n (.inr (by omega))) 4 _ (by omega) rfl rfl t

/-! ### Lists that are too long -/
set_option maxRecDepth 100000 in
set_option maxHeartbeats 1000000 in
theorem back_big (n : Int) (a a' : Option Addr) (m m' c c' : Nat) (w : World) (h : 100 < m ∨ 100 < m') : Calls Try.prog 5 #[.int .i64 n, .slice a m c, .slice a' m' c'] w (YesB w) := by
  by_cases h1 : 100 < m
  · clear h
    go_enter Try.func5, Try.ntmps5
    go_wp2_with (go_at_call 14; refine (awake_any _).mono ?_; rintro e w1 ⟨rfl, hb⟩; have HB := Lib.hid hb; clear hb)
    go_ret
    exact ⟨rfl, HB.out⟩
  · have h2 : 100 < m' := by omega
    clear h
    go_enter Try.func5, Try.ntmps5
    go_wp2_with (go_at_call 14; refine (awake_any _).mono ?_; rintro e w1 ⟨rfl, hb⟩; have HB := Lib.hid hb; clear hb)
    go_ret
    exact ⟨rfl, HB.out⟩
set_option maxHeartbeats 1000000 in
theorem parts_big (a : Option Addr) (m c : Nat) (t n n2 : Int) (w : World) (h : 1000 < m) : Calls Try.prog 6 #[.slice a m c, .int .i64 t, .int .i64 n, .int .i64 n2] w (YesB w) := by
  go_enter Try.func6, Try.ntmps6
  go_wp2_with (go_at_call 14; refine (awake_any _).mono ?_; rintro e w1 ⟨rfl, hb⟩; have HB := Lib.hid hb; clear hb)
  go_ret
  exact ⟨rfl, HB.out⟩
set_option maxHeartbeats 1000000 in
theorem gets_big (a : Option Addr) (m c : Nat) (t n : Int) (w : World) (h : 1000 < m) : Calls Try.prog 4 #[.slice a m c, .int .i64 t, .int .i64 n] w (YesB w) := by
  go_enter Try.func4, Try.ntmps4
  go_wp2
  go_ret
  exact ⟨rfl, Below.refl _ _⟩
end Go.Proofs.Ytbfgmenjkneijaa
