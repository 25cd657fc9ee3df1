/-
  Size, the program's and the document's.
-/
import Derived.Test.YtckmjpnkjnihlaaJd
namespace Go.Proofs.Ytckmjpnkjnihlaa
open Go.RowKit Go.Shelf
set_option linter.unusedVariables false
set_option maxRecDepth 100000

/-- How many bytes; is there a text of so many letters? -/
def szB (n : Int) : Bool := !(decide (n < 0) || decide (n % 4 = 1))
def szN (n : Int) : Int := if szB n then n / 4 * 3 + n % 4 * 6 / 8 else 0

set_option maxHeartbeats 1000000 in
theorem size_any (n : Int) (h0 : -9223372036854775808 ≤ n) (h1 : n ≤ 9223372036854775807) (w : World) :
    Calls Try.prog 10 #[.int .i64 n] w fun e w' => e = .returned (.tuple #[.int .i64 (szN n), .bool (szB n)]) ∧ w = w' := by
  obtain ⟨N, hN⟩ : ∃ N, szN n = N := ⟨_, rfl⟩
  obtain ⟨B, hB⟩ : ∃ B, szB n = B := ⟨_, rfl⟩
  have HN := Lib.hid hN
  have HB := Lib.hid hB
  rw [hN, hB]
  by_cases hneg : n < 0
  · have hb : B = false := by rw [← HB.out]; unfold szB; simp [hneg]
    have hn : N = 0 := by rw [← HN.out]; unfold szN; rw [HB.out, hb]; rfl
    subst hb; subst hn
    clear hN hB HN HB
    have t1 : decide (n < 0) = true := by simpa using hneg
    go_enter Try.func10, Try.ntmps10
    go_wp2
    go_ret2
    exact ⟨rfl, rfl⟩
  · have t1 : decide (n < 0) = false := by simpa using hneg
    obtain ⟨m, rfl⟩ : ∃ m : Nat, n = m := ⟨n.toNat, by omega⟩
    have hm : ((m : Int)).tmod 4 = ((m % 4 : Nat) : Int) := by rw [Int.tmod_eq_emod_of_nonneg (by omega)]; omega
    have hq : ((m : Int)).tdiv 4 = ((m / 4 : Nat) : Int) := by rw [Int.tdiv_eq_ediv_of_nonneg (by omega)]; omega
    by_cases h4 : m % 4 = 1
    · have hb : B = false := by rw [← HB.out]; unfold szB; have : (m : Int) % 4 = 1 := by omega
                                simp [this]
      have hn : N = 0 := by rw [← HN.out]; unfold szN; rw [HB.out, hb]; rfl
      subst hb; subst hn
      rw [h4] at hm
      clear hN hB HN HB
      go_enter Try.func10, Try.ntmps10
      go_wp2
      go_ret2
      exact ⟨rfl, rfl⟩
    · have hb : B = true := by rw [← HB.out]; unfold szB; have : ¬ (m : Int) % 4 = 1 := by omega
                               simp [this, hneg]
      have hn : N = ((m / 4 * 3 + m % 4 * 6 / 8 : Nat) : Int) := by rw [← HN.out]; unfold szN; rw [HB.out, hb, if_pos rfl]; omega
      subst hb; subst hn
      clear hN hB HN HB
      go_enter Try.func10, Try.ntmps10
      go_wp2
      go_ret2
      exact ⟨rfl, rfl⟩

set_option maxHeartbeats 1000000 in
theorem rsize_any (n : Int) (h0 : -9223372036854775808 ≤ n) (h1 : n ≤ 9223372036854775807) (w : World) :
    Calls Try.prog 11 #[.int .i64 n] w fun e w' => e = .returned (.tuple #[.int .i64 (szN n), .bool (szB n)]) ∧ w = w' := by
  obtain ⟨N, hN⟩ : ∃ N, szN n = N := ⟨_, rfl⟩
  obtain ⟨B, hB⟩ : ∃ B, szB n = B := ⟨_, rfl⟩
  have HN := Lib.hid hN
  have HB := Lib.hid hB
  rw [hN, hB]
  by_cases hneg : n < 0
  · have hb : B = false := by rw [← HB.out]; unfold szB; simp [hneg]
    have hn : N = 0 := by rw [← HN.out]; unfold szN; rw [HB.out, hb]; rfl
    subst hb; subst hn
    clear hN hB HN HB
    have t1 : decide (n < 0) = true := by simpa using hneg
    go_enter Try.func11, Try.ntmps11
    go_wp2
    go_ret2
    exact ⟨rfl, rfl⟩
  · have t1 : decide (n < 0) = false := by simpa using hneg
    obtain ⟨m, rfl⟩ : ∃ m : Nat, n = m := ⟨n.toNat, by omega⟩
    have hm : ((m : Int)).tmod 4 = ((m % 4 : Nat) : Int) := by rw [Int.tmod_eq_emod_of_nonneg (by omega)]; omega
    have hq : ((m : Int)).tdiv 4 = ((m / 4 : Nat) : Int) := by rw [Int.tdiv_eq_ediv_of_nonneg (by omega)]; omega
    by_cases h4 : m % 4 = 1
    · have hb : B = false := by rw [← HB.out]; unfold szB; have : (m : Int) % 4 = 1 := by omega
                                simp [this]
      have hn : N = 0 := by rw [← HN.out]; unfold szN; rw [HB.out, hb]; rfl
      subst hb; subst hn
      rw [h4] at hm
      clear hN hB HN HB
      go_enter Try.func11, Try.ntmps11
      go_wp2
      go_ret2
      exact ⟨rfl, rfl⟩
    · have hb : B = true := by rw [← HB.out]; unfold szB; have : ¬ (m : Int) % 4 = 1 := by omega
                               simp [this, hneg]
      have hn : N = ((m / 4 * 3 + m % 4 * 6 / 8 : Nat) : Int) := by rw [← HN.out]; unfold szN; rw [HB.out, hb, if_pos rfl]; omega
      subst hb; subst hn
      clear hN hB HN HB
      go_enter Try.func11, Try.ntmps11
      go_wp2
      go_ret2
      exact ⟨rfl, rfl⟩

end Go.Proofs.Ytckmjpnkjnihlaa
