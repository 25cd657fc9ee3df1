/-
  octet.Put16, Put32.
-/
import Derived.Test.YtaikpgcmcmkdcaaBWords
namespace Go.Proofs.Ytaikpgcmcmkdcaa
open Go.RowKit
set_option linter.unusedVariables false
set_option maxRecDepth 100000

/-- The error that Put tells, and the bytes. -/
def putE (m n : Int) : Int := if 0 ≤ n ∧ n ≤ m then 0 else 5

def putL2 (n : Int) : List Int := if 0 ≤ n ∧ n ≤ 65535 then [n / 256, n % 256] else []

def putL4 (n : Int) : List Int := if 0 ≤ n ∧ n ≤ 4294967295 then [n / 256 / 256 / 256, n / 256 / 256 % 256, n / 256 % 256, n % 256] else []

def PutPost (w : World) (E : Int) (L : List Int) (e : Ending) (w' : World) : Prop :=
  ∃ v g, e = .returned (.tuple #[v, .int .i64 E]) ∧ Own w' g v L ∧ w.heap.size ≤ g ∧ g < w'.heap.size ∧ Below w.heap.size w w'

set_option maxHeartbeats 400000 in
theorem put2_any (n : Int) (w : World) : Calls Try.prog 84 #[.int .i64 n] w (PutPost w (putE 65535 n) (putL2 n)) := by
  have hm := make2
  by_cases h : 0 ≤ n ∧ n ≤ 65535
  · have e1 : putE 65535 n = 0 := by unfold putE; rw [if_pos h]
    have e2 : putL2 n = [n / 256, n % 256] := by unfold putL2; rw [if_pos h]
    rw [e1, e2]
    clear e1 e2
    obtain ⟨h0, h1⟩ := h
    go_enter Try.func84, Try.ntmps84
    go_wp2
    refine wp_loop_rounds 3 ?_
    iterate 3 (rw [rounds_succ]; go_wp2)
    go_ret2
    exact ⟨_, w.heap.size + 1, rfl, .inr ⟨rfl, two_alloc _ _ _⟩, by omega, by simp, ((Below.refl _ _).alloc (Nat.le_refl _) _).alloc (by simp) _⟩
  · have e1 : putE 65535 n = 5 := by unfold putE; rw [if_neg h]
    have e2 : putL2 n = [] := by unfold putL2; rw [if_neg h]
    rw [e1, e2]
    clear e1 e2
    have h : n < 0 ∨ 65535 < n := by omega
    go_enter Try.func84, Try.ntmps84
    go_wp2
    refine wp_loop_rounds 3 ?_
    iterate 3 (rw [rounds_succ]; go_wp2)
    go_ret2
    exact ⟨_, w.heap.size, rfl, .inl ⟨rfl, rfl⟩, by omega, by simp; omega, ((Below.refl _ _).alloc (Nat.le_refl _) _).alloc (by simp) _⟩

set_option maxHeartbeats 400000 in
theorem put4_any (n : Int) (w : World) : Calls Try.prog 85 #[.int .i64 n] w (PutPost w (putE 4294967295 n) (putL4 n)) := by
  have hm := make4
  by_cases h : 0 ≤ n ∧ n ≤ 4294967295
  · have e1 : putE 4294967295 n = 0 := by unfold putE; rw [if_pos h]
    have e2 : putL4 n = [n / 256 / 256 / 256, n / 256 / 256 % 256, n / 256 % 256, n % 256] := by unfold putL4; rw [if_pos h]
    rw [e1, e2]
    clear e1 e2
    obtain ⟨h0, h1⟩ := h
    go_enter Try.func85, Try.ntmps85
    go_wp2
    refine wp_loop_rounds 5 ?_
    iterate 5 (rw [rounds_succ]; go_wp2)
    go_ret2
    exact ⟨_, w.heap.size + 1, rfl, .inr ⟨rfl, two_alloc _ _ _⟩, by omega, by simp, ((Below.refl _ _).alloc (Nat.le_refl _) _).alloc (by simp) _⟩
  · have e1 : putE 4294967295 n = 5 := by unfold putE; rw [if_neg h]
    have e2 : putL4 n = [] := by unfold putL4; rw [if_neg h]
    rw [e1, e2]
    clear e1 e2
    have h : n < 0 ∨ 4294967295 < n := by omega
    go_enter Try.func85, Try.ntmps85
    go_wp2
    refine wp_loop_rounds 5 ?_
    iterate 5 (rw [rounds_succ]; go_wp2)
    go_ret2
    exact ⟨_, w.heap.size, rfl, .inl ⟨rfl, rfl⟩, by omega, by simp; omega, ((Below.refl _ _).alloc (Nat.le_refl _) _).alloc (by simp) _⟩

set_option maxHeartbeats 400000 in
theorem put16_any (n : Int) (w : World) : Calls Try.prog 64 #[.int .i64 n] w (PutPost w (putE 65535 n) (putL2 n)) := by
  go_enter Try.func64, Try.ntmps64
  go_wp2_with (go_at_call 84; refine (put2_any n _).mono ?_; rintro e w1 ⟨v, g, rfl, h1, h2, h3, h4⟩; have H1 := Lib.hid h1; have H2 := Lib.hid h2; have H3 := Lib.hid h3; have H4 := Lib.hid h4; clear h1 h2 h3 h4)
  go_ret2
  exact ⟨v, g, rfl, H1.out, H2.out, H3.out, H4.out⟩

set_option maxHeartbeats 400000 in
theorem put32_any (n : Int) (w : World) : Calls Try.prog 68 #[.int .i64 n] w (PutPost w (putE 4294967295 n) (putL4 n)) := by
  go_enter Try.func68, Try.ntmps68
  go_wp2_with (go_at_call 85; refine (put4_any n _).mono ?_; rintro e w1 ⟨v, g, rfl, h1, h2, h3, h4⟩; have H1 := Lib.hid h1; have H2 := Lib.hid h2; have H3 := Lib.hid h3; have H4 := Lib.hid h4; clear h1 h2 h3 h4)
  go_ret2
  exact ⟨v, g, rfl, H1.out, H2.out, H3.out, H4.out⟩

theorem putL2_len (n : Int) : (putL2 n).length ≤ 2 := by unfold putL2; split <;> simp

theorem putL4_len (n : Int) : (putL4 n).length ≤ 4 := by unfold putL4; split <;> simp
end Go.Proofs.Ytaikpgcmcmkdcaa
