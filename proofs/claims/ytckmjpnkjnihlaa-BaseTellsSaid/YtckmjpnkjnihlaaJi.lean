/-
  The document's letters, numbers, bits.
-/
import Derived.Test.YtckmjpnkjnihlaaJh
namespace Go.Proofs.Ytckmjpnkjnihlaa
open Go.RowKit Go.Shelf
set_option linter.unusedVariables false
set_option maxRecDepth 100000

theorem letters_any (w : World) : Calls Try.prog 27 #[] w fun e w' => e = .returned (.string (bs alph)) ∧ w = w' := by
  go_enter Try.func27, Try.ntmps27
  go_wp2
  go_ret
  exact ⟨rfl, rfl⟩

/-- A byte's number, as the document tells it. -/
def numN (c : UInt8) : Int := if nm c < 64 then (nm c : Nat) else -1

theorem nm_here (c : UInt8) (k : Nat) (h : k < 64) (h1 : k ≤ nm c) (h2 : ltr k = c) : nm c = k := by rw [← h2]; exact nm_ltr k h

set_option maxHeartbeats 1000000 in
theorem number_any (c : UInt8) (w : World) : Calls Try.prog 24 #[.int .u8 (c.toNat : Nat)] w fun e w' => e = .returned (.int .i64 (numN c)) ∧ w = w' := by
  have HL := Lib.hid letters_any
  obtain ⟨N, hN⟩ : ∃ N, numN c = N := ⟨_, rfl⟩
  have HN := Lib.hid hN
  obtain ⟨x, hx⟩ : ∃ x, c.toNat = x := ⟨_, rfl⟩
  have HXC := Lib.hid hx
  rw [hN, hx]
  clear hN hx
  go_enter Try.func24, Try.ntmps24
  go_wp2_with fail
  refine (HL.out _).mono ?_; rintro e w1 ⟨rfl, rfl⟩
  go_wp2_with fail
  go_loopg [4] 64 (fun g v4 wr => ∃ k : Nat, k + g = 64 ∧ v4 = .int .i64 k ∧ k ≤ nm c ∧ w = wr)
  case atStart => exact ⟨0, by omega, rfl, Nat.zero_le _, rfl⟩
  case round =>
    obtain ⟨k, hk, rfl, hle, rfl⟩ := hrel
    by_cases hlt : k < 64
    · have hix := ix_run alph k hlt
      have el : alph[k]'hlt = ltr k := by unfold ltr; rw [List.getD, List.getElem?_eq_getElem (show k < alph.length from hlt)]; rfl
      rw [el] at hix
      by_cases hc : ltr k = c
      · have hn := nm_here c k hlt hle hc
        have e1 := HN.out
        unfold numN at e1
        rw [hn, if_pos hlt] at e1
        subst e1
        rw [hc, HXC.out] at hix
        clear hn hc el HN
        go_wp2_with fail
        go_ret
        exact ⟨rfl, rfl⟩
      · have hne : k ≠ nm c := fun e => hc (by rw [e]; exact ltr_nm c (by omega))
        have t1 : (((ltr k).toNat : Int) == (c.toNat : Int)) = false := by
          simp
          exact fun e => hc (UInt8.toNat_inj.mp (by exact_mod_cast e))
        obtain ⟨y, hy⟩ : ∃ y, (ltr k).toNat = y := ⟨_, rfl⟩
        rw [hy] at hix
        rw [HXC.out, hy] at t1
        clear hc el hy
        go_wp2_with fail
        go_roundg (64 - (k + 1))
        case measure => omega
        case rel => exact ⟨k + 1, by omega, by go_num, by omega, rfl⟩
    · have e1 := HN.out
      unfold numN at e1
      rw [if_neg (by omega)] at e1
      subst e1
      go_wp2_with fail
      go_ret
      exact ⟨rfl, rfl⟩

/-- A bit of bytes. -/
def bitN (b : List UInt8) (i : Nat) : Nat := gb b (i / 8) / 2 ^ (7 - i % 8) % 2

set_option maxHeartbeats 1000000 in
theorem bit_any {w : World} {lo hi : Nat} {v : Value} (b : List UInt8) (h : Sl w lo hi v (iz b)) (hl : b.length ≤ 300000) (i : Nat) (hi2 : i ≤ 8000000) :
    Calls Try.prog 28 #[v, .int .i64 i] w fun e w' => e = .returned (.int .i64 (bitN b i : Nat)) ∧ w = w' := by
  have HX := Lib.hid h
  obtain ⟨a, c, rfl, _⟩ := h
  rw [iz_len] at HX ⊢
  have hq : ((i : Nat) : Int).tdiv 8 = ((i / 8 : Nat) : Int) := by rw [Int.tdiv_eq_ediv_of_nonneg (by omega)]; omega
  obtain ⟨q, hq0⟩ : ∃ q, i / 8 = q := ⟨_, rfl⟩
  rw [hq0] at hq
  by_cases hlt : q < b.length
  · obtain ⟨bb, off, ha, hcell⟩ : ∃ bb off, a = some ⟨bb, off, none⟩ ∧ w.cell? ⟨bb, off + q, none⟩ = some (.int .u8 (b[q].toNat : Nat)) := by
      obtain ⟨a', c', he, _, _, hp⟩ := HX.out
      injection he with e1 e2 e3
      obtain ⟨bb, off, h1, _, _, h4⟩ := hp (by rw [iz_len]; omega)
      refine ⟨bb, off, by rw [e1, h1], ?_⟩
      rw [h4 q (by rw [iz_len]; exact hlt), iz_get b q hlt]
    subst ha
    have hx8 : b[q].toNat < 256 := b[q].toNat_lt
    have hv : bitN b i = b[q].toNat / 2 ^ (7 - i % 8) % 2 := by unfold bitN; rw [hq0, gb_at b q hlt]
    rw [hv]
    obtain ⟨x, hx⟩ : ∃ x, b[q].toNat = x := ⟨_, rfl⟩
    rw [hx] at hcell hx8 ⊢
    have hr8 : i % 8 < 8 := by omega
    have hrm : ((i : Nat) : Int).tmod 8 = ((i % 8 : Nat) : Int) := by rw [Int.tmod_eq_emod_of_nonneg (by omega)]; omega
    obtain ⟨r, hr⟩ : ∃ r, i % 8 = r := ⟨_, rfl⟩
    rw [hr] at hrm hr8 ⊢
    have t1 : ¬ b.length ≤ q := by omega
    clear hx hv HX
    obtain rfl | rfl | rfl | rfl | rfl | rfl | rfl | rfl : r = 0 ∨ r = 1 ∨ r = 2 ∨ r = 3 ∨ r = 4 ∨ r = 5 ∨ r = 6 ∨ r = 7 := by omega
    · rw [show ((x / 2 ^ (7 - 0) % 2 : Nat) : Int) = (x : Int) / 128 % 2 by omega]
      go_enter Try.func28, Try.ntmps28
      go_wp2_with fail
      go_ret
      exact ⟨rfl, rfl⟩
    · rw [show ((x / 2 ^ (7 - 1) % 2 : Nat) : Int) = (x : Int) / 64 % 2 by omega]
      go_enter Try.func28, Try.ntmps28
      go_wp2_with fail
      go_ret
      exact ⟨rfl, rfl⟩
    · rw [show ((x / 2 ^ (7 - 2) % 2 : Nat) : Int) = (x : Int) / 32 % 2 by omega]
      go_enter Try.func28, Try.ntmps28
      go_wp2_with fail
      go_ret
      exact ⟨rfl, rfl⟩
    · rw [show ((x / 2 ^ (7 - 3) % 2 : Nat) : Int) = (x : Int) / 16 % 2 by omega]
      go_enter Try.func28, Try.ntmps28
      go_wp2_with fail
      go_ret
      exact ⟨rfl, rfl⟩
    · rw [show ((x / 2 ^ (7 - 4) % 2 : Nat) : Int) = (x : Int) / 8 % 2 by omega]
      go_enter Try.func28, Try.ntmps28
      go_wp2_with fail
      go_ret
      exact ⟨rfl, rfl⟩
    · rw [show ((x / 2 ^ (7 - 5) % 2 : Nat) : Int) = (x : Int) / 4 % 2 by omega]
      go_enter Try.func28, Try.ntmps28
      go_wp2_with fail
      go_ret
      exact ⟨rfl, rfl⟩
    · rw [show ((x / 2 ^ (7 - 6) % 2 : Nat) : Int) = (x : Int) / 2 % 2 by omega]
      go_enter Try.func28, Try.ntmps28
      go_wp2_with fail
      go_ret
      exact ⟨rfl, rfl⟩
    · rw [show ((x / 2 ^ (7 - 7) % 2 : Nat) : Int) = (x : Int) % 2 by omega]
      go_enter Try.func28, Try.ntmps28
      go_wp2_with fail
      go_ret
      exact ⟨rfl, rfl⟩
  · have hv : bitN b i = 0 := by unfold bitN; rw [hq0, gb_end b q (by omega)]; simp
    rw [hv]
    have t1 : b.length ≤ q := by omega
    clear HX hv
    go_enter Try.func28, Try.ntmps28
    go_wp2_with fail
    go_ret
    exact ⟨rfl, rfl⟩
end Go.Proofs.Ytckmjpnkjnihlaa
