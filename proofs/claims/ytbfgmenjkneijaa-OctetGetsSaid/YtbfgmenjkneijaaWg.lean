/-
  The numbers that two and four bytes are, and the panic of an index out of range where there are fewer.
-/
import Derived.Test.YtbfgmenjkneijaaWf
import Derived.Laws.BitsLemmas
import Derived.Laws.Panics
import Derived.BigQuiet
import Derived.Deep.QuietTactic
import Derived.Deep.RegionHeld
namespace Go.Proofs.Ytbfgmenjkneijaa
open Go.RowKit
set_option linter.unusedVariables false

theorem wraps_i64 (n : Int) (h0 : 0 ≤ n) (h1 : n < 2 ^ 63) : IntKind.i64.wrap n = n := by
  have e : (2 : Int) ^ 63 = 9223372036854775808 := by decide
  rw [e] at h1
  exact IntWalk.i64_in _ (by omega)
theorem or_byte (X y : Int) (h0 : 0 ≤ X) (h1 : X ≤ 36028797018963967) (y0 : 0 ≤ y) (y1 : y ≤ 255) : bits .or .i64 (X * 256) y = X * 256 + y := by
  have e : (2 : Int) ^ 63 = 9223372036854775808 := by decide
  have e8 : (2 : Int) ^ 8 = 256 := by decide
  exact bits_join .i64 63 (by decide) wraps_i64 8 (X * 256) y (by omega) (by rw [e8]; omega) (by rw [e]; omega) y0 (by rw [e8]; omega) (by rw [e]; omega)
theorem or_none (y : Int) (y0 : 0 ≤ y) (y1 : y ≤ 255) : bits .or .i64 0 y = y := by
  have := or_byte 0 y (by omega) (by omega) y0 y1
  simpa using this
theorem or_wrap (X y : Int) (h0 : 0 ≤ X) (h1 : X ≤ 36028797018963967) (y0 : 0 ≤ y) (y1 : y ≤ 255) : bits .or .i64 (wrap64 (X * 256)) y = X * 256 + y := by
  rw [IntWalk.wrap64_in _ ⟨by omega, by omega⟩]
  exact or_byte X y h0 h1 y0 y1

/-- The number that two, that four bytes are. -/
def num2 (x y : Int) : Int := x * 256 + y
def num4 (x y z t : Int) : Int := ((x * 256 + y) * 256 + z) * 256 + t

/-- An end by the panic of an index out of range; below w nothing has turned. -/
def NumBad (w : World) (e : Ending) (w' : World) : Prop :=
  ∃ x y s c, e = .panicked [{ v := .iface 8 (.agg #[.int .i64 x, .int .i64 y, .bool s, .int .u8 c]), recovered := false }] ∧ Below w.heap.size w w'

theorem bp_run {α : Type} (k : IntKind) (x y : Int) (code : BoundsCode) (w : World) :
    ∃ s n c, (boundsPanic k x y code : Sem α).run Try.prog w = .halt (.panic (.iface 8 (.agg #[.int .i64 (IntKind.i64.wrap x), .int .i64 y, .bool s, .int .u8 c]))) (w.drewN n) := by
  unfold boundsPanic
  split
  · simp only [runtimePanic, goPanic, go_sem]
    exact ⟨_, 1, _, rfl⟩
  · simp only [runtimePanic, goPanic, go_sem]
    exact ⟨_, 0, _, rfl⟩

theorem idx_out (a : Option Addr) (len cap : Nat) (i : Int) (hnil : a = none → len = 0) (ho : i < 0 ∨ (len : Int) ≤ i) (w : World) :
    ∃ x y s n c, (Instr.indexAt 22 (.slice a len cap) (.int .i64 i)).run Try.prog w = .halt (.panic (.iface 8 (.agg #[.int .i64 x, .int .i64 y, .bool s, .int .u8 c]))) (w.drewN n) := by
  cases a with
  | some a =>
    rw [run_indexAt_slice (h := Try.underlying22), if_neg (by omega)]
    obtain ⟨s, n, c, h⟩ := bp_run (α := Value) .i64 i len .index w
    exact ⟨_, _, s, n, c, h⟩
  | none =>
    obtain rfl := hnil rfl
    have e : (Instr.indexAt 22 (.slice none 0 cap) (.int .i64 i)).run Try.prog w = (boundsPanic .i64 i 0 .index).run Try.prog w := by
      simp [Instr.indexAt, run_underlying Try.underlying22, asIntOf]
    rw [e]
    obtain ⟨s, n, c, h⟩ := bp_run (α := Value) .i64 i 0 .index w
    exact ⟨_, _, s, n, c, h⟩

set_option maxHeartbeats 1000000 in
theorem number2_ok (g off n : Nat) (p c : Nat) (x y : Int) (h : p + 2 ≤ n) (hn : n ≤ 1000000) (w : World)
    (cx : w.cell? ⟨g, off + p, none⟩ = some (.int .u8 x)) (x0 : 0 ≤ x) (x1 : x ≤ 255)
    (cy : w.cell? ⟨g, off + (p + 1), none⟩ = some (.int .u8 y)) (y0 : 0 ≤ y) (y1 : y ≤ 255)
    : Calls Try.prog 29 #[.slice (some ⟨g, off, none⟩) n c, .int .i64 p] w fun e w' => e = .returned (.tuple #[.int .i64 (num2 x y), .int .i64 (p + 2)]) ∧ Below w.heap.size w w' := by
  have hg : g < w.heap.size := World.block_lt_of_cell? w _ cx
  go_enter Try.func29, Try.ntmps29
  go_wp2
  refine wp_loop_rounds 3 ?_
  iterate 3 (rw [rounds_succ]; go_wp2)
  go_quiet (fail)
  go_wp2
  go_ret2
  refine ⟨?_, below_drewN ((Below.refl _ _).alloc (Nat.le_refl _) _) _⟩
  rw [or_none x x0 x1, or_wrap x y (by omega) (by omega) y0 y1]
  rfl

set_option maxHeartbeats 1000000 in
theorem number2_no0 (a : Option Addr) (p c : Nat) (hn : p ≤ 1000000) (ha : a = none → p = 0) (w : World) : Calls Try.prog 29 #[.slice a p c, .int .i64 p] w (NumBad w) := by
  obtain ⟨e1, e2, e3, e4, e5, hrun⟩ := idx_out a p c p ha (by omega) (w.alloc (.cells #[.int .u8 0, .int .u8 0] 41))
  go_enter Try.func29, Try.ntmps29
  go_wp2
  refine wp_loop_rounds 3 ?_
  iterate 1 (rw [rounds_succ]; go_wp2)
  exact ⟨rfl, e1, e2, e3, e5, rfl, below_drewN ((Below.refl _ _).alloc (Nat.le_refl _) _) _⟩

set_option maxHeartbeats 1000000 in
theorem number2_no1 (g off n : Nat) (p c : Nat) (x : Int) (h : p + 1 = n) (hn : n ≤ 1000000) (w : World)
    (cx : w.cell? ⟨g, off + p, none⟩ = some (.int .u8 x)) (x0 : 0 ≤ x) (x1 : x ≤ 255)
    : Calls Try.prog 29 #[.slice (some ⟨g, off, none⟩) n c, .int .i64 p] w (NumBad w) := by
  have hg : g < w.heap.size := World.block_lt_of_cell? w _ cx
  obtain ⟨e1, e2, e3, e4, e5, hrun⟩ := idx_out (some ⟨g, off, none⟩) n c (p + 1) (by simp) (by omega) (w.alloc (.cells #[.int .u8 0, .int .u8 0] 41))
  go_enter Try.func29, Try.ntmps29
  go_wp2
  refine wp_loop_rounds 3 ?_
  iterate 2 (rw [rounds_succ]; go_wp2)
  exact ⟨rfl, e1, e2, e3, e5, rfl, below_drewN ((Below.refl _ _).alloc (Nat.le_refl _) _) _⟩

set_option maxHeartbeats 1000000 in
theorem number4_ok (g off n : Nat) (p c : Nat) (x y z t : Int) (h : p + 4 ≤ n) (hn : n ≤ 1000000) (w : World)
    (cx : w.cell? ⟨g, off + p, none⟩ = some (.int .u8 x)) (x0 : 0 ≤ x) (x1 : x ≤ 255)
    (cy : w.cell? ⟨g, off + (p + 1), none⟩ = some (.int .u8 y)) (y0 : 0 ≤ y) (y1 : y ≤ 255)
    (cz : w.cell? ⟨g, off + (p + 2), none⟩ = some (.int .u8 z)) (z0 : 0 ≤ z) (z1 : z ≤ 255)
    (ct : w.cell? ⟨g, off + (p + 3), none⟩ = some (.int .u8 t)) (t0 : 0 ≤ t) (t1 : t ≤ 255)
    : Calls Try.prog 31 #[.slice (some ⟨g, off, none⟩) n c, .int .i64 p] w fun e w' => e = .returned (.tuple #[.int .i64 (num4 x y z t), .int .i64 (p + 4)]) ∧ Below w.heap.size w w' := by
  have hg : g < w.heap.size := World.block_lt_of_cell? w _ cx
  go_enter Try.func31, Try.ntmps31
  go_wp2
  refine wp_loop_rounds 5 ?_
  iterate 5 (rw [rounds_succ]; go_wp2)
  go_quiet (fail)
  go_wp2
  go_ret2
  refine ⟨?_, below_drewN ((Below.refl _ _).alloc (Nat.le_refl _) _) _⟩
  rw [or_none x x0 x1, or_wrap x y (by omega) (by omega) y0 y1, or_wrap (x * 256 + y) z (by omega) (by omega) z0 z1, or_wrap ((x * 256 + y) * 256 + z) t (by omega) (by omega) t0 t1]
  rfl

set_option maxHeartbeats 1000000 in
theorem number4_no0 (a : Option Addr) (p c : Nat) (hn : p ≤ 1000000) (ha : a = none → p = 0) (w : World) : Calls Try.prog 31 #[.slice a p c, .int .i64 p] w (NumBad w) := by
  obtain ⟨e1, e2, e3, e4, e5, hrun⟩ := idx_out a p c p ha (by omega) (w.alloc (.cells #[.int .u8 0, .int .u8 0, .int .u8 0, .int .u8 0] 43))
  go_enter Try.func31, Try.ntmps31
  go_wp2
  refine wp_loop_rounds 5 ?_
  iterate 1 (rw [rounds_succ]; go_wp2)
  exact ⟨rfl, e1, e2, e3, e5, rfl, below_drewN ((Below.refl _ _).alloc (Nat.le_refl _) _) _⟩

set_option maxHeartbeats 1000000 in
theorem number4_no1 (g off n : Nat) (p c : Nat) (x : Int) (h : p + 1 = n) (hn : n ≤ 1000000) (w : World)
    (cx : w.cell? ⟨g, off + p, none⟩ = some (.int .u8 x)) (x0 : 0 ≤ x) (x1 : x ≤ 255)
    : Calls Try.prog 31 #[.slice (some ⟨g, off, none⟩) n c, .int .i64 p] w (NumBad w) := by
  have hg : g < w.heap.size := World.block_lt_of_cell? w _ cx
  obtain ⟨e1, e2, e3, e4, e5, hrun⟩ := idx_out (some ⟨g, off, none⟩) n c (p + 1) (by simp) (by omega) (w.alloc (.cells #[.int .u8 0, .int .u8 0, .int .u8 0, .int .u8 0] 43))
  go_enter Try.func31, Try.ntmps31
  go_wp2
  refine wp_loop_rounds 5 ?_
  iterate 2 (rw [rounds_succ]; go_wp2)
  exact ⟨rfl, e1, e2, e3, e5, rfl, below_drewN ((Below.refl _ _).alloc (Nat.le_refl _) _) _⟩

set_option maxHeartbeats 1000000 in
theorem number4_no2 (g off n : Nat) (p c : Nat) (x y : Int) (h : p + 2 = n) (hn : n ≤ 1000000) (w : World)
    (cx : w.cell? ⟨g, off + p, none⟩ = some (.int .u8 x)) (x0 : 0 ≤ x) (x1 : x ≤ 255)
    (cy : w.cell? ⟨g, off + (p + 1), none⟩ = some (.int .u8 y)) (y0 : 0 ≤ y) (y1 : y ≤ 255)
    : Calls Try.prog 31 #[.slice (some ⟨g, off, none⟩) n c, .int .i64 p] w (NumBad w) := by
  have hg : g < w.heap.size := World.block_lt_of_cell? w _ cx
  obtain ⟨e1, e2, e3, e4, e5, hrun⟩ := idx_out (some ⟨g, off, none⟩) n c (p + 2) (by simp) (by omega) (w.alloc (.cells #[.int .u8 0, .int .u8 0, .int .u8 0, .int .u8 0] 43))
  go_enter Try.func31, Try.ntmps31
  go_wp2
  refine wp_loop_rounds 5 ?_
  iterate 3 (rw [rounds_succ]; go_wp2)
  exact ⟨rfl, e1, e2, e3, e5, rfl, below_drewN ((Below.refl _ _).alloc (Nat.le_refl _) _) _⟩

set_option maxHeartbeats 1000000 in
theorem number4_no3 (g off n : Nat) (p c : Nat) (x y z : Int) (h : p + 3 = n) (hn : n ≤ 1000000) (w : World)
    (cx : w.cell? ⟨g, off + p, none⟩ = some (.int .u8 x)) (x0 : 0 ≤ x) (x1 : x ≤ 255)
    (cy : w.cell? ⟨g, off + (p + 1), none⟩ = some (.int .u8 y)) (y0 : 0 ≤ y) (y1 : y ≤ 255)
    (cz : w.cell? ⟨g, off + (p + 2), none⟩ = some (.int .u8 z)) (z0 : 0 ≤ z) (z1 : z ≤ 255)
    : Calls Try.prog 31 #[.slice (some ⟨g, off, none⟩) n c, .int .i64 p] w (NumBad w) := by
  have hg : g < w.heap.size := World.block_lt_of_cell? w _ cx
  obtain ⟨e1, e2, e3, e4, e5, hrun⟩ := idx_out (some ⟨g, off, none⟩) n c (p + 3) (by simp) (by omega) (w.alloc (.cells #[.int .u8 0, .int .u8 0, .int .u8 0, .int .u8 0] 43))
  go_enter Try.func31, Try.ntmps31
  go_wp2
  refine wp_loop_rounds 5 ?_
  iterate 4 (rw [rounds_succ]; go_wp2)
  exact ⟨rfl, e1, e2, e3, e5, rfl, below_drewN ((Below.refl _ _).alloc (Nat.le_refl _) _) _⟩

end Go.Proofs.Ytbfgmenjkneijaa
