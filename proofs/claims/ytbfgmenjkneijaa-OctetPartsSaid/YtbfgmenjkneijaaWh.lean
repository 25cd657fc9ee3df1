/-
  The deferred functions that recover: what an index out of range leaves is told by them.
-/
import Derived.Test.YtbfgmenjkneijaaWg
import Derived.Defers
import Derived.Recover
namespace Go.Proofs.Ytbfgmenjkneijaa
open Go.RowKit
set_option linter.unusedVariables false

theorem ta_nil (w : World) : (Instr.typeAssert .nilIface 20 53 true).run Try.prog w = .ok (.tuple #[.nilIface, .bool false]) w := by kernel_rfl
theorem ta_bounds (x y : Int) (s : Bool) (c : Int) (w : World) : (Instr.typeAssert (.iface 8 (.agg #[.int .i64 x, .int .i64 y, .bool s, .int .u8 c])) 20 53 true).run Try.prog w = .ok (.tuple #[.iface 8 (.agg #[.int .i64 x, .int .i64 y, .bool s, .int .u8 c]), .bool true]) w := by kernel_rfl

theorem catch_idle (p q : Addr) (w : World) :
    CallsD Try.prog 35 #[.pointer (some p), .pointer (some q)] .returning w fun e u' w' => e = .returned (.tuple #[]) ∧ u' = .returning ∧ w = w' := by
  refine callsD_of_wpS Try.func35 rfl fun c₀ cs hu => ?_
  simp only [Try.ntmps35, List.size_toArray, List.length_cons, List.length_nil, Nat.reduceAdd, Nat.reduceSub, Array.replicate_succ, Array.replicate_zero, List.push_toArray, List.append_toArray, List.nil_append, List.cons_append]
  apply wpS_seq
  apply wpS_region
  simp [wpOpsS, go_sem, recoverD, hu, Exit.thenS, ta_nil]
  refine wpS_of_wp ?_
  go_wp2
  cases c₀
  simp_all [bodyPostS, results, Try.results35]
theorem catch_panicking (p : Addr) (g : Nat) (a : Option Addr) (n k : Nat) (x y : Int) (s : Bool) (c : Int) (w : World) (hp : w.cell? p = some (.slice a n k)) (h0 : w.cell? ⟨g, 0, none⟩ = some (.int .i64 0)) (h1 : w.cell? ⟨g, 1, none⟩ = some (.int .i64 0)) (hf : ∀ j, w.frozen? ⟨g, j, none⟩ = false) :
    CallsD Try.prog 35 #[.pointer (some p), .pointer (some ⟨g, 0, none⟩)] (.panicking [{ v := .iface 8 (.agg #[.int .i64 x, .int .i64 y, .bool s, .int .u8 c]), recovered := false }]) w fun e u' w' =>
      e = .returned (.tuple #[]) ∧ u' = .panicking [{ v := .iface 8 (.agg #[.int .i64 x, .int .i64 y, .bool s, .int .u8 c]), recovered := true }] ∧ w' = (w.setCell ⟨g, 0, none⟩ (.int .i64 4)).setCell ⟨g, 1, none⟩ (.int .i64 n) := by
  refine callsD_of_wpS Try.func35 rfl fun c₀ cs hu => ?_
  simp only [Try.ntmps35, List.size_toArray, List.length_cons, List.length_nil, Nat.reduceAdd, Nat.reduceSub, Array.replicate_succ, Array.replicate_zero, List.push_toArray, List.append_toArray, List.nil_append, List.cons_append]
  apply wpS_seq
  apply wpS_region
  simp [wpOpsS, go_sem, recoverD, hu, Exit.thenS, ta_bounds]
  refine wpS_of_wp ?_
  go_wp2
  cases c₀
  simp_all [bodyPostS, results, Try.results35]
theorem catch_idle6 (p q : Addr) (w : World) :
    CallsD Try.prog 36 #[.pointer (some p), .pointer (some q)] .returning w fun e u' w' => e = .returned (.tuple #[]) ∧ u' = .returning ∧ w = w' := by
  refine callsD_of_wpS Try.func36 rfl fun c₀ cs hu => ?_
  simp only [Try.ntmps36, List.size_toArray, List.length_cons, List.length_nil, Nat.reduceAdd, Nat.reduceSub, Array.replicate_succ, Array.replicate_zero, List.push_toArray, List.append_toArray, List.nil_append, List.cons_append]
  apply wpS_seq
  apply wpS_region
  simp [wpOpsS, go_sem, recoverD, hu, Exit.thenS, ta_nil]
  refine wpS_of_wp ?_
  go_wp2
  cases c₀
  simp_all [bodyPostS, results, Try.results36]
theorem catch_panicking6 (p : Addr) (g : Nat) (a : Option Addr) (n k : Nat) (x y : Int) (s : Bool) (c : Int) (w : World) (hp : w.cell? p = some (.slice a n k)) (h0 : w.cell? ⟨g, 0, none⟩ = some (.int .i64 0)) (h1 : w.cell? ⟨g, 1, none⟩ = some (.int .i64 0)) (hf : ∀ j, w.frozen? ⟨g, j, none⟩ = false) :
    CallsD Try.prog 36 #[.pointer (some p), .pointer (some ⟨g, 0, none⟩)] (.panicking [{ v := .iface 8 (.agg #[.int .i64 x, .int .i64 y, .bool s, .int .u8 c]), recovered := false }]) w fun e u' w' =>
      e = .returned (.tuple #[]) ∧ u' = .panicking [{ v := .iface 8 (.agg #[.int .i64 x, .int .i64 y, .bool s, .int .u8 c]), recovered := true }] ∧ w' = (w.setCell ⟨g, 0, none⟩ (.int .i64 4)).setCell ⟨g, 1, none⟩ (.int .i64 n) := by
  refine callsD_of_wpS Try.func36 rfl fun c₀ cs hu => ?_
  simp only [Try.ntmps36, List.size_toArray, List.length_cons, List.length_nil, Nat.reduceAdd, Nat.reduceSub, Array.replicate_succ, Array.replicate_zero, List.push_toArray, List.append_toArray, List.nil_append, List.cons_append]
  apply wpS_seq
  apply wpS_region
  simp [wpOpsS, go_sem, recoverD, hu, Exit.thenS, ta_bounds]
  refine wpS_of_wp ?_
  go_wp2
  cases c₀
  simp_all [bodyPostS, results, Try.results36]
end Go.Proofs.Ytbfgmenjkneijaa
