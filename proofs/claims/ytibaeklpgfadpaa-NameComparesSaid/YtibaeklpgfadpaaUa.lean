/-
  Parse: the deferred function that recovers a reader's fault.
-/
import Derived.Test.YtibaeklpgfadpaaTz
import Derived.Defers
import Derived.Recover
import Derived.RegionTactic
import Derived.BigRegion
namespace Go.Proofs.Ytibaeklpgfadpaa
open Go.RowKit Go.Shelf
set_option linter.unusedVariables false
set_option linter.unusedSimpArgs false

theorem ta_nil (w : World) : (Instr.typeAssert .nilIface 20 67 true).run Try.prog w = .ok (.tuple #[.agg #[.int .i64 0, .int .i64 0], .bool false]) w := by kernel_rfl
theorem ta_wrong (e a : Int) (w : World) : (Instr.typeAssert (.iface 67 (.agg #[.int .i64 e, .int .i64 a])) 20 67 true).run Try.prog w = .ok (.tuple #[.agg #[.int .i64 e, .int .i64 a], .bool true]) w := by kernel_rfl

theorem catch_idle (p q : Addr) (w : World) :
    CallsD Try.prog 47 #[.pointer (some p), .pointer (some q)] .returning w fun e u' w' => e = .returned (.tuple #[]) ∧ u' = .returning ∧ w' = w.alloc (.cells #[.int .i64 0, .int .i64 0] 67) := by
  refine callsD_of_wpS Try.func47 rfl fun c₀ cs hu => ?_
  simp only [Try.ntmps47, List.size_toArray, List.length_cons, List.length_nil, Nat.reduceAdd, Nat.reduceSub, Array.replicate_succ, Array.replicate_zero, List.push_toArray, List.append_toArray, List.nil_append, List.cons_append]
  apply wpS_seq
  apply wpS_region
  simp [wpOpsS, go_sem, recoverD, hu, Exit.thenS, ta_nil]
  refine wpS_of_wp ?_
  go_wp2
  cases c₀
  simp_all [bodyPostS, results, Try.results47]

/-- What a fault that was caught leaves. -/
def Caught (b2 b3 : Nat) (e a : Int) (w w' : World) : Prop :=
  Aside (fun b => b = b2 ∨ b = b3) w w' ∧ w'.cell? ⟨b2, 0, none⟩ = some (.string ⟨#[]⟩) ∧ w'.cell? ⟨b3, 0, none⟩ = some (.int .i64 e) ∧ w'.cell? ⟨b3, 1, none⟩ = some (.int .i64 a)

theorem catch_fault (b2 b3 : Nat) (hne : b2 ≠ b3) (e a : Int) (w : World) (u : Value) (hp : w.cell? ⟨b2, 0, none⟩ = some u) (h0 : w.cell? ⟨b3, 0, none⟩ = some (.int .i64 0)) (h1 : w.cell? ⟨b3, 1, none⟩ = some (.int .i64 0))
    (hf2 : ∀ j, w.frozen? ⟨b2, j, none⟩ = false) (hf3 : ∀ j, w.frozen? ⟨b3, j, none⟩ = false) :
    CallsD Try.prog 47 #[.pointer (some ⟨b2, 0, none⟩), .pointer (some ⟨b3, 0, none⟩)] (.panicking [{ v := .iface 67 (.agg #[.int .i64 e, .int .i64 a]), recovered := false }]) w fun en u' w' =>
      en = .returned (.tuple #[]) ∧ u' = .panicking [{ v := .iface 67 (.agg #[.int .i64 e, .int .i64 a]), recovered := true }] ∧ Caught b2 b3 e a w w' := by
  refine callsD_of_wpS Try.func47 rfl fun c₀ cs hu => ?_
  simp only [Try.ntmps47, List.size_toArray, List.length_cons, List.length_nil, Nat.reduceAdd, Nat.reduceSub, Array.replicate_succ, Array.replicate_zero, List.push_toArray, List.append_toArray, List.nil_append, List.cons_append]
  apply wpS_seq
  apply wpS_region
  simp [wpOpsS, go_sem, recoverD, hu, Exit.thenS, ta_wrong]
  refine wpS_of_wp ?_
  have hl2 : b2 < w.heap.size := World.block_lt_of_cell? w _ hp
  have hl3 : b3 < w.heap.size := World.block_lt_of_cell? w _ h0
  obtain ⟨W, hW⟩ : ∃ W, (w.alloc (.cells #[.int .i64 e, .int .i64 a] 67)).drew = W := ⟨_, rfl⟩
  have hbel : Below w.heap.size w W := by rw [← hW]; exact ((Below.refl _ w).alloc (Nat.le_refl _) _).drew
  have g2 : W.cell? ⟨b2, 0, none⟩ = some u := (hbel.cell hl2).trans hp
  have g30 : W.cell? ⟨b3, 0, none⟩ = some (.int .i64 0) := (hbel.cell hl3).trans h0
  have g31 : W.cell? ⟨b3, 1, none⟩ = some (.int .i64 0) := (hbel.cell hl3).trans h1
  have f2 : ∀ j, W.frozen? ⟨b2, j, none⟩ = false := fun j => (hbel.frozen (p := ⟨b2, j, none⟩) hl2).trans (hf2 j)
  have f3 : ∀ j, W.frozen? ⟨b3, j, none⟩ = false := fun j => (hbel.frozen (p := ⟨b3, j, none⟩) hl3).trans (hf3 j)
  obtain ⟨g, hg⟩ : ∃ g, w.heap.size = g := ⟨_, rfl⟩
  have n0 : W.cell? ⟨g, 0, none⟩ = some (.int .i64 e) := by rw [← hW, ← hg]; simp [go_sem]
  have n1 : W.cell? ⟨g, 1, none⟩ = some (.int .i64 a) := by rw [← hW, ← hg]; simp [go_sem]
  have hne2 : ¬ g = b2 := by omega
  have hne3 : ¬ b3 = b2 := fun h => hne h.symm
  have HC : Hid (Caught b2 b3 e a w (((W.setCell ⟨b2, 0, none⟩ (.string ⟨#[]⟩)).setCell ⟨b3, 0, none⟩ (.int .i64 e)).setCell ⟨b3, 1, none⟩ (.int .i64 a))) := by
    have x2 := World.cell?_setCell_same W ⟨b2, 0, none⟩ (.string ⟨#[]⟩) g2
    have y0 : (W.setCell ⟨b2, 0, none⟩ (.string ⟨#[]⟩)).cell? ⟨b3, 0, none⟩ = some (.int .i64 0) := by rw [World.cell?_setCell_other _ _ _ _ (by simp [hne3])]; exact g30
    have y1 : (W.setCell ⟨b2, 0, none⟩ (.string ⟨#[]⟩)).cell? ⟨b3, 1, none⟩ = some (.int .i64 0) := by rw [World.cell?_setCell_other _ _ _ _ (by simp [hne3])]; exact g31
    obtain ⟨z0, z1⟩ := res_set (.int .i64 e) (.int .i64 a) y0 y1
    refine ⟨?_, ?_, ?_, z1⟩
    · exact (((Aside.of_all hbel).trans (Aside.setCell _ _ (.inl rfl))).trans (Aside.setCell _ _ (.inr rfl))).trans (Aside.setCell _ _ (.inr rfl))
    · rw [World.cell?_setCell_other _ _ _ _ (by simp [hne]), World.cell?_setCell_other _ _ _ _ (by simp [hne])]
      exact x2
    · rw [World.cell?_setCell_other _ _ _ _ (by simp)]
      exact z0
  clear hbel
  go_wp2
  go_region
  exact ⟨rfl, _, rfl, .tuple #[], by simp [results, Try.results47], rfl, rfl, HC.out⟩
end Go.Proofs.Ytibaeklpgfadpaa
