/-
  Decode, the program's.
-/
import Derived.Test.YtckmjpnkjnihlaaJf
import Derived.Test.YtckmjpnkjnihlaaKj
namespace Go.Proofs.Ytckmjpnkjnihlaa
open Go.RowKit Go.Shelf
set_option linter.unusedVariables false
set_option maxRecDepth 100000

theorem makeC (m : Nat) (hm : m ≤ 1000000) (w : World) : (Instr.makeSlice 22 (.int .i64 0) (.int .i64 m)).run Try.prog w = .ok (.slice (some ⟨w.heap.size, 0, none⟩) 0 m) (w.alloc (.cells (List.replicate m (Value.int .u8 0)).toArray 5)) := by
  obtain ⟨i0, hi, hz0, hz1, hz2⟩ := info_parts Try.info5
  have := run_make (P := Try.prog) w 22 5 i0 (.int .u8 0) Try.underlying22 hi hz0 .i64 .i64 0 m (by omega) (by omega) (by rw [hz2]; omega) (by omega)
  rw [this, hz1, Int.toNat_natCast, Nat.mul_one]
  congr 3
  exact madeN m

/-- What Decode tells. -/
def DePost (w : World) (s : List UInt8) (e : Ending) (w' : World) : Prop :=
  ∃ v, e = .returned (.tuple #[v, .agg #[.int .i64 (decE s), .int .i64 (decA s)]]) ∧ OwnB w' w.heap.size v (decB s) ∧ Below w.heap.size w w'

theorem DePost.of {w w' : World} {s : List UInt8} {v : Value} {e : Ending} {E : Int} {A : Nat} (h : e = .returned (.tuple #[v, .agg #[.int .i64 E, .int .i64 A]])) (hE : decE s = E) (hA : decA s = A) (ho : OwnB w' w.heap.size v (decB s)) (hb : Below w.heap.size w w') : DePost w s e w' := by
  subst hE; subst hA
  exact ⟨v, h, ho, hb⟩

/-- How it is when so many letters have gone. -/
structure DeI (w wr : World) (M : Nat) (v : Value) (s : List UInt8) (k n : Nat) : Prop where
  res : wr.heap[w.heap.size]? = some (.cells #[.int .i64 0, .int .i64 0] 26 (0, 0))
  cy : Cy wr (w.heap.size + 1) (rst s k) n
  own : OwnB wr (w.heap.size + 2) v (decN s (6 * k / 8))
  ar : Ar wr M 64
  bel : Below w.heap.size w wr
  lo : w.heap.size + 2 < M
  fine : k ≤ bad s

theorem DeI.cells {w wr : World} {M : Nat} {v : Value} {s : List UInt8} {k n : Nat} (h : DeI w wr M v s k n) :
    wr.cell? ⟨w.heap.size, 0, none⟩ = some (.int .i64 0) ∧ wr.cell? ⟨w.heap.size, 1, none⟩ = some (.int .i64 0) ∧ (∀ j, wr.frozen? ⟨w.heap.size, j, none⟩ = false) ∧ w.heap.size < wr.heap.size :=
  ⟨by simp [World.cell?, h.res], by simp [World.cell?, h.res], fun j => by simp [World.frozen?, h.res], (Array.getElem?_eq_some_iff.mp h.res).1⟩

theorem DeI.out {w wr : World} {M : Nat} {v : Value} {s : List UInt8} {k n : Nat} (h : DeI w wr M v s k n) (x y : Value) :
    Below w.heap.size w ((wr.setCell ⟨w.heap.size, 0, none⟩ x).setCell ⟨w.heap.size, 1, none⟩ y) ∧ OwnB ((wr.setCell ⟨w.heap.size, 0, none⟩ x).setCell ⟨w.heap.size, 1, none⟩ y) w.heap.size v (decN s (6 * k / 8)) := by
  refine ⟨(h.bel.setCell (Nat.le_refl _) _).setCell (Nat.le_refl _) _, ?_⟩
  exact (h.own.aside (cy_aside wr w.heap.size 0 1 x y) fun b hb e => by have := (h.own.lt b hb).1; omega).mono (by omega)

theorem DeI.apart {w wr : World} {M : Nat} {v : Value} {s : List UInt8} {k n : Nat} (h : DeI w wr M v s k n) : ∀ b, v.ownBlock = some b → b ≠ M := by
  intro b hb e
  have ha := h.ar
  subst e
  rcases h.own with ⟨rfl, _⟩ | ⟨g, cap, fz, rfl, _, _, _, _, hg⟩
  · simp [Value.ownBlock] at hb
  · simp [Value.ownBlock] at hb
    subst hb
    unfold Ar at ha
    rw [hg] at ha
    injection ha with ha
    injection ha with _ h2
    exact absurd h2 (by decide)

/-- A step: bits are put and taken. -/
theorem DeI.bits {w wr w' : World} {M : Nat} {v : Value} {s : List UInt8} {k n : Nat} (h : DeI w wr M v s k n) (ha : Aside (fun b => b = w.heap.size + 1) wr w') {v' n' : Nat} (hc : Cy w' (w.heap.size + 1) v' n') :
    w'.heap[w.heap.size]? = some (.cells #[.int .i64 0, .int .i64 0] 26 (0, 0)) ∧ OwnB w' (w.heap.size + 2) v (decN s (6 * k / 8)) ∧ Ar w' M 64 ∧ Below w.heap.size w w' := by
  have h0 := h.cells
  have h1 := h.cy.lt
  refine ⟨(ha.block _ h0.2.2.2 (by omega)).trans h.res, h.own.aside ha fun b hb e => by have := (h.own.lt b hb).1; omega, (ha.block _ (Array.getElem?_eq_some_iff.mp h.ar).1 (by have := h.lo; omega)).trans h.ar, below_aside h.bel ha fun j hj => ⟨by omega, by omega⟩⟩
end Go.Proofs.Ytckmjpnkjnihlaa
