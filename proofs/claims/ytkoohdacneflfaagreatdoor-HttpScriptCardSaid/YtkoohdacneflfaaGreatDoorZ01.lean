/-
  A range over a function, over an iterator that yields texts: what the iterator keeps and what it turns, a caller's invariant, a body; panics of the iterator pass through.
-/
import Derived.Test.YtkoohdacneflfaaGreatDoorRows
import Derived.RangeFuncLeaves
import Derived.RangeFuncRecord
import Derived.RangeFuncSeq
import Derived.Deep.Draws
import Derived.Below
import Derived.Lib.Hide
import Derived.WalkKit
import Derived.WalkSpells
import Derived.WalkLawsBesides
import Derived.OwnWalk
import Derived.IntWalk
import Derived.LoopTactic
import Derived.Laws.BytesArg
import Derived.Laws.AppendOwnNone
import Derived.Laws.CopyOwn
import Derived.Laws.BitsLemmas
import Derived.Laws.Panics
import Derived.Deep.AppendLies
import Derived.Outline
import Derived.LoopIn
import Derived.LoopNIn
import Derived.TacticsInMore
import Derived.OwnWalkIn
import Derived.Shelf.RegionOpen
import Derived.Shelf.Abstract
import Derived.RangeFuncCalls
import Derived.RangeFuncBound
import Derived.RangeFuncNested
import Derived.Laws.NewBlocks
namespace Go.Proofs.YtkoohdacneflfaaGreatDoor
open Go.RowKit
set_option linter.unusedVariables false
set_option maxRecDepth 100000

/-- But for the blocks G the world is as it was. -/
structure Aside (G : Nat → Prop) (w w' : World) : Prop where
  os : w'.os = w.os
  tape : w'.tape = w.tape
  output : w'.output = w.output
  size : w.heap.size ≤ w'.heap.size
  block : ∀ k, k < w.heap.size → ¬ G k → w'.heap[k]? = w.heap[k]?

section
variable {G G' : Nat → Prop} {w w1 w2 : World} {B : Nat}
theorem Aside.refl (G : Nat → Prop) (w : World) : Aside G w w := ⟨rfl, rfl, rfl, Nat.le_refl _, fun _ _ _ => rfl⟩
theorem Aside.trans (h : Aside G w w1) (k : Aside G w1 w2) : Aside G w w2 :=
  ⟨k.os.trans h.os, k.tape.trans h.tape, k.output.trans h.output, Nat.le_trans h.size k.size, fun i hi hg => (k.block i (Nat.lt_of_lt_of_le hi h.size) hg).trans (h.block i hi hg)⟩
theorem Aside.mono (h : Aside G w w1) (hG : ∀ k, k < w.heap.size → G k → G' k) : Aside G' w w1 := ⟨h.os, h.tape, h.output, h.size, fun k hk hg => h.block k hk (fun e => hg (hG k hk e))⟩
theorem Aside.of_below (h : Below B w w1) (hB : ∀ k, k < w.heap.size → ¬ G k → k < B) : Aside G w w1 := ⟨h.os, h.tape, h.output, h.size, fun k hk hg => h.block k (hB k hk hg)⟩
theorem Aside.of_all (h : Below w.heap.size w w1) : Aside G w w1 := Aside.of_below h fun _ hk _ => hk
theorem Aside.below (h : Aside G w w1) (hB : ∀ k, k < B → k < w.heap.size ∧ ¬ G k) : Below B w w1 := ⟨h.os, h.tape, h.output, h.size, fun k hk => h.block k (hB k hk).1 (hB k hk).2⟩
theorem Aside.cell (h : Aside G w w1) {p : Addr} (hp : p.block < w.heap.size) (hg : ¬ G p.block) : w1.cell? p = w.cell? p := World.cell?_of_block (w := w) (h.block p.block hp hg)
theorem Aside.frozen (h : Aside G w w1) {p : Addr} (hp : p.block < w.heap.size) (hg : ¬ G p.block) : w1.frozen? p = w.frozen? p := World.frozen?_of_block (w := w) (h.block p.block hp hg)
theorem Aside.cell_lt (h : Aside G w w1) {p : Addr} {v : Value} (hv : w.cell? p = some v) (hg : ¬ G p.block) : w1.cell? p = some v := (h.cell (World.block_lt_of_cell? w p hv) hg).trans hv
theorem Aside.alloc (w : World) (o : Obj) : Aside G w (w.alloc o) := ⟨rfl, rfl, rfl, by simp, fun k hk _ => Below.heap_alloc _ _ _ hk⟩
theorem Aside.putObj (w : World) {r : Nat} (o : Obj) (hr : G r) : Aside G w (w.putObj r o) := ⟨rfl, rfl, rfl, by simp, fun k _ hg => World.putObj_heap_other (fun e => hg (e ▸ hr))⟩
theorem Aside.setCell (w : World) {p : Addr} (v : Value) (hr : G p.block) : Aside G w (w.setCell p v) := ⟨rfl, rfl, rfl, by simp [World.setCell], fun k _ hg => Below.heap_setCell _ _ _ _ (fun e => hg (e ▸ hr))⟩
theorem Aside.drewN (w : World) (n : Nat) : Aside G w (w.drewN n) := ⟨rfl, rfl, rfl, Nat.le_refl _, fun _ _ _ => rfl⟩
theorem Aside.grown {row : Option Nat} (hg : w.grownBy w1 row) (hr : ∀ k, row = some k → G k) : Aside G w w1 :=
  ⟨hg.os, hg.tape, hg.output, hg.size, fun k hk hn => hg.block k hk (fun e => hn (hr k e.symm))⟩
theorem Aside.of_drew (h : Aside G w.drew w1) : Aside G w w1 := ⟨h.os, h.tape, h.output, h.size, h.block⟩
theorem below_aside (h : Below B w w1) (k : Aside G w1 w2) (hB : ∀ k, k < B → k < w1.heap.size ∧ ¬ G k) : Below B w w2 := h.trans (k.below hB)
end

/-- How an iterator ends: all have come; a round said 'no more'; it panics behind all of them. -/
def SeqEnd (m : Nat) (fin : Option (List PanicEntry)) (J Jx : Nat → World → Prop) (e : Ending) (B : World) : Prop :=
  (fin = none ∧ (∃ v, e = .returned v) ∧ J m B) ∨ ((∃ v, e = .returned v) ∧ ∃ k, k ≤ m ∧ Jx k B) ∨ (∃ ch, fin = some ch ∧ e = .panicked ch ∧ J m B)

/-- What an iterator over texts does, whatever loop calls it: it yields xs, one behind the other, if it is not stopped; then it returns, or panics with fin. It leans on the blocks K, turns blocks of G alone, and asks St of the world in which it begins. -/
def SeqT (P : Program) (gf : Nat) (lb : Array Value) (K G : Nat → Prop) (xs : List ByteArray) (fin : Option (List PanicEntry)) (St : World → Prop) : Prop :=
  ∀ (l : Nat) (J Jx : Nat → World → Prop) (W : World),
    (∀ k A B, J k A → Aside G A B → J k B) →
    (∀ k A x, xs[k]? = some x → J k A → YieldAt Fence.wide 0 P l #[.string x] A fun e B =>
      (e = .returned (.bool true) ∧ J (k + 1) B ∧ A.heap.size ≤ B.heap.size ∧ ∀ b, K b → B.heap[b]? = A.heap[b]?) ∨ (e = .returned (.bool false) ∧ Jx (k + 1) B)) →
    St W → J 0 W →
    CallsIn Fence.wide 0 P gf (#[.func (.yield l) #[] #[]] ++ lb) W (SeqEnd xs.length fin J Jx)

/-- How a round's body may be left. -/
def roundT (M : Nat → Prop) (k : Nat) (I : Nat → World → Prop) (Ix : Code → Nat → World → Prop) (W : World) : Exit → Act → World → Prop
  | .normal, _, W' => Aside M W W' ∧ I (k + 1) W'
  | .ret, _, W' => Aside M W W' ∧ Ix .ret (k + 1) W'
  | .exit id, _, W' => Aside M W W' ∧ Ix (.exit id) (k + 1) W'
  | .goto t, _, W' => Aside M W W' ∧ Ix (.goto t) (k + 1) W'
  | .panic _, _, _ => False
  | .outgrown, _, _ => False

theorem wp_rangeFunc_T {P : Program} {gf : Nat} {lb : Array Value} {K G M : Nat → Prop} {xs : List ByteArray} {fin : Option (List PanicEntry)} {St : World → Prop}
    {g : Operand} {ps : Array Tmp} {assign body : Code} {Q : Exit → Act → World → Prop} {a : Act} {w : World} {D : Nat} (hD : w.heap.size = D)
    (hg : a.eval g = .func (.func gf) #[] lb) (eg : ∀ args w, (callFunc gf args).run P w = .ok (.enter gf args) w)
    (hseq : SeqT P gf lb K G xs fin St) (hSt : St w) (hStK : ∀ A B, St A → (∀ b, K b → B.heap[b]? = A.heap[b]?) → A.heap.size ≤ B.heap.size → St B)
    (hK : ∀ b, K b → b < D) (hM : ∀ b, M b → ¬ K b ∧ b ≠ D ∧ b ≠ D + 1) (hGK : ∀ b, G b → K b) (hps : ps.size = 1)
    (I : Nat → World → Prop) (Ix : Code → Nat → World → Prop)
    (hI : ∀ k A B, I k A → Aside (fun b => G b ∨ b = D ∨ b = D + 1) A B → I k B)
    (hIx : ∀ c k A B, Ix c k A → Aside (fun b => G b ∨ b = D ∨ b = D + 1) A B → Ix c k B)
    (h0 : I 0 w) (a₁ : ByteArray → Act)
    (hassign : ∀ (l : Nat) (x : ByteArray) (W : World) (K : Act → World → Prop), K (a₁ x) W →
      assign.wpIn (Fence.wide.inRound l) 0 P (Exit.then K (fun _ _ _ => False)) { tmps := (ps.zip #[.string x]).foldl (fun t (p, v) => t.setIfInBounds p v) a.tmps, defers := [] } W)
    (hbody : ∀ (l k : Nat) (x : ByteArray) (W : World), xs[k]? = some x → D + 2 ≤ W.heap.size → I k W → body.wpIn (Fence.wide.inRound l) 0 P (roundT M k I Ix W) (a₁ x) W)
    (hdone : fin = none → ∀ W, I xs.length W → D + 2 ≤ W.heap.size → W.heap[D]? = some (.deferred (some [])) → Q .normal { a with defers := { target := .collected D, args := #[] } :: a.defers } W)
    (hstop : ∀ c k W, k ≤ xs.length → Ix c k W → W.heap[D]? = some (.deferred (some [])) → c.wp P Q { a with defers := { target := .collected D, args := #[] } :: a.defers } W)
    (hpanic : ∀ ch, fin = some ch → ∀ W, I xs.length W → W.heap[D]? = some (.deferred (some [])) → Q (.panic ch) { a with defers := { target := .collected D, args := #[] } :: a.defers } W) :
    (Code.rangeFunc g ps assign body).wp P Q a w := by
  subst hD
  refine (wpIn_wide (n := 0)).1 (wpIn_rangeFunc ?_)
  intro fn hfn
  obtain ⟨rec, hrec⟩ : ∃ rec : LoopState → Option Code → Loop, rec = fun st pe => { state := st, pending := pe, fn, tmps := a.tmps, params := ps, assign, body, defers := w.heap.size } := ⟨_, rfl⟩
  obtain ⟨W1, hW1⟩ : ∃ W1, (w.alloc (.deferred (some []))).alloc (.loop (rec .ready none)) = W1 := ⟨_, rfl⟩
  have hs1 : W1.heap.size = w.heap.size + 2 := by rw [← hW1]; simp
  have hL1 : W1.heap[w.heap.size + 1]? = some (.loop (rec .ready none)) := by
    rw [← hW1]; have := World.alloc_heap_new (w.alloc (.deferred (some []))) (.loop (rec .ready none)); rwa [World.size_alloc] at this
  have hK1 : W1.heap[w.heap.size]? = some (.deferred (some [])) := by
    rw [← hW1]; exact (Below.heap_alloc _ _ _ (by simp)).trans (World.alloc_heap_new w _)
  have hA1 : ∀ G, Aside G w W1 := fun G => by rw [← hW1]; exact (Aside.alloc _ _).trans (Aside.alloc _ _)
  refine ⟨w.heap.size + 1, [{ target := .collected w.heap.size, args := #[] }], W1, { target := .fn (.func gf) lb, args := #[.func (.yield (w.heap.size + 1)) #[] #[]] }, W1, gf,
    #[.func (.yield (w.heap.size + 1)) #[] #[]] ++ lb, W1, ?_, ?_, ?_, ?_, (fun h => by simp [Fence.wide] at h), ?_⟩
  · rw [← hW1, hrec]; exact run_enterLoop_outer _ _ _ _ _
  · simp only [resolve, hg]
    simp [go_sem]
  · intro f' _; trivial
  · simp [invoke, go_sem, eg]
  · have hStep : ∀ (I : World → Prop), (∀ A B, I A → Aside (fun b => G b ∨ b = w.heap.size ∨ b = w.heap.size + 1) A B → I B) → ∀ A (o : Obj), I A → I (A.putObj (w.heap.size + 1) o) :=
      fun I h A o ha => h _ _ ha (Aside.putObj _ _ (.inr (.inr rfl)))
    have hSt1 : St W1 := hStK _ _ hSt (fun b hb => (hA1 (fun _ => False)).block b (hK b hb) (fun h => h)) (hA1 (fun _ => False)).size
    refine (hseq (w.heap.size + 1)
      (fun k W => I k W ∧ w.heap.size + 2 ≤ W.heap.size ∧ W.heap[w.heap.size + 1]? = some (.loop (rec .ready none)) ∧ W.heap[w.heap.size]? = some (.deferred (some [])))
      (fun k W => ∃ c, Ix c k W ∧ W.heap[w.heap.size + 1]? = some (.loop (rec .done (some c))) ∧ W.heap[w.heap.size]? = some (.deferred (some [])))
      W1
      (fun k A B hs hab => by
        obtain ⟨h1, h2, h3, h4⟩ := hs
        have hlo : ∀ b, G b → b < w.heap.size := fun b hb => hK b (hGK b hb)
        exact ⟨hI k A B h1 (hab.mono fun b _ hb => .inl hb), Nat.le_trans h2 hab.size, (hab.block _ (by omega) (fun e => by have := hlo _ e; omega)).trans h3, (hab.block _ (by omega) (fun e => by have := hlo _ e; omega)).trans h4⟩)
      ?_ hSt1 ⟨hI _ _ _ h0 (hA1 _), by omega, hL1, hK1⟩).mono ?_
    · -- one round
      rintro k W x hx ⟨hi, hsz, hl, hk⟩
      have hlt : w.heap.size + 1 < W.heap.size := by omega
      have hy := run_yield (P := P) (args := #[.string x]) hl (by rw [hrec]; simp [hps])
      rw [hrec] at hy
      refine ⟨fn, _, assign, body, hy, roundIn_of_wpIn hfn (hassign _ x W _ ⟨_, run_beginRound hl (by rw [hrec]), ?_⟩)⟩
      obtain ⟨W2, hW2⟩ : ∃ W2, W.putObj (w.heap.size + 1) (.loop { rec .ready none with state := .busy }) = W2 := ⟨_, rfl⟩
      have hs2 : W2.heap.size = W.heap.size := by rw [← hW2]; simp
      have hl2 : W2.heap[w.heap.size + 1]? = some (.loop { rec .ready none with state := .busy }) := by rw [← hW2]; exact World.putObj_heap_same hlt
      have hk2 : W2.heap[w.heap.size]? = some (.deferred (some [])) := by rw [← hW2]; exact (World.putObj_heap_other (by omega)).trans hk
      have hi2 : I k W2 := by rw [← hW2]; exact hStep _ (hI k) _ _ hi
      have hK2 : ∀ b, K b → W2.heap[b]? = W.heap[b]? := fun b hb => by rw [← hW2]; exact World.putObj_heap_other (by have := hK b hb; omega)
      rw [show W.putObj (w.heap.size + 1) (.loop { rec .ready none with state := .busy }) = W2 from hW2]
      refine wpIn_mono (hbody _ k x W2 hx (by omega) hi2) ?_
      have fin : ∀ (jump : Option Code) (W3 : World), Aside M W2 W3 →
          (Instr.endRound (w.heap.size + 1) jump).run P W3 = .ok (.bool jump.isNone) (W3.putObj (w.heap.size + 1) (.loop (rec (if jump.isNone then .ready else .done) jump))) ∧
          W2.heap.size ≤ W3.heap.size ∧
          (W3.putObj (w.heap.size + 1) (.loop (rec (if jump.isNone then .ready else .done) jump))).heap[w.heap.size + 1]? = some (.loop (rec (if jump.isNone then .ready else .done) jump)) ∧
          (W3.putObj (w.heap.size + 1) (.loop (rec (if jump.isNone then .ready else .done) jump))).heap[w.heap.size]? = some (.deferred (some [])) ∧
          ∀ b, K b → (W3.putObj (w.heap.size + 1) (.loop (rec (if jump.isNone then .ready else .done) jump))).heap[b]? = W.heap[b]? := fun jump W3 h3 => by
        have hm : ∀ b, b = w.heap.size + 1 ∨ b = w.heap.size ∨ K b → ¬ M b := fun b hb hm => by
          have := hM b hm
          rcases hb with e | e | e
          · exact this.2.2 e
          · exact this.2.1 e
          · exact this.1 e
        have hl3 := (h3.block _ (by omega) (hm _ (.inl rfl))).trans hl2
        have hk3 := (h3.block _ (by omega) (hm _ (.inr (.inl rfl)))).trans hk2
        have := run_endRound (P := P) jump hl3
        rw [hrec] at this ⊢
        refine ⟨this, h3.size, World.putObj_heap_same (Array.getElem?_eq_some_iff.1 hl3).1, (World.putObj_heap_other (by omega)).trans hk3, fun b hb => ?_⟩
        have hb1 := hK b hb
        exact (World.putObj_heap_other (by omega)).trans ((h3.block b (by omega) (hm _ (.inr (.inr hb)))).trans (hK2 b hb))
      rintro e a3 W3 hp
      cases e with
      | normal =>
        obtain ⟨ha3, hi3⟩ := hp
        obtain ⟨hr, hs3, hl4, hk4, hK4⟩ := fin none W3 ha3
        exact ⟨_, _, hr, .inl ⟨rfl, ⟨hStep _ (hI _) _ _ hi3, by simp; omega, hl4, hk4⟩, by simp; omega, hK4⟩⟩
      | ret =>
        obtain ⟨ha3, hi3⟩ := hp
        obtain ⟨hr, hs3, hl4, hk4, hK4⟩ := fin (some .ret) W3 ha3
        exact ⟨_, _, hr, .inr ⟨rfl, .ret, hStep _ (hIx _ _) _ _ hi3, hl4, hk4⟩⟩
      | exit id =>
        obtain ⟨ha3, hi3⟩ := hp
        obtain ⟨hr, hs3, hl4, hk4, hK4⟩ := fin (some (.exit id)) W3 ha3
        exact ⟨_, _, hr, .inr ⟨rfl, .exit id, hStep _ (hIx _ _) _ _ hi3, hl4, hk4⟩⟩
      | goto t =>
        obtain ⟨ha3, hi3⟩ := hp
        obtain ⟨hr, hs3, hl4, hk4, hK4⟩ := fin (some (.goto t)) W3 ha3
        exact ⟨_, _, hr, .inr ⟨rfl, .goto t, hStep _ (hIx _ _) _ _ hi3, hl4, hk4⟩⟩
      | panic ch => exact hp.elim
      | outgrown => exact hp.elim
    · -- behind the iterator
      rintro e W2 (⟨hf, ⟨v, rfl⟩, hi, hsz, hl, hk⟩ | ⟨⟨v, rfl⟩, k, hk0, c, hi, hl, hk⟩ | ⟨ch, hf, rfl, hi, hsz, hl, hk⟩)
      · refine ⟨none, _, ?_, hdone hf _ (hStep _ (hI _) _ (.loop { rec .ready none with state := .exhausted }) hi) (by simp; omega) ((World.putObj_heap_other (by omega)).trans hk)⟩
        have := run_endLoop (P := P) hl (by rw [hrec]; simp)
        rw [hrec] at this ⊢; exact this
      · refine ⟨some c, _, ?_, (wpIn_wide (n := 0)).2 (hstop c k _ hk0 (hStep _ (hIx c k) _ (.loop { rec .done (some c) with state := .exhausted }) hi) ((World.putObj_heap_other (by omega)).trans hk))⟩
        have := run_endLoop (P := P) hl (by rw [hrec]; simp)
        rw [hrec] at this ⊢; exact this
      · exact hpanic ch hf _ hi hk

/-- A function's contract from its body, where the body holds a range over a function. -/
theorem calls_of_wp_marks {P : Program} {f : FuncId} {fn : Func} {c : Code} {args : Array Value} {w : World} {R : Ending → World → Prop}
    (hf : P.funcs[f]? = some fn) (hb : fn.body = some c)
    (h : c.wp P (bodyPostM Fence.wide 0 P fn R) { tmps := args ++ Array.replicate (fn.ntmps - args.size) undef, defers := [] } w) : Calls P f args w R :=
  (callsIn_wide (n := 0)).1 (callsIn_of_wp_marks hf hb trivial ((wpIn_wide (n := 0)).2 h))
/-- Steps that turn blocks of G or such that were not there. -/
theorem Aside.onto {G M : Nat → Prop} {w W W' : World} (h : Aside G w W) (k : Aside M W W') (hM : ∀ b, b < w.heap.size → ¬ G b → ¬ M b) : Aside G w W' :=
  ⟨k.os.trans h.os, k.tape.trans h.tape, k.output.trans h.output, Nat.le_trans h.size k.size, fun b hb hg => (k.block b (Nat.lt_of_lt_of_le hb h.size) (hM b hb hg)).trans (h.block b hb hg)⟩

theorem Aside.shut {G : Nat → Prop} {w W : World} {D : Nat} {o : Obj} (h : Aside G w W) (hD : w.heap.size ≤ D) : Aside G w (W.putObj D o) :=
  h.onto (M := fun b => b = D) (Aside.putObj _ _ rfl) fun b hb _ => by omega

/-- Behind the loop: its block of deferred calls is shut; what is told is read off. -/
theorem marks_ret {P : Program} {fn : Func} {R : Ending → World → Prop} {tmps : Array Value} {W : World} {D : Nat} {args : Array Value} (hK : W.heap[D]? = some (.deferred (some []))) (v : Value)
    (hv : (results fn tmps).run P (W.putObj D (.deferred none)) = .ok v (W.putObj D (.deferred none))) (h : R (.returned v) (W.putObj D (.deferred none))) :
    bodyPostM Fence.wide 0 P fn R .ret { tmps := tmps, defers := [{ target := .collected D, args := args }] } W := by
  refine ⟨by simp, .inl ⟨_, _, rfl, run_takeDeferred hK, ?_⟩⟩
  exact ⟨v, hv, h⟩

theorem below_putObj {w W : World} {D B : Nat} {o : Obj} (h : Below B w W) (hD : B ≤ D) : Below B w (W.putObj D o) :=
  h.trans ⟨rfl, rfl, rfl, by simp, fun k hk => World.putObj_heap_other (by omega)⟩
end Go.Proofs.YtkoohdacneflfaaGreatDoor

/-
  Slices of bytes as lists, rows of the call's own, worlds that differ in one block; how they are kept.
-/
namespace Go.Proofs.YtkoohdacneflfaaGreatDoor
open Go.RowKit
set_option linter.unusedVariables false
set_option maxRecDepth 100000

/-- The slice value v reads as the bytes l; what it leads to lies in blocks from lo on, below hi. -/
def Sl (w : World) (lo hi : Nat) (v : Value) (l : List Int) : Prop :=
  ∃ a c, v = .slice a l.length c ∧ l.length ≤ c ∧ (a = none → c = 0) ∧ (0 < l.length → ∃ b off, a = some ⟨b, off, none⟩ ∧ lo ≤ b ∧ b < hi ∧ ∀ j, j < l.length → w.cell? ⟨b, off + j, none⟩ = some (.int .u8 (l.getD j 0)))

/-- Block g alone may have turned. -/
def Only (g : Nat) (w w' : World) : Prop := w'.os = w.os ∧ w'.tape = w.tape ∧ w'.output = w.output ∧ w'.heap.size = w.heap.size ∧ ∀ k, k ≠ g → w'.heap[k]? = w.heap[k]?

theorem Only.refl (g : Nat) (w : World) : Only g w w := ⟨rfl, rfl, rfl, rfl, fun _ _ => rfl⟩

theorem Only.below {g B : Nat} {w w' : World} (h : Only g w w') (hB : B ≤ g) : Below B w w' :=
  ⟨h.1, h.2.1, h.2.2.1, by rw [h.2.2.2.1]; exact Nat.le_refl _, fun k hk => h.2.2.2.2 k (by omega)⟩

theorem below_drewN {B : Nat} {a w : World} (h : Below B a w) (n : Nat) : Below B a (w.drewN n) := h.trans ⟨rfl, rfl, rfl, Nat.le_refl _, fun _ _ => rfl⟩

section
variable {w w' : World} {lo hi lo' hi' B g : Nat} {v : Value} {l : List Int}
theorem Sl.keep (h : Sl w lo hi v l) (hk : ∀ b o, lo ≤ b → b < hi → w'.cell? ⟨b, o, none⟩ = w.cell? ⟨b, o, none⟩) : Sl w' lo hi v l := by
  obtain ⟨a, c, rfl, hc, hn, hp⟩ := h
  refine ⟨a, c, rfl, hc, hn, fun h0 => ?_⟩
  obtain ⟨b, off, rfl, h1, h2, h3⟩ := hp h0
  exact ⟨b, off, rfl, h1, h2, fun j hj => (hk b _ h1 h2).trans (h3 j hj)⟩
theorem Sl.below (h : Sl w lo hi v l) (hb : Below B w w') (hB : hi ≤ B) : Sl w' lo hi v l :=
  h.keep fun b o _ h2 => hb.cell (p := ⟨b, o, none⟩) (Nat.lt_of_lt_of_le h2 hB)
theorem Sl.only (h : Sl w lo hi v l) (ho : Only g w w') (hg : g < lo ∨ hi ≤ g) : Sl w' lo hi v l :=
  h.keep fun b o h1 h2 => World.cell?_of_block (a := ⟨b, o, none⟩) (ho.2.2.2.2 b (by omega))
theorem Sl.wide (h : Sl w lo hi v l) (h1 : lo' ≤ lo) (h2 : hi ≤ hi') : Sl w lo' hi' v l := by
  obtain ⟨a, c, rfl, hc, hn, hp⟩ := h
  refine ⟨a, c, rfl, hc, hn, fun h0 => ?_⟩
  obtain ⟨b, off, rfl, h3, h4, h5⟩ := hp h0
  exact ⟨b, off, rfl, by omega, by omega, h5⟩
end

/-- A value of a row of the call's own: nil, or block g, which is just these bytes. -/
def Own (w : World) (g : Nat) (v : Value) (l : List Int) : Prop :=
  (v = .slice none 0 0 ∧ l = []) ∨ (v = .slice (some ⟨g, 0, none⟩) l.length l.length ∧ w.heap[g]? = some (.cells (l.map (Value.int .u8)).toArray 5 (0, 0)))

theorem Own.sl {w : World} {g : Nat} {v : Value} {l : List Int} (h : Own w g v l) : Sl w g (g + 1) v l := by
  rcases h with ⟨rfl, rfl⟩ | ⟨rfl, hg⟩
  · exact ⟨none, 0, rfl, by simp, fun _ => rfl, fun h => by simp at h⟩
  · refine ⟨_, _, rfl, Nat.le_refl _, fun h => by simp at h, fun _ => ⟨g, 0, rfl, Nat.le_refl _, by omega, fun j hj => ?_⟩⟩
    rw [Nat.zero_add, World.cell?, hg]
    simp [hj]

theorem Own.below {w w' : World} {g B : Nat} {v : Value} {l : List Int} (h : Own w g v l) (hb : Below B w w') (hg : g < B) : Own w' g v l := by
  rcases h with h | ⟨rfl, h⟩
  · exact .inl h
  · exact .inr ⟨rfl, (hb.block g hg).trans h⟩

theorem Own.only {w w' : World} {g k : Nat} {v : Value} {l : List Int} (h : Own w g v l) (ho : Only k w w') (hg : g ≠ k) : Own w' g v l := by
  rcases h with h | ⟨rfl, h⟩
  · exact .inl h
  · exact .inr ⟨rfl, (ho.2.2.2.2 g hg).trans h⟩

theorem Tryz.info5 : (Tryz.prog.info? 5).map (fun i => (i.zero, i.size, i.bytes)) = some (some (.int .u8 0), 1, 1) := by kernel_rfl

theorem Tryz.size5 : (Tryz.prog.info? 5).map (·.size) = some 1 := by kernel_rfl

theorem madeN (n : Nat) : madeCells #[.int .u8 0] n = (List.replicate n (Value.int .u8 0)).toArray := by
  rw [← toList_madeCells_one]

theorem makeN (n : Nat) (hn : n ≤ 1000000) (w : World) : (Instr.makeSlice 28 (.int .i64 n) (.int .i64 n)).run Tryz.prog w = .ok (.slice (some ⟨w.heap.size, 0, none⟩) n n) (w.alloc (.cells (List.replicate n (Value.int .u8 0)).toArray 5)) := by
  obtain ⟨i0, hi, hz0, hz1, hz2⟩ := info_parts Tryz.info5
  have := run_make (P := Tryz.prog) w 28 5 i0 (.int .u8 0) Tryz.underlying28 hi hz0 .i64 .i64 n n (by omega) (by omega) (by rw [hz2]; omega) (by omega)
  rw [this, hz1, Int.toNat_natCast, Nat.mul_one]
  congr 3
  exact madeN n

theorem make2 (w : World) : (Instr.makeSlice 28 (.int .i64 2) (.int .i64 2)).run Tryz.prog w = .ok (.slice (some ⟨w.heap.size, 0, none⟩) 2 2) (w.alloc (.cells #[.int .u8 0, .int .u8 0] 5)) := makeN 2 (by omega) w

theorem make4 (w : World) : (Instr.makeSlice 28 (.int .i64 4) (.int .i64 4)).run Tryz.prog w = .ok (.slice (some ⟨w.heap.size, 0, none⟩) 4 4) (w.alloc (.cells #[.int .u8 0, .int .u8 0, .int .u8 0, .int .u8 0] 5)) := makeN 4 (by omega) w

/-- Block g is c bytes, whatever they are. -/
def BytesAt (w : World) (g c : Nat) : Prop := ∃ l : List Int, l.length = c ∧ w.heap[g]? = some (.cells (l.map (Value.int .u8)).toArray 5 (0, 0))

theorem BytesAt.cell {w : World} {g c k : Nat} (h : BytesAt w g c) (hk : k < c) : ∃ x : Int, w.cell? ⟨g, k, none⟩ = some (.int .u8 x) := by
  obtain ⟨l, hl, hg⟩ := h
  refine ⟨l.getD k 0, ?_⟩
  rw [World.cell?, hg]
  simp [hl, hk]

theorem BytesAt.frozen {w : World} {g c k : Nat} (h : BytesAt w g c) : w.frozen? ⟨g, k, none⟩ = false := by
  obtain ⟨l, hl, hg⟩ := h
  simp [World.frozen?, hg]

theorem BytesAt.set {w : World} {g c k : Nat} (h : BytesAt w g c) (x : Int) : BytesAt (w.setCell ⟨g, k, none⟩ (.int .u8 x)) g c := by
  obtain ⟨l, hl, hg⟩ := h
  refine ⟨l.set k x, by simpa using hl, ?_⟩
  simp [World.setCell, Array.getElem?_modify, hg, List.map_set]

theorem Only.set {w0 w : World} {g k : Nat} (h : Only g w0 w) (u : Value) : Only g w0 (w.setCell ⟨g, k, none⟩ u) := by
  obtain ⟨h1, h2, h3, h4, h5⟩ := h
  refine ⟨h1, h2, h3, by simp [World.setCell, h4], fun j hj => (Below.heap_setCell w ⟨g, k, none⟩ u j hj).trans (h5 j hj)⟩

theorem Own.bytes {w : World} {g : Nat} {l : List Int} (h : w.heap[g]? = some (.cells (l.map (Value.int .u8)).toArray 5 (0, 0))) : BytesAt w g l.length := ⟨l, rfl, h⟩

/-- Of block g, c bytes, the first k are those of L. -/
def Part (w : World) (g c : Nat) (L : List Int) (k : Nat) : Prop := BytesAt w g c ∧ ∀ t, t < k → w.cell? ⟨g, t, none⟩ = some (.int .u8 (L.getD t 0))

theorem Part.step {w : World} {g c k : Nat} {L : List Int} (h : Part w g c L k) (hk : k < c) (x : Int) (hx : x = L.getD k 0) : Part (w.setCell ⟨g, k, none⟩ (.int .u8 x)) g c L (k + 1) := by
  refine ⟨h.1.set _, fun t ht => ?_⟩
  by_cases e : t = k
  · subst e
    obtain ⟨y, hy⟩ := h.1.cell hk
    rw [World.cell?_setCell_same _ _ _ hy, hx]
  · rw [World.cell?_setCell_other _ _ _ _ (by first | (simp; done) | (simp; omega))]
    exact h.2 t (by omega)

theorem Part.full {w : World} {g c : Nat} {L : List Int} (h : Part w g c L c) (hL : L.length = c) : w.heap[g]? = some (.cells (L.map (Value.int .u8)).toArray 5 (0, 0)) := by
  obtain ⟨⟨l, hl, hg⟩, hc⟩ := h
  have : l = L := by
    apply List.ext_getElem (by omega)
    intro t h1 h2
    have := hc t (by omega)
    rw [World.cell?, hg] at this
    simpa [h1, h2] using this
  rw [← this]; exact hg

theorem Part.start {w : World} {g m : Nat} {L l : List Int} (hL : L.take l.length = l) (hm : l.length ≤ m)
    (h : w.heap[g]? = some (.cells (splice (List.replicate m (Value.int .u8 0)) 0 (l.map (Value.int .u8))).toArray 5 (0, 0))) : Part w g m L l.length := by
  have e : splice (List.replicate m (Value.int .u8 0)) 0 (l.map (Value.int .u8)) = (l ++ List.replicate (m - l.length) 0).map (Value.int .u8) := by
    simp [splice]
  rw [e] at h
  refine ⟨⟨_, by simp; omega, h⟩, fun t ht => ?_⟩
  rw [World.cell?, h]
  have h1 : L.getD t 0 = l[t] := by
    have := congrArg (fun x : List Int => x[t]?) hL
    simp only [List.getElem?_take, if_pos ht, List.getElem?_eq_getElem ht] at this
    simp [List.getD, this]
  rw [h1]
  simp [ht, List.getElem?_append]

theorem Sl.news {w : World} {lo hi n c : Nat} {a : Option Addr} {l : List Int} (hp : 0 < l.length → ∃ b off, a = some ⟨b, off, none⟩ ∧ lo ≤ b ∧ b < hi ∧ ∀ j, j < l.length → w.cell? ⟨b, off + j, none⟩ = some (.int .u8 (l.getD j 0)))
    {w' : World} (hb : Below w.heap.size w w') (h0 : 0 < (l.map (Value.int .u8)).length) : ∃ ad, a = some ad ∧ ∀ j u, (l.map (Value.int .u8))[j]? = some u → w'.cell? (ad.add j) = some u := by
  obtain ⟨b, off, rfl, _, _, hx⟩ := hp (by simpa using h0)
  refine ⟨_, rfl, fun j u hu => ?_⟩
  rw [List.getElem?_map] at hu
  obtain ⟨n, hn, rfl⟩ := Option.map_eq_some_iff.mp hu
  have hj : j < l.length := (List.getElem?_eq_some_iff.mp hn).1
  rw [WideShapes.add_plain, cell_later hb (hx j hj), List.getD, hn]; rfl

/-- v is a row of the call's own, in blocks from B on, of which the first bytes are l. -/
def OwnR (w : World) (B : Nat) (v : Value) (l : List Int) : Prop := w.ownsRow B 5 1 v l.length (l.map (Value.int .u8))

theorem OwnR.sl {w : World} {B : Nat} {v : Value} {l : List Int} (h : OwnR w B v l) : Sl w B w.heap.size v l := by
  have hlt := World.ownsRow.lt h
  rcases h.2 with ⟨rfl, h0⟩ | ⟨g, cap, cur, rfl, hB, hg, hc, _⟩
  · have : l = [] := List.eq_nil_of_length_eq_zero h0
    subst this
    exact ⟨none, 0, rfl, by simp, fun _ => rfl, fun h => by simp at h⟩
  · refine ⟨_, cap, rfl, hc, fun h => by simp at h, fun _ => ⟨g, 0, rfl, hB, (hlt g rfl).2, fun j hj => ?_⟩⟩
    have := World.ownsRow.cells h (g := g) rfl j (.int .u8 (l.getD j 0)) (by rw [List.getElem?_map, List.getElem?_eq_getElem hj, List.getD, List.getElem?_eq_getElem hj]; rfl)
    rw [WideShapes.add_plain] at this
    exact this

theorem OwnR.mono {w : World} {B B' : Nat} {v : Value} {l : List Int} (h : OwnR w B v l) (hB : B' ≤ B) : OwnR w B' v l := by
  refine ⟨h.1, ?_⟩
  rcases h.2 with h2 | ⟨g, cap, cur, hv, hg, r⟩
  · exact .inl h2
  · exact .inr ⟨g, cap, cur, hv, Nat.le_trans hB hg, r⟩

/-- append onto a row of the call's own, whatever is appended. -/
theorem wpList_app {w : World} {ops : Array Oper} {rest : List Oper} {o : Oper} {a : Act} {Q : Exit → Act → World → Prop} (hgd : o.guard = none) (s x : Operand)
    (ho : o.op = .call { callee := .builtin .append, args := #[s, x], argTypes := #[28, 28] })
    (B lo hi : Nat) (v xv : Value) (l l' : List Int) (hs : a.eval s = v) (hx : a.eval x = xv) (hown : OwnR w B v l) (hsl : Sl w lo hi xv l') (hb : l.length + l'.length ≤ 1000000) (hB : B ≤ w.heap.size)
    (h : ∀ v' w', Hid (OwnR w' B v' (l ++ l')) → Hid (Below B w w') → wpList Tryz.prog ops Q rest (a.put o.dst v') w') : wpList Tryz.prog ops Q (o :: rest) a w := by
  obtain ⟨i0, hi, hz0, hz1, hz2⟩ := info_parts Tryz.info5
  have hown' : w.ownsRow B 5 1 v l.length (l.map (Value.int .u8)) := hown
  obtain ⟨ad, c, rfl, hc, hn, hp⟩ := hsl
  have hrow : ∀ k, v.ownBlock = some k → B ≤ k := fun k hk => (World.ownsRow.lt hown k hk).1
  rcases ad with _ | ad
  · have hc0 := hn rfl
    subst hc0
    have h0 : l' = [] := List.eq_nil_of_length_eq_zero (by omega)
    subst h0
    exact wpList_append_own_none hgd s x 28 ho B 5 i0 1 Tryz.underlying28 hi v l.length (l.map (Value.int .u8)) hs hown' hx (h v w (by rw [List.append_nil]; exact hown) (Below.refl _ _))
  · refine wpList_append_own w hgd s x 28 ho B 5 i0 (.int .u8 0) 1 1 Tryz.underlying28 hi hz0 hz1 hz2 rfl (by decide) v l.length (l.map (Value.int .u8)) hs hown' ad l'.length c (l'.map (Value.int .u8)) hx (by simp) ?_ (ints_oneCell _ _) (by unfold maxLen; omega) (by omega) hB ?_
    · intro j u hu
      rw [List.getElem?_map] at hu
      obtain ⟨n, hq, rfl⟩ := Option.map_eq_some_iff.mp hu
      have hj : j < l'.length := (List.getElem?_eq_some_iff.mp hq).1
      obtain ⟨b, off, he, _, _, hcell⟩ := hp (by omega)
      injection he with he
      subst he
      rw [WideShapes.add_plain, hcell j hj, List.getD, hq]; rfl
    · intro v' w' h1 h2 _
      refine h v' w' ?_ ((Below.refl _ _).grown h2 hB hrow)
      show w'.ownsRow B 5 1 v' (l ++ l').length ((l ++ l').map (Value.int .u8))
      rw [List.length_append, List.map_append]
      exact h1

/-- append onto a row of the call's own, under a guard that holds. -/
theorem wpList_app_g {w : World} {ops : Array Oper} {rest : List Oper} {o : Oper} {a : Act} {Q : Exit → Act → World → Prop} (hw : Region.wanted o (yielded ops a.tmps) = true) (s x : Operand)
    (ho : o.op = .call { callee := .builtin .append, args := #[s, x], argTypes := #[28, 28] })
    (B lo hi : Nat) (v xv : Value) (l l' : List Int) (hs : a.eval s = v) (hx : a.eval x = xv) (hown : OwnR w B v l) (hsl : Sl w lo hi xv l') (hb : l.length + l'.length ≤ 1000000) (hB : B ≤ w.heap.size)
    (h : ∀ v' w', Hid (OwnR w' B v' (l ++ l')) → Hid (Below B w w') → wpList Tryz.prog ops Q rest (a.put o.dst v') w') : wpList Tryz.prog ops Q (o :: rest) a w := by
  obtain ⟨i0, hi, hz0, hz1, hz2⟩ := info_parts Tryz.info5
  have hown' : w.ownsRow B 5 1 v l.length (l.map (Value.int .u8)) := hown
  obtain ⟨ad, c, rfl, hc, hn, hp⟩ := hsl
  have hrow : ∀ k, v.ownBlock = some k → B ≤ k := fun k hk => (World.ownsRow.lt hown k hk).1
  refine wpList_step fun K hK => ?_
  rw [if_pos hw]
  rcases ad with _ | ad
  · have hc0 := hn rfl
    subst hc0
    have h0 : l' = [] := List.eq_nil_of_length_eq_zero (by omega)
    subst h0
    have hrun := run_append_owned_none (P := Tryz.prog) (w := w) B 28 o.type 5 i0 1 Tryz.underlying28 hi v l.length (l.map (Value.int .u8)) hown'
    unfold Oper.wp
    simp [execOp, ho, resolve, invoke, builtin, hs, hx, hrun, Result.andThen]
    exact hK _ _ (h v w (by rw [List.append_nil]; exact hown) (Below.refl _ _))
  · refine wp_append_own w s x 28 ho B 5 i0 (.int .u8 0) 1 1 Tryz.underlying28 hi hz0 hz1 hz2 rfl (by decide) v l.length (l.map (Value.int .u8)) hs hown' ad l'.length c (l'.map (Value.int .u8)) hx (by simp) ?_ (ints_oneCell _ _) (by unfold maxLen; omega) (by omega) hB ?_
    · intro j u hu
      rw [List.getElem?_map] at hu
      obtain ⟨n, hq, rfl⟩ := Option.map_eq_some_iff.mp hu
      have hj : j < l'.length := (List.getElem?_eq_some_iff.mp hq).1
      obtain ⟨b, off, he, _, _, hcell⟩ := hp (by omega)
      injection he with he
      subst he
      rw [WideShapes.add_plain, hcell j hj, List.getD, hq]; rfl
    · intro v' w' h1 h2 _
      refine hK _ _ (h v' w' ?_ ((Below.refl _ _).grown h2 hB hrow))
      show w'.ownsRow B 5 1 v' (l ++ l').length ((l ++ l').map (Value.int .u8))
      rw [List.length_append, List.map_append]
      exact h1

theorem two_alloc (w : World) (o o' : Obj) : ((w.alloc o).alloc o').heap[w.heap.size + 1]? = some o' := by
  have := heap_alloc_new (w.alloc o) o'
  simpa using this

theorem sl_one (w : World) (x : Int) : Sl (w.alloc (.cells #[.int .u8 x] 5)) w.heap.size (w.heap.size + 1) (.slice (some ⟨w.heap.size, 0, none⟩) 1 1) [x] := by
  refine ⟨_, 1, rfl, by simp, fun h => by simp at h, fun _ => ⟨_, _, rfl, Nat.le_refl _, by omega, fun j hj => ?_⟩⟩
  obtain rfl : j = 0 := by simpa using hj
  simp [go_sem]

theorem size5 (w : World) : (sizeOf (Tryz.prog.elem 28)).run Tryz.prog w = .ok 1 w := by kernel_rfl

/-- So many bytes from a place on. -/
def cutL (l : List Int) (p m : Nat) : List Int := (l.drop p).take m

theorem cutL_len (l : List Int) (p m : Nat) (h : p + m ≤ l.length) : (cutL l p m).length = m := by unfold cutL; rw [List.length_take, List.length_drop]; omega

theorem cutL_none (l : List Int) (p : Nat) : cutL l p 0 = [] := by simp [cutL]

theorem cutL_get (l : List Int) (p m j : Nat) (hj : j < m) : (cutL l p m)[j]? = l[p + j]? := by
  unfold cutL
  rw [List.getElem?_take, if_pos hj, List.getElem?_drop]

theorem cutL_join (l : List Int) (p k m : Nat) : cutL l p k ++ cutL l (p + k) m = cutL l p (k + m) := by
  unfold cutL
  rw [List.take_add, List.drop_drop]

theorem splice_all (m : Nat) (cs : List Value) (z : Value) (h : cs.length = m) : splice (List.replicate m z) 0 cs = cs := by
  unfold splice
  simp [h]

theorem out_wrap (p len : Nat) (n : Int) (hp : p ≤ len) (hl : len ≤ 1000000) (h0 : 0 < n) (h1 : n ≤ 9223372036854775807) (h : (len : Int) < p + n) :
    wrap64 (wrap64 ((p : Int) + n) - 1) < 0 ∨ (len : Int) ≤ wrap64 (wrap64 ((p : Int) + n) - 1) := by
  unfold wrap64
  omega

theorem Sl.news_cut {w : World} {lo hi c : Nat} {a : Option Addr} {l : List Int} (h : Sl w lo hi (.slice a l.length c) l) {w' : World} (hb : Below w.heap.size w w') (p m : Nat) (hm : 0 < m) (hp : p + m ≤ l.length) :
    ∃ b off, a = some ⟨b, off, none⟩ ∧ ∀ j u, ((cutL l p m).map (Value.int .u8))[j]? = some u → w'.cell? ⟨b, off + p + j, none⟩ = some u := by
  obtain ⟨a', c', he, hc, hn, hq⟩ := h
  injection he with e1 e2 e3
  subst e1; subst e3
  obtain ⟨b, off, rfl, _, _, hx⟩ := hq (by omega)
  refine ⟨b, off, rfl, fun j u hu => ?_⟩
  rw [List.getElem?_map] at hu
  obtain ⟨n, hn, rfl⟩ := Option.map_eq_some_iff.mp hu
  have hj : j < m := by
    have := (List.getElem?_eq_some_iff.mp hn).1
    rw [cutL_len l p m hp] at this
    exact this
  have e : l[p + j]? = some n := by
    unfold cutL at hn
    rw [List.getElem?_take, if_pos hj, List.getElem?_drop] at hn
    exact hn
  have := hx (p + j) (by omega)
  rw [List.getD, e] at this
  rw [show off + p + j = off + (p + j) by omega, cell_later hb this]; rfl

/-- A cut of a slice. -/
theorem slice_cut {w : World} {lo hi c p m : Nat} {a : Option Addr} {l : List Int} (h : Sl w lo hi (.slice a l.length c) l) (hp : p + m ≤ l.length) :
    ∃ sv, (∀ wx, (Instr.slice 28 (.slice a l.length c) (some (.int .i64 p)) (some (.int .i64 (p + m))) none).run Tryz.prog wx = .ok sv wx) ∧ Sl w lo hi sv (cutL l p m) := by
  obtain ⟨a', c', he, hc, hn, hq⟩ := h
  injection he with e1 e2 e3
  subst e1; subst e3
  refine ⟨sliced a p (p + m) c 1, fun wx => ?_, ?_⟩
  · rw [run_slice_lh (P := Tryz.prog) wx 28 a l.length c Tryz.underlying28 .i64 .i64 p (p + m) (by omega) (by omega) (by omega), size5]
    simp only [Result.andThen, Int.toNat_natCast, show ((p : Int) + (m : Int)).toNat = p + m by omega]
  · refine ⟨if c = p then a else a.map (·.add (p * 1)), c - p, ?_, ?_, ?_, ?_⟩
    · unfold sliced; rw [cutL_len l p m hp, Nat.add_sub_cancel_left]
    · rw [cutL_len l p m hp]; omega
    · intro hnone
      have : a = none := by
        split at hnone
        · exact hnone
        · simpa using hnone
      have := hn this
      omega
    · intro h0
      rw [cutL_len l p m hp] at h0
      obtain ⟨b, off, rfl, h1, h2, hx⟩ := hq (by omega)
      rw [if_neg (by omega)]
      refine ⟨b, off + p, ?_, h1, h2, fun j hj => ?_⟩
      · simp only [Option.map_some, Nat.mul_one]; rw [WideShapes.add_plain]
      · rw [cutL_len l p m hp] at hj
        rw [show off + p + j = off + (p + j) by omega, hx (p + j) (by omega)]
        congr 2
        unfold cutL
        rw [List.getD, List.getD, List.getElem?_take, if_pos hj, List.getElem?_drop]

theorem slice_head {w : World} {lo hi c : Nat} {a : Option Addr} {l : List Int} (h : Sl w lo hi (.slice a l.length c) l) (hm : 4 ≤ l.length) :
    ∃ sv, (∀ wx, (Instr.slice 28 (.slice a l.length c) none (some (.int .i64 4)) none).run Tryz.prog wx = .ok sv wx) ∧ Sl w lo hi sv (l.take 4) := by
  have hlen : (l.take 4).length = 4 := by rw [List.length_take]; omega
  obtain ⟨a', c', he, hc, hn, hq⟩ := h
  injection he with e1 e2 e3
  subst e1; subst e3
  refine ⟨sliced a 0 4 c 1, fun wx => ?_, ?_⟩
  · rw [run_slice_h (P := Tryz.prog) wx 28 a l.length c Tryz.underlying28 .i64 4 (by omega) (by omega), size5]
    rfl
  · obtain ⟨b, off, rfl, h1, h2, hx⟩ := hq (by omega)
    refine ⟨some ⟨b, off, none⟩, c, ?_, by omega, fun h => by simp at h, fun _ => ⟨b, off, rfl, h1, h2, fun j hj => ?_⟩⟩
    · unfold sliced
      rw [hlen, if_neg (by omega)]
      simp [Addr.add]
    · rw [hlen] at hj
      rw [hx j (by omega), List.getD, List.getD, List.getElem?_take, if_pos hj]

theorem wraps_i64 (n : Int) (h0 : 0 ≤ n) (h1 : n < 2 ^ 63) : IntKind.i64.wrap n = n := by
  have e : (2 : Int) ^ 63 = 9223372036854775808 := by decide
  rw [e] at h1
  exact IntWalk.i64_in _ (by omega)

theorem or_byte (X y : Int) (h0 : 0 ≤ X) (h1 : X ≤ 36028797018963967) (y0 : 0 ≤ y) (y1 : y ≤ 255) : bits .or .i64 (X * 256) y = X * 256 + y := by
  have e : (2 : Int) ^ 63 = 9223372036854775808 := by decide
  have e8 : (2 : Int) ^ 8 = 256 := by decide
  exact bits_join .i64 63 (by decide) wraps_i64 8 (X * 256) y (by omega) (by rw [e8]; omega) (by rw [e]; omega) y0 (by rw [e8]; omega) (by rw [e]; omega)

theorem or_none (y : Int) (y0 : 0 ≤ y) (y1 : y ≤ 255) : bits .or .i64 0 y = y := by
  have := or_byte 0 y (by omega) (by omega) y0 y1
  simpa using this

theorem or_wrap (X y : Int) (h0 : 0 ≤ X) (h1 : X ≤ 36028797018963967) (y0 : 0 ≤ y) (y1 : y ≤ 255) : bits .or .i64 (wrap64 (X * 256)) y = X * 256 + y := by
  rw [IntWalk.wrap64_in _ ⟨by omega, by omega⟩]
  exact or_byte X y h0 h1 y0 y1

def ByteL (l : List Int) : Prop := ∀ n ∈ l, 0 ≤ n ∧ n ≤ 255

theorem ByteL.at_ {l : List Int} (h : ByteL l) (k : Nat) (hk : k < l.length) : 0 ≤ l.getD k 0 ∧ l.getD k 0 ≤ 255 := by
  rw [List.getD, List.getElem?_eq_getElem hk]
  exact h _ (List.getElem_mem hk)

theorem ByteL.append {a b : List Int} (ha : ByteL a) (hb : ByteL b) : ByteL (a ++ b) := fun n hn => by
  rcases List.mem_append.mp hn with h | h
  · exact ha n h
  · exact hb n h

theorem res_set {w1 : World} {g : Nat} {x0 y0 : Value} (x y : Value) (k1 : w1.cell? ⟨g, 0, none⟩ = some x0) (k2 : w1.cell? ⟨g, 1, none⟩ = some y0) :
    (w1.setCell ⟨g, 0, none⟩ x).cell? ⟨g, 0, none⟩ = some x ∧ ((w1.setCell ⟨g, 0, none⟩ x).setCell ⟨g, 1, none⟩ y).cell? ⟨g, 1, none⟩ = some y := by
  have k3 : (w1.setCell ⟨g, 0, none⟩ x).cell? ⟨g, 1, none⟩ = some y0 := by
    rw [World.cell?_setCell_other _ _ _ _ (by simp)]
    exact k2
  exact ⟨World.cell?_setCell_same _ _ _ k1, World.cell?_setCell_same _ _ _ k3⟩

theorem Own.set {w : World} {g : Nat} {v : Value} {L : List Int} (h : Own w g v L) {p : Addr} (hp : g ≠ p.block) (u : Value) : Own (w.setCell p u) g v L := by
  rcases h with h | ⟨rfl, h⟩
  · exact .inl h
  · exact .inr ⟨rfl, (Below.heap_setCell w p u g hp).trans h⟩

theorem below_lt {B : Nat} {w w1 : World} {o : Obj} (hb : Below B (w.alloc o) w1) : w.heap.size < w1.heap.size := by
  have := hb.size
  simp only [World.size_alloc] at this
  omega

theorem OwnR.some_ {w : World} {B : Nat} {v : Value} {l : List Int} (h : OwnR w B v l) (h0 : 0 < l.length) :
    ∃ b cap, v = .slice (some ⟨b, 0, none⟩) l.length cap ∧ b < w.heap.size ∧ ∀ j, j < l.length → w.cell? ⟨b, j, none⟩ = some (.int .u8 (l.getD j 0)) := by
  rcases h.2 with ⟨_, h1⟩ | ⟨g, cap, cur, rfl, _, _, _⟩
  · omega
  · obtain ⟨a', c', he, _, _, hx⟩ := h.sl
    injection he with e1 e2 e3
    obtain ⟨b, off, e4, _, h2, h3⟩ := hx h0
    rw [← e1] at e4
    injection e4 with e4
    injection e4 with e5 e6 e7
    subst e5; subst e6
    exact ⟨g, cap, rfl, h2, fun j hj => by have := h3 j hj; rwa [Nat.zero_add] at this⟩

theorem OwnR.two {w : World} {B : Nat} {v : Value} {x y : Int} (h : OwnR w B v [x, y]) :
    ∃ b cap, v = .slice (some ⟨b, 0, none⟩) 2 cap ∧ b < w.heap.size ∧ w.cell? ⟨b, 0, none⟩ = some (.int .u8 x) ∧ w.cell? ⟨b, 1, none⟩ = some (.int .u8 y) := by
  obtain ⟨b, cap, rfl, hb, hx⟩ := h.some_ (by simp)
  exact ⟨b, cap, rfl, hb, hx 0 (by simp), hx 1 (by simp)⟩

theorem OwnR.four {w : World} {B : Nat} {v : Value} {x y z t : Int} (h : OwnR w B v [x, y, z, t]) :
    ∃ b cap, v = .slice (some ⟨b, 0, none⟩) 4 cap ∧ b < w.heap.size ∧ w.cell? ⟨b, 0, none⟩ = some (.int .u8 x) ∧ w.cell? ⟨b, 1, none⟩ = some (.int .u8 y) ∧ w.cell? ⟨b, 2, none⟩ = some (.int .u8 z) ∧ w.cell? ⟨b, 3, none⟩ = some (.int .u8 t) := by
  obtain ⟨b, cap, rfl, hb, hx⟩ := h.some_ (by simp)
  exact ⟨b, cap, rfl, hb, hx 0 (by simp), hx 1 (by simp), hx 2 (by simp), hx 3 (by simp)⟩

/-- 'true' is told; of what was there before nothing has turned. -/
def YesB (w : World) (e : Ending) (w' : World) : Prop := e = .returned (.bool true) ∧ Below w.heap.size w w'

theorem sl_lit (w : World) (l : List Int) : Sl (w.alloc (.cells (l.map (Value.int .u8)).toArray 5)) w.heap.size (w.heap.size + 1) (.slice (some ⟨w.heap.size, 0, none⟩) l.length l.length) l :=
  Own.sl (.inr ⟨rfl, heap_alloc_new w _⟩)

theorem bel_alloc {w w' : World} (hb : Below w.heap.size w w') (o : Obj) : Below w.heap.size w (w'.alloc o) := hb.alloc hb.size o

/-- Block b begins with x, y. -/
def Cl (w : World) (b : Nat) (x y : Value) : Prop := w.cell? ⟨b, 0, none⟩ = some x ∧ w.cell? ⟨b, 1, none⟩ = some y

theorem Cl.later {w w' : World} {b : Nat} {x y : Value} (h : Cl w b x y) (hb : Below w.heap.size w w') : Cl w' b x y := ⟨cell_later hb h.1, cell_later hb h.2⟩

theorem Cl.lt {w : World} {b : Nat} {x y : Value} (h : Cl w b x y) : b < w.heap.size := World.block_lt_of_cell? w _ h.1

theorem Cl.new (w : World) (x y : Value) (t : TypeId) : Cl (w.alloc (.cells #[x, y] t)) w.heap.size x y := ⟨by simp [go_sem], by simp [go_sem]⟩

theorem Sl.later {w w' : World} {lo hi : Nat} {v : Value} {l : List Int} (h : Sl w lo hi v l) (hb : Below w.heap.size w w') : Sl w' lo hi v l := by
  obtain ⟨a, c, rfl, hc, hn, hp⟩ := h
  refine ⟨a, c, rfl, hc, hn, fun h0 => ?_⟩
  obtain ⟨b, off, rfl, h1, h2, hx⟩ := hp h0
  exact ⟨b, off, rfl, h1, h2, fun j hj => cell_later hb (hx j hj)⟩

theorem Sl.top {w : World} {lo hi : Nat} {v : Value} {l : List Int} (h : Sl w lo hi v l) : Sl w 0 w.heap.size v l := by
  obtain ⟨a, c, rfl, hc, hn, hp⟩ := h
  refine ⟨a, c, rfl, hc, hn, fun h0 => ?_⟩
  obtain ⟨b, off, rfl, h1, h2, hx⟩ := hp h0
  exact ⟨b, off, rfl, Nat.zero_le _, World.block_lt_of_cell? w _ (hx 0 h0), hx⟩

theorem Own.empty {w : World} {g : Nat} {v : Value} (h : Own w g v []) : ∃ a, v = .slice a 0 0 := by
  rcases h with ⟨rfl, _⟩ | ⟨rfl, _⟩
  · exact ⟨_, rfl⟩
  · exact ⟨_, rfl⟩

/-- One more world: what is known of a first one, up to a third one, by way of new memory. -/
theorem bel_call {w w1 w2 : World} (h : Below w.heap.size w w1) (hb : Below w1.heap.size w1 w2) : Below w.heap.size w w2 := h.trans (hb.mono h.size)

theorem getD_behind (al M : List Int) (i : Nat) : (al ++ M).getD (al.length + i) 0 = M.getD i 0 := by
  rw [List.getD, List.getD, List.getElem?_append_right (by omega), Nat.add_sub_cancel_left]

theorem u8_of_wf {n : Int} (h : (Lit.int .u8 n).wf = true) : 0 ≤ n ∧ n ≤ 255 := by
  simp [Lit.wf, IntKind.min, IntKind.max, IntKind.signed, IntKind.bits] at h
  omega

theorem i64_of_wf {n : Int} (h : (Lit.int .i64 n).wf = true) : -9223372036854775808 ≤ n ∧ n ≤ 9223372036854775807 := by
  simp [Lit.wf, IntKind.min, IntKind.max, IntKind.signed, IntKind.bits] at h
  omega

theorem row_sl {w : World} {a : Option Addr} {len cap : Nat} {zs : List Int}
    (h : (a = none ∧ len = 0 ∧ cap = 0 ∧ zs = []) ∨ ∃ x, a = some x ∧ len ≤ cap ∧ cap ≤ maxLen ∧ zs.length = cap ∧ (∀ i, i < zs.length → w.cell? (x.add i) = some (.int .u8 (zs.getD i 0))) ∧ ∀ n ∈ zs, (Lit.int .u8 n).wf = true) :
    ∃ l, len = l.length ∧ ByteL l ∧ Sl w 0 w.heap.size (.slice a len cap) l := by
  rcases h with ⟨rfl, rfl, rfl, rfl⟩ | ⟨x, rfl, hl, hm, hz, hc, hw⟩
  · exact ⟨[], rfl, fun n hn => by simp at hn, none, 0, rfl, by simp, fun _ => rfl, fun h => by simp at h⟩
  · have hlen : (zs.take len).length = len := by rw [List.length_take]; omega
    refine ⟨zs.take len, hlen.symm, fun n hn => u8_of_wf (hw n (List.mem_of_mem_take hn)), some x, cap, by rw [hlen], by omega, fun h => by simp at h, fun h0 => ?_⟩
    rw [hlen] at h0
    obtain ⟨b, off, spot⟩ := x
    have hspot : spot = none := by simpa [Addr.add] using World.cell?_spot (hc 0 (by omega))
    subst hspot
    have hcell : ∀ j, j < len → w.cell? ⟨b, off + j, none⟩ = some (.int .u8 ((zs.take len).getD j 0)) := fun j hj => by
      have := hc j (by omega)
      rw [WideShapes.add_plain] at this
      rw [this, List.getD, List.getD, List.getElem?_take, if_pos hj]
    exact ⟨b, off, rfl, Nat.zero_le _, World.block_lt_of_cell? w _ (hcell 0 h0), fun j hj => hcell j (by omega)⟩
end Go.Proofs.YtkoohdacneflfaaGreatDoor

/-
  Texts as lists of bytes; the labels with which bytes begin; slices of texts as lists.
-/
namespace Go.Proofs.YtkoohdacneflfaaGreatDoor
open Go.RowKit
set_option linter.unusedVariables false
set_option maxRecDepth 100000

/-- The text of these bytes. -/
def bs (l : List UInt8) : ByteArray := ⟨l.toArray⟩
@[simp] theorem bs_size (l : List UInt8) : (bs l).size = l.length := by simp [bs, ByteArray.size]
theorem bs_eta (s : ByteArray) : s = bs s.data.toList := by simp [bs]
theorem bs_inj {a b : List UInt8} (h : bs a = bs b) : a = b := by
  have := congrArg (fun s : ByteArray => s.data.toList) h
  simpa [bs] using this
theorem bs_toList (l : List UInt8) : (bs l).toList = l := ByteArray.toList_mk _
theorem bs_extract (l : List UInt8) (i j : Nat) : (bs l).extract i j = bs ((l.take j).drop i) := by
  have h := bs_eta ((bs l).extract i j)
  rw [h]
  congr 1
  rw [ByteArray.data_extract]
  simp [bs, List.drop_take]

theorem bs_get (l : List UInt8) (k : Nat) (h : k < l.length) : (bs l)[k]'(by simpa using h) = l[k] := by
  show l.toArray[k] = l[k]
  simp

/-- The labels with which bytes begin, each behind its length. -/
def labs : List UInt8 → List (List UInt8)
  | [] => []
  | c :: r => if c.toNat = 0 ∨ 63 < c.toNat ∨ r.length < c.toNat then [] else r.take c.toNat :: labs (r.drop c.toNat)
termination_by l => l.length
decreasing_by simp; omega

/-- What is left behind them. -/
def left : List UInt8 → List UInt8
  | [] => []
  | c :: r => if c.toNat = 0 ∨ 63 < c.toNat ∨ r.length < c.toNat then c :: r else left (r.drop c.toNat)
termination_by l => l.length
decreasing_by simp; omega

theorem labs_no (n : List UInt8) (p : Nat) (hp : p < n.length) (h : n[p].toNat = 0 ∨ 63 < n[p].toNat ∨ n.length < p + 1 + n[p].toNat) : labs (n.drop p) = [] ∧ left (n.drop p) = n.drop p := by
  have e : n.drop p = n[p] :: n.drop (p + 1) := List.drop_eq_getElem_cons hp
  have h' : n[p].toNat = 0 ∨ 63 < n[p].toNat ∨ (n.drop (p + 1)).length < n[p].toNat := by rw [List.length_drop]; omega
  rw [e, labs, left, if_pos h', if_pos h']
  exact ⟨rfl, rfl⟩

theorem labs_yes (n : List UInt8) (p : Nat) (hp : p < n.length) (h : ¬ (n[p].toNat = 0 ∨ 63 < n[p].toNat ∨ n.length < p + 1 + n[p].toNat)) :
    labs (n.drop p) = (n.drop (p + 1)).take n[p].toNat :: labs (n.drop (p + 1 + n[p].toNat)) ∧ left (n.drop p) = left (n.drop (p + 1 + n[p].toNat)) := by
  have e : n.drop p = n[p] :: n.drop (p + 1) := List.drop_eq_getElem_cons hp
  have h' : ¬ (n[p].toNat = 0 ∨ 63 < n[p].toNat ∨ (n.drop (p + 1)).length < n[p].toNat) := by rw [List.length_drop]; omega
  rw [e, labs, left, if_neg h', if_neg h', List.drop_drop]
  exact ⟨rfl, rfl⟩

theorem labs_end (n : List UInt8) (p : Nat) (hp : n.length ≤ p) : labs (n.drop p) = [] ∧ left (n.drop p) = [] := by
  rw [List.drop_eq_nil_of_le hp, labs, left]
  exact ⟨rfl, rfl⟩

theorem along_end {α : Type} {L : List α} {k : Nat} (h : L.drop k = []) (hk : k ≤ L.length) : k = L.length := by
  have := congrArg List.length h
  rw [List.length_drop] at this
  simp at this
  omega

theorem along_step {α : Type} {L r : List α} {k : Nat} {x : α} (h : L.drop k = x :: r) : L[k]? = some x ∧ L.drop (k + 1) = r ∧ k + 1 ≤ L.length := by
  have hl : k < L.length := by
    have := congrArg List.length h
    rw [List.length_drop] at this
    simp at this
    omega
  have e := List.drop_eq_getElem_cons hl
  rw [h] at e
  injection e with e1 e2
  exact ⟨by rw [List.getElem?_eq_getElem hl, e1], e2.symm, hl⟩

/-! ### operations on texts, as they run -/
theorem ix_run (n : List UInt8) (p : Nat) (hp : p < n.length) (w : World) : (Instr.index 9 (.string (bs n)) (.int .i64 p)).run Tryz.prog w = .ok (.int .u8 (n[p].toNat : Int)) w := by
  rw [run_index_string w 9 _ _ _ Tryz.underlying9, dif_pos (by rw [bs_size]; omega)]
  congr 3

theorem cut_run (n : List UInt8) (i j : Nat) (h : i ≤ j) (hj : j ≤ n.length) (w : World) : (Instr.slice 9 (.string (bs n)) (some (.int .i64 i)) (some (.int .i64 j)) none).run Tryz.prog w = .ok (.string (bs ((n.drop i).take (j - i)))) w := by
  rw [run_slice_string w 9 _ _ _ _ _ Tryz.underlying9 (by omega) (by omega) (by simp; omega), bs_extract, List.drop_take]
  simp

theorem from_run (n : List UInt8) (i : Nat) (h : i ≤ n.length) (w : World) : (Instr.slice 9 (.string (bs n)) (some (.int .i64 i)) none none).run Tryz.prog w = .ok (.string (bs (n.drop i))) w := by
  rw [run_slice_string_from_if w 9 _ _ _ Tryz.underlying9, if_pos (by simp; omega), bs_extract]
  simp

end Go.Proofs.YtkoohdacneflfaaGreatDoor

/-
  Check, is.
-/
namespace Go.Proofs.YtkoohdacneflfaaGreatDoor
open Go.RowKit Go.Shelf
set_option linter.unusedVariables false
set_option maxRecDepth 100000
attribute [local go_sem] Oper.semAt_some

/-- Labels as bytes: each behind its length. -/
def wire : List (List UInt8) → List UInt8
  | [] => []
  | l :: r => UInt8.ofNat l.length :: l ++ wire r

/-- Block b is a cell of the call's own that holds v. -/
def Bx (W : World) (b : Nat) (v : Value) : Prop := W.cell? ⟨b, 0, none⟩ = some v ∧ W.frozen? ⟨b, 0, none⟩ = false

theorem Bx.lt {W : World} {b : Nat} {v : Value} (h : Bx W b v) : b < W.heap.size := World.block_lt_of_cell? W _ h.1
theorem Bx.aside {G : Nat → Prop} {A B : World} {b : Nat} {v : Value} (h : Bx A b v) (ha : Aside G A B) (hg : ¬ G b) : Bx B b v :=
  ⟨(ha.cell h.lt hg).trans h.1, (ha.frozen h.lt hg).trans h.2⟩
theorem Bx.set {W : World} {b : Nat} {u : Value} (h : Bx W b u) (v : Value) : Bx (W.setCell ⟨b, 0, none⟩ v) b v :=
  ⟨World.cell?_setCell_same _ _ _ h.1, by rw [World.frozen?_setCell]; exact h.2⟩

/-- A call that tells v and leaves what was there as it was. -/
def Tells (w : World) (v : Value) (e : Ending) (w' : World) : Prop := e = .returned v ∧ Below w.heap.size w w'

end Go.Proofs.YtkoohdacneflfaaGreatDoor

/-
  Rows of the call's own whose places behind the length hold the zero value: elements of one cell.
-/
namespace Go.Proofs.YtkoohdacneflfaaGreatDoor
open Go.RowKit
set_option linter.unusedVariables false
set_option maxRecDepth 100000

/-- v is nil, or a row in a block from B on: the cells cs, then zeros up to the capacity. -/
def OwnZ (w : World) (B : Nat) (e : TypeId) (z : Value) (v : Value) (cs : List Value) : Prop :=
  (v = .slice none 0 0 ∧ cs = []) ∨ ∃ g cap, v = .slice (some ⟨g, 0, none⟩) cs.length cap ∧ B ≤ g ∧ cs.length ≤ cap ∧ cap ≤ maxLen ∧ w.heap[g]? = some (.cells (cs ++ List.replicate (cap - cs.length) z).toArray e (0, 0))

section
variable {w w' : World} {B B' : Nat} {e : TypeId} {z v : Value} {cs : List Value} {G : Nat → Prop}
theorem OwnZ.nil (w : World) (B : Nat) (e : TypeId) (z : Value) : OwnZ w B e z (.slice .none 0 0) [] := .inl ⟨rfl, rfl⟩
theorem OwnZ.lt (h : OwnZ w B e z v cs) : ∀ k, v.ownBlock = some k → B ≤ k ∧ k < w.heap.size := by
  intro k hk
  rcases h with ⟨rfl, _⟩ | ⟨g, cap, rfl, hB, _, _, hg⟩
  · simp [Value.ownBlock] at hk
  · simp [Value.ownBlock] at hk
    subst hk
    exact ⟨hB, (Array.getElem?_eq_some_iff.1 hg).1⟩
theorem OwnZ.aside (h : OwnZ w B e z v cs) (ha : Aside G w w') (hG : ∀ b, B ≤ b → ¬ G b) : OwnZ w' B e z v cs := by
  have hlt := h.lt
  rcases h with h2 | ⟨g, cap, hv, hg, h1, h2, hh⟩
  · exact .inl h2
  · exact .inr ⟨g, cap, hv, hg, h1, h2, (ha.block g (by subst hv; exact (hlt g rfl).2) (hG g hg)).trans hh⟩
theorem OwnZ.mono (h : OwnZ w B e z v cs) (hB : B' ≤ B) : OwnZ w B' e z v cs := by
  rcases h with h2 | ⟨g, cap, hv, hg, r⟩
  · exact .inl h2
  · exact .inr ⟨g, cap, hv, Nat.le_trans hB hg, r⟩
theorem OwnZ.below (h : OwnZ w B e z v cs) (hb : Below w.heap.size w w') : OwnZ w' B e z v cs := h.aside (G := fun _ => False) (Aside.of_all hb) fun _ _ h => h
theorem OwnZ.owns (h : OwnZ w B e z v cs) : w.ownsRow B e 1 v cs.length cs := by
  refine ⟨by simp, ?_⟩
  rcases h with ⟨rfl, rfl⟩ | ⟨g, cap, rfl, hg, h1, h2, hh⟩
  · exact .inl ⟨rfl, rfl⟩
  · exact .inr ⟨g, cap, _, rfl, hg, hh, h1, h2, by simp; omega, by simp⟩
end

theorem zeroCells_one (z : Value) (hz : z.cells = #[z]) (n : Nat) : Builtin.zeroCells z.cells n = (List.replicate n z).toArray := by
  rw [hz]
  apply Array.ext
  · simp [Builtin.zeroCells]
  · intro i h1 h2
    simp [Builtin.zeroCells, Nat.mod_one]

theorem run_append_Z {P : Program} {w : World} (B : Nat) (t ty e : TypeId) (i : TypeInfo) (z : Value) (bytes : Nat) (ht : P.underlying t = some (.slice e)) (hi : P.info? e = some i) (hz : i.zero = some z)
    (hsize : i.size = 1) (hby : i.bytes = bytes) (hzs : z.cells = #[z]) (v : Value) (cs : List Value) (hown : OwnZ w B e z v cs)
    (a : Addr) (m c : Nat) (news : List Value) (hl : news.length = m) (hnews : ∀ j u, news[j]? = some u → w.cell? (a.add j) = some u) (h1 : ∀ u ∈ news, u.oneCell' = true)
    (h63 : cs.length + m ≤ maxLen) (hbytes : (cs.length + m) * bytes ≤ 140737488355328) (hbase : B ≤ w.heap.size) :
    ∃ v' w', (Builtin.append_ #[t, t] ty #[v, .slice (some a) m c]).run P w = .ok v' w' ∧ OwnZ w' B e z v' (cs ++ news) ∧ w.grownBy w' v.ownBlock := by
  subst hby
  have hsmall : cs.length + m ≤ 9223372036854775807 := by simp only [maxLen] at h63; omega
  rcases hown with ⟨rfl, rfl⟩ | ⟨g, cap, rfl, hbg, hnc, hcm, hg⟩
  · by_cases hm : m = 0
    · subst hm
      have hn : news = [] := List.eq_nil_of_length_eq_zero hl
      subst hn
      refine ⟨.slice none 0 0, w, ?_, OwnZ.nil _ _ _ _, ⟨rfl, rfl, rfl, Nat.le_refl _, fun _ _ _ => rfl⟩⟩
      simp [Builtin.append_, run_underlying ht, sizeOf, typeInfo, hi, Builtin.lenOf, Builtin.firstCells, loadCells, loadCellsFrom]
    · have hr := run_append_nil (P := P) w t ty e i z ht hi hz a m c news (by rw [hsize]; omega) hnews (by omega) (by simp at hsmall; omega) (by simp at hbytes; omega)
      have hge := grownCap_ge w m 0 e
      refine ⟨_, _, hr, .inr ⟨w.heap.size, grownCap w m 0 e, by simp [hl], hbase, by simp [hl]; exact hge, grownCap_le_maxLen w m 0 e (by simpa using h63), ?_⟩, ⟨rfl, rfl, rfl, by simp, fun k hk _ => (by first | exact heap_alloc_old w.drew _ k hk | exact heap_alloc_old w.drew _ hk)⟩⟩
      refine (heap_alloc_new w.drew _).trans ?_
      rw [zeroCells_one z hzs]
      simp [hl]
  · by_cases hroom : cs.length + m ≤ cap
    · have hr := run_append_room (P := P) w t ty e i ht hi g cs.length cap _ hg a m c news (by rw [hsize]; omega) hnews h1 hroom (by rw [hsize]; simp; omega)
      refine ⟨_, _, hr, .inr ⟨g, cap, by simp [hl], hbg, by simp [hl]; exact hroom, hcm, ?_⟩, ⟨rfl, rfl, rfl, by simp, fun k _ hk => setRow_other w g k _ (fun e => hk (by simp [Value.ownBlock, e]))⟩⟩
      rw [setRow_heap w g _ _ e _ hg, hsize]
      have hlist : ((cs ++ List.replicate (cap - cs.length) z).toArray.toList.take (cs.length * 1) ++ news ++ (cs ++ List.replicate (cap - cs.length) z).toArray.toList.drop (cs.length * 1 + news.length)) = cs ++ news ++ List.replicate (cap - (cs ++ news).length) z := by
        have e1 : (cs ++ List.replicate (cap - cs.length) z).drop (cs.length + news.length) = List.replicate (cap - (cs ++ news).length) z := by
          rw [List.drop_append, List.drop_eq_nil_of_le (by omega), List.nil_append, List.drop_replicate, List.length_append]
          congr 1
          omega
        rw [Nat.mul_one, List.toList_toArray, List.take_left, e1]
      rw [hlist]
    · have holds : ∀ j u, cs[j]? = some u → w.cell? ((⟨g, 0, none⟩ : Addr).add j) = some u := fun j u hu => by
        have hj := (List.getElem?_eq_some_iff.1 hu).1
        rw [WideShapes.add_plain, Nat.zero_add, World.cell?, hg]
        simp [List.getElem?_append_left hj, hu]
      have hr := run_append_grow (P := P) w t ty e i z ht hi hz ⟨g, 0, none⟩ cs.length cap cs (by rw [hsize]; omega) holds a m c news (by rw [hsize]; omega) hnews (by omega) (by omega) (growslice_fits (by omega) hbytes)
      have hge := grownCap_ge w (cs.length + m) cap e
      refine ⟨_, _, hr, .inr ⟨w.heap.size, grownCap w (cs.length + m) cap e, by simp [hl], hbase, by simp [hl]; exact hge, grownCap_le_maxLen w _ cap e h63, ?_⟩, ⟨rfl, rfl, rfl, by simp, fun k hk _ => (by first | exact heap_alloc_old w.drew _ k hk | exact heap_alloc_old w.drew _ hk)⟩⟩
      refine (heap_alloc_new w.drew _).trans ?_
      rw [zeroCells_one z hzs]
      simp [hl]
end Go.Proofs.YtkoohdacneflfaaGreatDoor
