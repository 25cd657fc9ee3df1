/-
  A range over a function, over an iterator that yields texts: what the iterator keeps and what it turns, a caller's invariant, a body; panics of the iterator pass through.
-/
import Derived.Test.YtckmjpnkjnihlaaRows
import Derived.RangeFuncLeaves
import Derived.RangeFuncRecord
import Derived.RangeFuncSeq
import Derived.Deep.Draws
import Derived.Below
import Derived.Lib.Hide
namespace Go.Proofs.Ytckmjpnkjnihlaa
open Go.RowKit
set_option linter.unusedVariables false
set_option maxRecDepth 100000

/-- But for the blocks G the world is as it was. -/
structure Aside (G : Nat → Prop) (w w' : World) : Prop where
  os : w'.os = w.os
  tape : w'.tape = w.tape
  output : w'.output = w.output
  size : w.heap.size ≤ w'.heap.size
  block : ∀ k, k < w.heap.size → ¬ G k → w'.heap[k]? = w.heap[k]?

section
variable {G G' : Nat → Prop} {w w1 w2 : World} {B : Nat}
theorem Aside.refl (G : Nat → Prop) (w : World) : Aside G w w := ⟨rfl, rfl, rfl, Nat.le_refl _, fun _ _ _ => rfl⟩
theorem Aside.trans (h : Aside G w w1) (k : Aside G w1 w2) : Aside G w w2 :=
  ⟨k.os.trans h.os, k.tape.trans h.tape, k.output.trans h.output, Nat.le_trans h.size k.size, fun i hi hg => (k.block i (Nat.lt_of_lt_of_le hi h.size) hg).trans (h.block i hi hg)⟩
theorem Aside.mono (h : Aside G w w1) (hG : ∀ k, k < w.heap.size → G k → G' k) : Aside G' w w1 := ⟨h.os, h.tape, h.output, h.size, fun k hk hg => h.block k hk (fun e => hg (hG k hk e))⟩
theorem Aside.of_below (h : Below B w w1) (hB : ∀ k, k < w.heap.size → ¬ G k → k < B) : Aside G w w1 := ⟨h.os, h.tape, h.output, h.size, fun k hk hg => h.block k (hB k hk hg)⟩
theorem Aside.of_all (h : Below w.heap.size w w1) : Aside G w w1 := Aside.of_below h fun _ hk _ => hk
theorem Aside.below (h : Aside G w w1) (hB : ∀ k, k < B → k < w.heap.size ∧ ¬ G k) : Below B w w1 := ⟨h.os, h.tape, h.output, h.size, fun k hk => h.block k (hB k hk).1 (hB k hk).2⟩
theorem Aside.cell (h : Aside G w w1) {p : Addr} (hp : p.block < w.heap.size) (hg : ¬ G p.block) : w1.cell? p = w.cell? p := World.cell?_of_block (w := w) (h.block p.block hp hg)
theorem Aside.frozen (h : Aside G w w1) {p : Addr} (hp : p.block < w.heap.size) (hg : ¬ G p.block) : w1.frozen? p = w.frozen? p := World.frozen?_of_block (w := w) (h.block p.block hp hg)
theorem Aside.cell_lt (h : Aside G w w1) {p : Addr} {v : Value} (hv : w.cell? p = some v) (hg : ¬ G p.block) : w1.cell? p = some v := (h.cell (World.block_lt_of_cell? w p hv) hg).trans hv
theorem Aside.alloc (w : World) (o : Obj) : Aside G w (w.alloc o) := ⟨rfl, rfl, rfl, by simp, fun k hk _ => Below.heap_alloc _ _ _ hk⟩
theorem Aside.putObj (w : World) {r : Nat} (o : Obj) (hr : G r) : Aside G w (w.putObj r o) := ⟨rfl, rfl, rfl, by simp, fun k _ hg => World.putObj_heap_other (fun e => hg (e ▸ hr))⟩
theorem Aside.setCell (w : World) {p : Addr} (v : Value) (hr : G p.block) : Aside G w (w.setCell p v) := ⟨rfl, rfl, rfl, by simp [World.setCell], fun k _ hg => Below.heap_setCell _ _ _ _ (fun e => hg (e ▸ hr))⟩
theorem Aside.drewN (w : World) (n : Nat) : Aside G w (w.drewN n) := ⟨rfl, rfl, rfl, Nat.le_refl _, fun _ _ _ => rfl⟩
theorem Aside.grown {row : Option Nat} (hg : w.grownBy w1 row) (hr : ∀ k, row = some k → G k) : Aside G w w1 :=
  ⟨hg.os, hg.tape, hg.output, hg.size, fun k hk hn => hg.block k hk (fun e => hn (hr k e.symm))⟩
theorem Aside.of_drew (h : Aside G w.drew w1) : Aside G w w1 := ⟨h.os, h.tape, h.output, h.size, h.block⟩
theorem below_aside (h : Below B w w1) (k : Aside G w1 w2) (hB : ∀ k, k < B → k < w1.heap.size ∧ ¬ G k) : Below B w w2 := h.trans (k.below hB)
end

/-- How an iterator ends: all have come; a round said 'no more'; it panics behind all of them. -/
def SeqEnd (m : Nat) (fin : Option (List PanicEntry)) (J Jx : Nat → World → Prop) (e : Ending) (B : World) : Prop :=
  (fin = none ∧ (∃ v, e = .returned v) ∧ J m B) ∨ ((∃ v, e = .returned v) ∧ ∃ k, k ≤ m ∧ Jx k B) ∨ (∃ ch, fin = some ch ∧ e = .panicked ch ∧ J m B)

/-- What an iterator over texts does, whatever loop calls it: it yields xs, one behind the other, if it is not stopped; then it returns, or panics with fin. It leans on the blocks K, turns blocks of G alone, and asks St of the world in which it begins. -/
def SeqT (P : Program) (gf : Nat) (lb : Array Value) (K G : Nat → Prop) (xs : List ByteArray) (fin : Option (List PanicEntry)) (St : World → Prop) : Prop :=
  ∀ (l : Nat) (J Jx : Nat → World → Prop) (W : World),
    (∀ k A B, J k A → Aside G A B → J k B) →
    (∀ k A x, xs[k]? = some x → J k A → YieldAt Fence.wide 0 P l #[.string x] A fun e B =>
      (e = .returned (.bool true) ∧ J (k + 1) B ∧ A.heap.size ≤ B.heap.size ∧ ∀ b, K b → B.heap[b]? = A.heap[b]?) ∨ (e = .returned (.bool false) ∧ Jx (k + 1) B)) →
    St W → J 0 W →
    CallsIn Fence.wide 0 P gf (#[.func (.yield l) #[] #[]] ++ lb) W (SeqEnd xs.length fin J Jx)

/-- How a round's body may be left. -/
def roundT (M : Nat → Prop) (k : Nat) (I : Nat → World → Prop) (Ix : Code → Nat → World → Prop) (W : World) : Exit → Act → World → Prop
  | .normal, _, W' => Aside M W W' ∧ I (k + 1) W'
  | .ret, _, W' => Aside M W W' ∧ Ix .ret (k + 1) W'
  | .exit id, _, W' => Aside M W W' ∧ Ix (.exit id) (k + 1) W'
  | .goto t, _, W' => Aside M W W' ∧ Ix (.goto t) (k + 1) W'
  | .panic _, _, _ => False
  | .outgrown, _, _ => False

theorem wp_rangeFunc_T {P : Program} {gf : Nat} {lb : Array Value} {K G M : Nat → Prop} {xs : List ByteArray} {fin : Option (List PanicEntry)} {St : World → Prop}
    {g : Operand} {ps : Array Tmp} {assign body : Code} {Q : Exit → Act → World → Prop} {a : Act} {w : World} {D : Nat} (hD : w.heap.size = D)
    (hg : a.eval g = .func (.func gf) #[] lb) (eg : ∀ args w, (callFunc gf args).run P w = .ok (.enter gf args) w)
    (hseq : SeqT P gf lb K G xs fin St) (hSt : St w) (hStK : ∀ A B, St A → (∀ b, K b → B.heap[b]? = A.heap[b]?) → A.heap.size ≤ B.heap.size → St B)
    (hK : ∀ b, K b → b < D) (hM : ∀ b, M b → ¬ K b ∧ b ≠ D ∧ b ≠ D + 1) (hGK : ∀ b, G b → K b) (hps : ps.size = 1)
    (I : Nat → World → Prop) (Ix : Code → Nat → World → Prop)
    (hI : ∀ k A B, I k A → Aside (fun b => G b ∨ b = D ∨ b = D + 1) A B → I k B)
    (hIx : ∀ c k A B, Ix c k A → Aside (fun b => G b ∨ b = D ∨ b = D + 1) A B → Ix c k B)
    (h0 : I 0 w) (a₁ : ByteArray → Act)
    (hassign : ∀ (l : Nat) (x : ByteArray) (W : World) (K : Act → World → Prop), K (a₁ x) W →
      assign.wpIn (Fence.wide.inRound l) 0 P (Exit.then K (fun _ _ _ => False)) { tmps := (ps.zip #[.string x]).foldl (fun t (p, v) => t.setIfInBounds p v) a.tmps, defers := [] } W)
    (hbody : ∀ (l k : Nat) (x : ByteArray) (W : World), xs[k]? = some x → D + 2 ≤ W.heap.size → I k W → body.wpIn (Fence.wide.inRound l) 0 P (roundT M k I Ix W) (a₁ x) W)
    (hdone : fin = none → ∀ W, I xs.length W → D + 2 ≤ W.heap.size → W.heap[D]? = some (.deferred (some [])) → Q .normal { a with defers := { target := .collected D, args := #[] } :: a.defers } W)
    (hstop : ∀ c k W, k ≤ xs.length → Ix c k W → W.heap[D]? = some (.deferred (some [])) → c.wp P Q { a with defers := { target := .collected D, args := #[] } :: a.defers } W)
    (hpanic : ∀ ch, fin = some ch → ∀ W, I xs.length W → W.heap[D]? = some (.deferred (some [])) → Q (.panic ch) { a with defers := { target := .collected D, args := #[] } :: a.defers } W) :
    (Code.rangeFunc g ps assign body).wp P Q a w := by
  subst hD
  refine (wpIn_wide (n := 0)).1 (wpIn_rangeFunc ?_)
  intro fn hfn
  obtain ⟨rec, hrec⟩ : ∃ rec : LoopState → Option Code → Loop, rec = fun st pe => { state := st, pending := pe, fn, tmps := a.tmps, params := ps, assign, body, defers := w.heap.size } := ⟨_, rfl⟩
  obtain ⟨W1, hW1⟩ : ∃ W1, (w.alloc (.deferred (some []))).alloc (.loop (rec .ready none)) = W1 := ⟨_, rfl⟩
  have hs1 : W1.heap.size = w.heap.size + 2 := by rw [← hW1]; simp
  have hL1 : W1.heap[w.heap.size + 1]? = some (.loop (rec .ready none)) := by
    rw [← hW1]; have := World.alloc_heap_new (w.alloc (.deferred (some []))) (.loop (rec .ready none)); rwa [World.size_alloc] at this
  have hK1 : W1.heap[w.heap.size]? = some (.deferred (some [])) := by
    rw [← hW1]; exact (Below.heap_alloc _ _ _ (by simp)).trans (World.alloc_heap_new w _)
  have hA1 : ∀ G, Aside G w W1 := fun G => by rw [← hW1]; exact (Aside.alloc _ _).trans (Aside.alloc _ _)
  refine ⟨w.heap.size + 1, [{ target := .collected w.heap.size, args := #[] }], W1, { target := .fn (.func gf) lb, args := #[.func (.yield (w.heap.size + 1)) #[] #[]] }, W1, gf,
    #[.func (.yield (w.heap.size + 1)) #[] #[]] ++ lb, W1, ?_, ?_, ?_, ?_, (fun h => by simp [Fence.wide] at h), ?_⟩
  · rw [← hW1, hrec]; exact run_enterLoop_outer _ _ _ _ _
  · simp only [resolve, hg]
    simp [go_sem]
  · intro f' _; trivial
  · simp [invoke, go_sem, eg]
  · have hStep : ∀ (I : World → Prop), (∀ A B, I A → Aside (fun b => G b ∨ b = w.heap.size ∨ b = w.heap.size + 1) A B → I B) → ∀ A (o : Obj), I A → I (A.putObj (w.heap.size + 1) o) :=
      fun I h A o ha => h _ _ ha (Aside.putObj _ _ (.inr (.inr rfl)))
    have hSt1 : St W1 := hStK _ _ hSt (fun b hb => (hA1 (fun _ => False)).block b (hK b hb) (fun h => h)) (hA1 (fun _ => False)).size
    refine (hseq (w.heap.size + 1)
      (fun k W => I k W ∧ w.heap.size + 2 ≤ W.heap.size ∧ W.heap[w.heap.size + 1]? = some (.loop (rec .ready none)) ∧ W.heap[w.heap.size]? = some (.deferred (some [])))
      (fun k W => ∃ c, Ix c k W ∧ W.heap[w.heap.size + 1]? = some (.loop (rec .done (some c))) ∧ W.heap[w.heap.size]? = some (.deferred (some [])))
      W1
      (fun k A B hs hab => by
        obtain ⟨h1, h2, h3, h4⟩ := hs
        have hlo : ∀ b, G b → b < w.heap.size := fun b hb => hK b (hGK b hb)
        exact ⟨hI k A B h1 (hab.mono fun b _ hb => .inl hb), Nat.le_trans h2 hab.size, (hab.block _ (by omega) (fun e => by have := hlo _ e; omega)).trans h3, (hab.block _ (by omega) (fun e => by have := hlo _ e; omega)).trans h4⟩)
      ?_ hSt1 ⟨hI _ _ _ h0 (hA1 _), by omega, hL1, hK1⟩).mono ?_
    · -- one round
      rintro k W x hx ⟨hi, hsz, hl, hk⟩
      have hlt : w.heap.size + 1 < W.heap.size := by omega
      have hy := run_yield (P := P) (args := #[.string x]) hl (by rw [hrec]; simp [hps])
      rw [hrec] at hy
      refine ⟨fn, _, assign, body, hy, roundIn_of_wpIn hfn (hassign _ x W _ ⟨_, run_beginRound hl (by rw [hrec]), ?_⟩)⟩
      obtain ⟨W2, hW2⟩ : ∃ W2, W.putObj (w.heap.size + 1) (.loop { rec .ready none with state := .busy }) = W2 := ⟨_, rfl⟩
      have hs2 : W2.heap.size = W.heap.size := by rw [← hW2]; simp
      have hl2 : W2.heap[w.heap.size + 1]? = some (.loop { rec .ready none with state := .busy }) := by rw [← hW2]; exact World.putObj_heap_same hlt
      have hk2 : W2.heap[w.heap.size]? = some (.deferred (some [])) := by rw [← hW2]; exact (World.putObj_heap_other (by omega)).trans hk
      have hi2 : I k W2 := by rw [← hW2]; exact hStep _ (hI k) _ _ hi
      have hK2 : ∀ b, K b → W2.heap[b]? = W.heap[b]? := fun b hb => by rw [← hW2]; exact World.putObj_heap_other (by have := hK b hb; omega)
      rw [show W.putObj (w.heap.size + 1) (.loop { rec .ready none with state := .busy }) = W2 from hW2]
      refine wpIn_mono (hbody _ k x W2 hx (by omega) hi2) ?_
      have fin : ∀ (jump : Option Code) (W3 : World), Aside M W2 W3 →
          (Instr.endRound (w.heap.size + 1) jump).run P W3 = .ok (.bool jump.isNone) (W3.putObj (w.heap.size + 1) (.loop (rec (if jump.isNone then .ready else .done) jump))) ∧
          W2.heap.size ≤ W3.heap.size ∧
          (W3.putObj (w.heap.size + 1) (.loop (rec (if jump.isNone then .ready else .done) jump))).heap[w.heap.size + 1]? = some (.loop (rec (if jump.isNone then .ready else .done) jump)) ∧
          (W3.putObj (w.heap.size + 1) (.loop (rec (if jump.isNone then .ready else .done) jump))).heap[w.heap.size]? = some (.deferred (some [])) ∧
          ∀ b, K b → (W3.putObj (w.heap.size + 1) (.loop (rec (if jump.isNone then .ready else .done) jump))).heap[b]? = W.heap[b]? := fun jump W3 h3 => by
        have hm : ∀ b, b = w.heap.size + 1 ∨ b = w.heap.size ∨ K b → ¬ M b := fun b hb hm => by
          have := hM b hm
          rcases hb with e | e | e
          · exact this.2.2 e
          · exact this.2.1 e
          · exact this.1 e
        have hl3 := (h3.block _ (by omega) (hm _ (.inl rfl))).trans hl2
        have hk3 := (h3.block _ (by omega) (hm _ (.inr (.inl rfl)))).trans hk2
        have := run_endRound (P := P) jump hl3
        rw [hrec] at this ⊢
        refine ⟨this, h3.size, World.putObj_heap_same (Array.getElem?_eq_some_iff.1 hl3).1, (World.putObj_heap_other (by omega)).trans hk3, fun b hb => ?_⟩
        have hb1 := hK b hb
        exact (World.putObj_heap_other (by omega)).trans ((h3.block b (by omega) (hm _ (.inr (.inr hb)))).trans (hK2 b hb))
      rintro e a3 W3 hp
      cases e with
      | normal =>
        obtain ⟨ha3, hi3⟩ := hp
        obtain ⟨hr, hs3, hl4, hk4, hK4⟩ := fin none W3 ha3
        exact ⟨_, _, hr, .inl ⟨rfl, ⟨hStep _ (hI _) _ _ hi3, by simp; omega, hl4, hk4⟩, by simp; omega, hK4⟩⟩
      | ret =>
        obtain ⟨ha3, hi3⟩ := hp
        obtain ⟨hr, hs3, hl4, hk4, hK4⟩ := fin (some .ret) W3 ha3
        exact ⟨_, _, hr, .inr ⟨rfl, .ret, hStep _ (hIx _ _) _ _ hi3, hl4, hk4⟩⟩
      | exit id =>
        obtain ⟨ha3, hi3⟩ := hp
        obtain ⟨hr, hs3, hl4, hk4, hK4⟩ := fin (some (.exit id)) W3 ha3
        exact ⟨_, _, hr, .inr ⟨rfl, .exit id, hStep _ (hIx _ _) _ _ hi3, hl4, hk4⟩⟩
      | goto t =>
        obtain ⟨ha3, hi3⟩ := hp
        obtain ⟨hr, hs3, hl4, hk4, hK4⟩ := fin (some (.goto t)) W3 ha3
        exact ⟨_, _, hr, .inr ⟨rfl, .goto t, hStep _ (hIx _ _) _ _ hi3, hl4, hk4⟩⟩
      | panic ch => exact hp.elim
      | outgrown => exact hp.elim
    · -- behind the iterator
      rintro e W2 (⟨hf, ⟨v, rfl⟩, hi, hsz, hl, hk⟩ | ⟨⟨v, rfl⟩, k, hk0, c, hi, hl, hk⟩ | ⟨ch, hf, rfl, hi, hsz, hl, hk⟩)
      · refine ⟨none, _, ?_, hdone hf _ (hStep _ (hI _) _ (.loop { rec .ready none with state := .exhausted }) hi) (by simp; omega) ((World.putObj_heap_other (by omega)).trans hk)⟩
        have := run_endLoop (P := P) hl (by rw [hrec]; simp)
        rw [hrec] at this ⊢; exact this
      · refine ⟨some c, _, ?_, (wpIn_wide (n := 0)).2 (hstop c k _ hk0 (hStep _ (hIx c k) _ (.loop { rec .done (some c) with state := .exhausted }) hi) ((World.putObj_heap_other (by omega)).trans hk))⟩
        have := run_endLoop (P := P) hl (by rw [hrec]; simp)
        rw [hrec] at this ⊢; exact this
      · exact hpanic ch hf _ hi hk

/-- A function's contract from its body, where the body holds a range over a function. -/
theorem calls_of_wp_marks {P : Program} {f : FuncId} {fn : Func} {c : Code} {args : Array Value} {w : World} {R : Ending → World → Prop}
    (hf : P.funcs[f]? = some fn) (hb : fn.body = some c)
    (h : c.wp P (bodyPostM Fence.wide 0 P fn R) { tmps := args ++ Array.replicate (fn.ntmps - args.size) undef, defers := [] } w) : Calls P f args w R :=
  (callsIn_wide (n := 0)).1 (callsIn_of_wp_marks hf hb trivial ((wpIn_wide (n := 0)).2 h))
/-- Steps that turn blocks of G or such that were not there. -/
theorem Aside.onto {G M : Nat → Prop} {w W W' : World} (h : Aside G w W) (k : Aside M W W') (hM : ∀ b, b < w.heap.size → ¬ G b → ¬ M b) : Aside G w W' :=
  ⟨k.os.trans h.os, k.tape.trans h.tape, k.output.trans h.output, Nat.le_trans h.size k.size, fun b hb hg => (k.block b (Nat.lt_of_lt_of_le hb h.size) (hM b hb hg)).trans (h.block b hb hg)⟩

theorem Aside.shut {G : Nat → Prop} {w W : World} {D : Nat} {o : Obj} (h : Aside G w W) (hD : w.heap.size ≤ D) : Aside G w (W.putObj D o) :=
  h.onto (M := fun b => b = D) (Aside.putObj _ _ rfl) fun b hb _ => by omega

/-- Behind the loop: its block of deferred calls is shut; what is told is read off. -/
theorem marks_ret {P : Program} {fn : Func} {R : Ending → World → Prop} {tmps : Array Value} {W : World} {D : Nat} {args : Array Value} (hK : W.heap[D]? = some (.deferred (some []))) (v : Value)
    (hv : (results fn tmps).run P (W.putObj D (.deferred none)) = .ok v (W.putObj D (.deferred none))) (h : R (.returned v) (W.putObj D (.deferred none))) :
    bodyPostM Fence.wide 0 P fn R .ret { tmps := tmps, defers := [{ target := .collected D, args := args }] } W := by
  refine ⟨by simp, .inl ⟨_, _, rfl, run_takeDeferred hK, ?_⟩⟩
  exact ⟨v, hv, h⟩

theorem below_putObj {w W : World} {D B : Nat} {o : Obj} (h : Below B w W) (hD : B ≤ D) : Below B w (W.putObj D o) :=
  h.trans ⟨rfl, rfl, rfl, by simp, fun k hk => World.putObj_heap_other (by omega)⟩
end Go.Proofs.Ytckmjpnkjnihlaa
