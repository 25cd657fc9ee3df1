/-
  A range over a function, over an iterator that keeps a state of its own in memory: what it yields, how the world goes from one yield to the next, what it asks of a round; the last round may turn all that the iterator had.
-/
import Derived.Test.YtlkafakanoefmaaDoorZ00
import Derived.Test.YtlkafakanoefmaaDoorZ05
import Derived.RangeFuncCalls
namespace Go.Proofs.YtlkafakanoefmaaDoor
open Go.RowKit
set_option linter.unusedVariables false
set_option maxRecDepth 100000

/-- What an iterator does, whatever loop calls it: in the state s it may yield what Y tells; it goes from state to state as step tells; it leans on the blocks K; behind a yield that is not 'more' no round may say 'go on'; it ends where Fin holds, or when a round said 'no more'. It asks St of the world in which it begins. -/
def SeqW {σ α : Type} (P : Program) (gf : Nat) (lb : Array Value) (enc : α → Array Value) (K : σ → Nat → Prop) (Y : σ → World → α → Prop) (step : σ → World → σ → World → Prop) (next : σ → α → σ) (more : α → Prop) (Fin : σ → World → Prop) (St : World → Prop) (s0 : σ) : Prop :=
  ∀ (l : Nat) (J : σ → World → Prop) (Jx : World → Prop) (W : World),
    (∀ s A s' B, J s A → step s A s' B → J s' B) →
    (∀ s A x, J s A → Y s A x → YieldAt Fence.wide 0 P l (enc x) A fun e B =>
      (e = .returned (.bool true) ∧ more x ∧ J (next s x) B ∧ A.heap.size ≤ B.heap.size ∧ ∀ b, K s b → B.heap[b]? = A.heap[b]?) ∨ (e = .returned (.bool false) ∧ Jx B)) →
    St W → J s0 W →
    CallsIn Fence.wide 0 P gf (#[.func (.yield l) #[] #[]] ++ lb) W fun e B => (∃ v, e = .returned v) ∧ ((∃ s, J s B ∧ Fin s B) ∨ Jx B)

/-- How a round's body may be left. -/
def roundW (D : Nat) (more : Prop) (K : Nat → Prop) (I : World → Prop) (Ix : Code → World → Prop) (W : World) : Exit → Act → World → Prop
  | .normal, _, W' => more ∧ (∀ b, K b ∨ b = D ∨ b = D + 1 → W'.heap[b]? = W.heap[b]?) ∧ W.heap.size ≤ W'.heap.size ∧ I W'
  | .ret, _, W' => (∀ b, b = D ∨ b = D + 1 → W'.heap[b]? = W.heap[b]?) ∧ Ix .ret W'
  | .exit id, _, W' => (∀ b, b = D ∨ b = D + 1 → W'.heap[b]? = W.heap[b]?) ∧ Ix (.exit id) W'
  | .goto t, _, W' => (∀ b, b = D ∨ b = D + 1 → W'.heap[b]? = W.heap[b]?) ∧ Ix (.goto t) W'
  | .panic _, _, _ => False
  | .outgrown, _, _ => False

theorem wp_rangeFunc_W {σ α : Type} {enc : α → Array Value} {P : Program} {gf : Nat} {lb : Array Value} {K : σ → Nat → Prop} {Y : σ → World → α → Prop} {step : σ → World → σ → World → Prop} {next : σ → α → σ} {more : α → Prop} {Fin : σ → World → Prop} {St : World → Prop} {s0 : σ}
    {g : Operand} {ps : Array Tmp} {assign body : Code} {Q : Exit → Act → World → Prop} {a : Act} {w : World} {D : Nat} (hD : w.heap.size = D)
    (hg : a.eval g = .func (.func gf) #[] lb) (eg : ∀ args w, (callFunc gf args).run P w = .ok (.enter gf args) w)
    (hseq : SeqW P gf lb enc K Y step next more Fin St s0) (hSt : ∀ B, Below w.heap.size w B → D + 2 ≤ B.heap.size → St B)
    (hps : ∀ y, (enc y).size = ps.size)
    (I : σ → World → Prop) (Ix : Code → World → Prop)
    (hK : ∀ s A b, I s A → D + 2 ≤ A.heap.size → K s b → b < A.heap.size ∧ b ≠ D ∧ b ≠ D + 1)
    (hstep : ∀ s A s' B, I s A → D + 2 ≤ A.heap.size → step s A s' B → I s' B ∧ A.heap.size ≤ B.heap.size ∧ ∀ b, b = D ∨ b = D + 1 → B.heap[b]? = A.heap[b]?)
    (hput : ∀ s A o, I s A → D + 2 ≤ A.heap.size → I s (A.putObj (D + 1) o))
    (hputx : ∀ c A o, Ix c A → Ix c (A.putObj (D + 1) o))
    (h0 : ∀ B, Below w.heap.size w B → D + 2 ≤ B.heap.size → I s0 B) (a₁ : α → World → Act)
    (hassign : ∀ (l : Nat) (s : σ) (x : α) (W : World) (K : Act → World → Prop), Y s W x → K (a₁ x W) W →
      assign.wpIn (Fence.wide.inRound l) 0 P (Exit.then K (fun _ _ _ => False)) { tmps := (ps.zip (enc x)).foldl (fun t (p, v) => t.setIfInBounds p v) a.tmps, defers := [] } W)
    (hbody : ∀ (l : Nat) (s : σ) (x : α) (W V : World) (o : Obj), Y s W x → I s W → D + 2 ≤ W.heap.size → V = W.putObj (D + 1) o → I s V → body.wpIn (Fence.wide.inRound l) 0 P (roundW D (more x) (K s) (I (next s x)) Ix V) (a₁ x W) V)
    (hdone : ∀ s W V o, I s W → Fin s W → D + 2 ≤ W.heap.size → V = W.putObj (D + 1) o → I s V → V.heap[D]? = some (.deferred (some [])) → Q .normal { a with defers := { target := .collected D, args := #[] } :: a.defers } V)
    (hstop : ∀ c W, Ix c W → W.heap[D]? = some (.deferred (some [])) → c.wp P Q { a with defers := { target := .collected D, args := #[] } :: a.defers } W) :
    (Code.rangeFunc g ps assign body).wp P Q a w := by
  subst hD
  refine (wpIn_wide (n := 0)).1 (wpIn_rangeFunc ?_)
  intro fn hfn
  obtain ⟨rec, hrec⟩ : ∃ rec : LoopState → Option Code → Loop, rec = fun st pe => { state := st, pending := pe, fn, tmps := a.tmps, params := ps, assign, body, defers := w.heap.size } := ⟨_, rfl⟩
  obtain ⟨W1, hW1⟩ : ∃ W1, (w.alloc (.deferred (some []))).alloc (.loop (rec .ready none)) = W1 := ⟨_, rfl⟩
  have hs1 : W1.heap.size = w.heap.size + 2 := by rw [← hW1]; simp
  have hL1 : W1.heap[w.heap.size + 1]? = some (.loop (rec .ready none)) := by
    rw [← hW1]; have := World.alloc_heap_new (w.alloc (.deferred (some []))) (.loop (rec .ready none)); rwa [World.size_alloc] at this
  have hK1 : W1.heap[w.heap.size]? = some (.deferred (some [])) := by
    rw [← hW1]; exact (Below.heap_alloc _ _ _ (by simp)).trans (World.alloc_heap_new w _)
  have hB1 : Below w.heap.size w W1 := by rw [← hW1]; exact ((Below.refl _ w).alloc (Nat.le_refl _) _).alloc (by simp) _
  refine ⟨w.heap.size + 1, [{ target := .collected w.heap.size, args := #[] }], W1, { target := .fn (.func gf) lb, args := #[.func (.yield (w.heap.size + 1)) #[] #[]] }, W1, gf,
    #[.func (.yield (w.heap.size + 1)) #[] #[]] ++ lb, W1, ?_, ?_, ?_, ?_, (fun h => by simp [Fence.wide] at h), ?_⟩
  · rw [← hW1, hrec]; exact run_enterLoop_outer _ _ _ _ _
  · simp only [resolve, hg]
    simp [go_sem]
  · intro f' _; trivial
  · simp [invoke, go_sem, eg]
  · refine (hseq (w.heap.size + 1)
      (fun s W => I s W ∧ w.heap.size + 2 ≤ W.heap.size ∧ W.heap[w.heap.size + 1]? = some (.loop (rec .ready none)) ∧ W.heap[w.heap.size]? = some (.deferred (some [])))
      (fun W => ∃ c, Ix c W ∧ W.heap[w.heap.size + 1]? = some (.loop (rec .done (some c))) ∧ W.heap[w.heap.size]? = some (.deferred (some [])))
      W1
      (fun s A s' B hs hab => by
        obtain ⟨h1, h2, h3, h4⟩ := hs
        obtain ⟨g1, g2, g3⟩ := hstep s A s' B h1 h2 hab
        exact ⟨g1, Nat.le_trans h2 g2, (g3 _ (.inr rfl)).trans h3, (g3 _ (.inl rfl)).trans h4⟩)
      ?_ (hSt _ hB1 (by omega)) ⟨h0 _ hB1 (by omega), by omega, hL1, hK1⟩).mono ?_
    · -- one round
      rintro s W x ⟨hi, hsz, hl, hk⟩ hx
      have hlt : w.heap.size + 1 < W.heap.size := by omega
      have hy := run_yield (P := P) (args := enc x) hl (by rw [hrec]; simp [hps x])
      rw [hrec] at hy
      refine ⟨fn, _, assign, body, hy, roundIn_of_wpIn hfn (hassign _ s x W _ hx ?_)⟩
      refine ⟨_, run_beginRound hl (by rw [hrec]), ?_⟩
      obtain ⟨W2, hW2⟩ : ∃ W2, W.putObj (w.heap.size + 1) (.loop { rec .ready none with state := .busy }) = W2 := ⟨_, rfl⟩
      have hs2 : W2.heap.size = W.heap.size := by rw [← hW2]; simp
      have hl2 : W2.heap[w.heap.size + 1]? = some (.loop { rec .ready none with state := .busy }) := by rw [← hW2]; exact World.putObj_heap_same (by omega)
      have hk2 : W2.heap[w.heap.size]? = some (.deferred (some [])) := by rw [← hW2]; exact (World.putObj_heap_other (by omega)).trans hk
      have hi2 : I s W2 := by rw [← hW2]; exact hput s _ _ hi hsz
      have hKs := fun b hb => hK s W b hi hsz hb
      have hK2 : ∀ b, K s b → W2.heap[b]? = W.heap[b]? := fun b hb => by rw [← hW2]; exact World.putObj_heap_other (by have := hKs b hb; omega)
      rw [show W.putObj (w.heap.size + 1) (.loop { rec .ready none with state := .busy }) = W2 from hW2]
      refine wpIn_mono (hbody _ s x W W2 _ hx hi hsz hW2.symm hi2) ?_
      have fin : ∀ (jump : Option Code) (W3 : World), (∀ b, b = w.heap.size ∨ b = w.heap.size + 1 → W3.heap[b]? = W2.heap[b]?) →
          (Instr.endRound (w.heap.size + 1) jump).run P W3 = .ok (.bool jump.isNone) (W3.putObj (w.heap.size + 1) (.loop (rec (if jump.isNone then .ready else .done) jump))) ∧
          (W3.putObj (w.heap.size + 1) (.loop (rec (if jump.isNone then .ready else .done) jump))).heap[w.heap.size + 1]? = some (.loop (rec (if jump.isNone then .ready else .done) jump)) ∧
          (W3.putObj (w.heap.size + 1) (.loop (rec (if jump.isNone then .ready else .done) jump))).heap[w.heap.size]? = some (.deferred (some [])) := fun jump W3 h3 => by
        have hl3 := (h3 _ (.inr rfl)).trans hl2
        have hk3 := (h3 _ (.inl rfl)).trans hk2
        have := run_endRound (P := P) jump hl3
        rw [hrec] at this ⊢
        exact ⟨this, World.putObj_heap_same (Array.getElem?_eq_some_iff.1 hl3).1, (World.putObj_heap_other (by omega)).trans hk3⟩
      rintro e a3 W3 hp
      cases e with
      | normal =>
        obtain ⟨hmo, ha3, hs3, hi3⟩ := hp
        obtain ⟨hr, hl4, hk4⟩ := fin none W3 fun b hb => ha3 b (by omega)
        refine ⟨_, _, hr, .inl ⟨rfl, hmo, ⟨hput _ _ _ hi3 (by omega), by simp; omega, hl4, hk4⟩, by simp; omega, fun b hb => ?_⟩⟩
        have hb1 := hKs b hb
        exact (World.putObj_heap_other (by omega)).trans ((ha3 b (.inl hb)).trans (hK2 b hb))
      | ret =>
        obtain ⟨ha3, hi3⟩ := hp
        obtain ⟨hr, hl4, hk4⟩ := fin (some .ret) W3 ha3
        exact ⟨_, _, hr, .inr ⟨rfl, .ret, hputx _ _ _ hi3, hl4, hk4⟩⟩
      | exit id =>
        obtain ⟨ha3, hi3⟩ := hp
        obtain ⟨hr, hl4, hk4⟩ := fin (some (.exit id)) W3 ha3
        exact ⟨_, _, hr, .inr ⟨rfl, .exit id, hputx _ _ _ hi3, hl4, hk4⟩⟩
      | goto t =>
        obtain ⟨ha3, hi3⟩ := hp
        obtain ⟨hr, hl4, hk4⟩ := fin (some (.goto t)) W3 ha3
        exact ⟨_, _, hr, .inr ⟨rfl, .goto t, hputx _ _ _ hi3, hl4, hk4⟩⟩
      | panic ch => exact hp.elim
      | outgrown => exact hp.elim
    · -- behind the iterator
      rintro e W2 ⟨⟨v, rfl⟩, ⟨s, ⟨hi, hsz, hl, hk⟩, hf⟩ | ⟨c, hi, hl, hk⟩⟩
      · refine ⟨none, _, ?_, hdone s W2 _ (.loop { rec .ready none with state := .exhausted }) hi hf hsz rfl (hput _ _ _ hi hsz) ((World.putObj_heap_other (by omega)).trans hk)⟩
        have := run_endLoop (P := P) hl (by rw [hrec]; simp)
        rw [hrec] at this ⊢; exact this
      · refine ⟨some c, _, ?_, (wpIn_wide (n := 0)).2 (hstop c _ (hputx _ _ (.loop { rec .done (some c) with state := .exhausted }) hi) ((World.putObj_heap_other (by omega)).trans hk))⟩
        have := run_endLoop (P := P) hl (by rw [hrec]; simp)
        rw [hrec] at this ⊢; exact this
end Go.Proofs.YtlkafakanoefmaaDoor

/-
  The landed reader: the iterator over the messages of a piece: what it does, plainly and in memory.
-/
namespace Go.Proofs.YtlkafakanoefmaaDoor
open Go.RowKit Go.Shelf
set_option linter.unusedVariables false
set_option linter.unusedSimpArgs false
set_option maxRecDepth 100000

/-- What is kept and tells nothing more. -/
theorem runF_still {M : Nat} {l : List UInt8} (h : runF M l = ([], l, 0)) : l.length < 2 ∨ (12 ≤ hd2 l ∧ hd2 l ≤ M ∧ l.length < 2 + hd2 l) := by
  by_cases h0 : l.length < 2
  · exact .inl h0
  by_cases h1 : hd2 l < 12
  · rw [runF_low M l h0 h1] at h; simp at h
  by_cases h2 : M < hd2 l
  · rw [runF_high M l h0 h1 h2] at h; simp at h
  by_cases h3 : l.length < 2 + hd2 l
  · exact .inr ⟨by omega, by omega, h3⟩
  · rw [runF_more M l h0 h1 h2 h3] at h; simp at h

/-- One step: what is taken of a piece. -/
theorem it_step {M : Nat} {l rest : List UInt8} (h : runF M l = ([], l, 0)) (hr : 0 < rest.length) :
    1 ≤ min rest.length (needF l) ∧ ((l ++ rest.take (min rest.length (needF l))).length < 2 → rest.drop (min rest.length (needF l)) = []) ∧
    (2 ≤ (l ++ rest.take (min rest.length (needF l))).length → (l ++ rest.take (min rest.length (needF l))).length ≤ 2 + hd2 (l ++ rest.take (min rest.length (needF l)))) := by
  have hs := runF_still h
  obtain ⟨n, hn⟩ : ∃ n, min rest.length (needF l) = n := ⟨_, rfl⟩
  rw [hn]
  have hnr : n ≤ rest.length := by omega
  have hl1 : (l ++ rest.take n).length = l.length + n := by rw [List.length_append, List.length_take]; omega
  rw [hl1]
  unfold needF at hn
  by_cases h2 : l.length < 2
  · rw [if_pos h2] at hn
    refine ⟨by omega, fun h3 => List.drop_eq_nil_of_le (by omega), fun h3 => by omega⟩
  · rw [if_neg h2] at hn
    have hd := hd2_app l (rest.take n) (by omega)
    rw [hd]
    refine ⟨by omega, fun h3 => by omega, fun h3 => by omega⟩

section
variable (D0 r Br Bb k M : Nat) (L : List UInt8) (T : Nat)
abbrev FSt := List (List UInt8) × Option Nat
abbrev FYl := Value × List UInt8 × Int
def encF (x : FYl) : Array Value := #[x.1, .int .i64 x.2.2]
def KF (s : FSt) (b : Nat) : Prop := b = r ∨ b = Br ∨ b = Bb ∨ b = k ∨ s.2 = some b
def YF (s : FSt) (A : World) (x : FYl) : Prop :=
  (x.2.2 = 0 ∧ OwnB A D0 x.1 x.2.1 ∧ (∀ b, x.1.ownBlock = some b → ¬ KF r Br Bb k s b) ∧ 14 * (s.1.length + 1) ≤ L.length ∧ x.2.1.length ≤ 65535 ∧ ∃ l t, t ≤ T ∧ Rr A s.2 r t M l false) ∨
  (x.2.2 ≠ 0 ∧ x.1 = .slice none 0 0 ∧ runF M L = (s.1, [], x.2.2) ∧ ∃ l t, t ≤ T ∧ Rr A s.2 r t M l false)
def stepF (s : FSt) (A : World) (s' : FSt) (B : World) : Prop :=
  s'.1 = s.1 ∧ Aside (fun j => j = r ∨ j = Bb ∨ s.2 = some j) A B ∧ (s'.2 = s.2 ∨ ∃ g, s'.2 = some g ∧ A.heap.size ≤ g ∧ g < B.heap.size)
def nextF (s : FSt) (x : FYl) : FSt := (s.1 ++ [x.2.1], s.2)
def moreF (x : FYl) : Prop := x.2.2 = 0
def FinF (s : FSt) (B : World) : Prop := ∃ l, runF M L = (s.1, l, 0) ∧ ∃ t, t ≤ T ∧ Rr B s.2 r t M l false
end

/-- How the iterator stands. -/
structure ItSt (w : World) (r Br Bb k M T t : Nat) (o : Option Nat) (v : Value) (l rest : List UInt8) : Prop where
  rd : w.cell? ⟨Br, 0, none⟩ = some (.pointer (some ⟨r, 0, none⟩))
  bx : w.cell? ⟨Bb, 0, none⟩ = some v
  fz : w.frozen? ⟨Bb, 0, none⟩ = false
  sl : Sl w k (k + 1) v (iz rest)
  rr : Rr w o r t M l false
  sum : t + rest.length ≤ T
  hk : k < w.heap.size
  ne : r ≠ Br ∧ r ≠ Bb ∧ r ≠ k ∧ Br ≠ Bb ∧ Br ≠ k ∧ Bb ≠ k
  off : o ≠ some Br ∧ o ≠ some Bb ∧ o ≠ some k

section
variable {w w' : World} {r Br Bb k M T t : Nat} {o : Option Nat} {v : Value} {l rest : List UInt8}
theorem ItSt.keep (h : ItSt w r Br Bb k M T t o v l rest) (hs : w.heap.size ≤ w'.heap.size) (hb : ∀ b, KF r Br Bb k ([], o) b → w'.heap[b]? = w.heap[b]?) : ItSt w' r Br Bb k M T t o v l rest := by
  have h1 : Aside (fun j => ¬ KF r Br Bb k ([], o) j) w { w' with os := w.os, tape := w.tape, output := w.output } := ⟨rfl, rfl, rfl, hs, fun b _ hg => hb b (Classical.not_not.mp hg)⟩
  have hlt1 : Br < w.heap.size := World.block_lt_of_cell? w _ h.rd
  have hlt2 : Bb < w.heap.size := World.block_lt_of_cell? w _ h.bx
  refine ⟨(World.cell?_of_block (hb Br (by simp [KF]))).trans h.rd, (World.cell?_of_block (hb Bb (by simp [KF]))).trans h.bx, (World.frozen?_of_block (hb Bb (by simp [KF]))).trans h.fz, ?_, ?_, h.sum, Nat.lt_of_lt_of_le h.hk hs, h.ne, h.off⟩
  · exact h.sl.keep fun b o hb1 hb2 => by
      obtain rfl : b = k := by omega
      exact World.cell?_of_block (hb b (by simp [KF]))
  · have h2 := h.rr.aside h1 (by simp [KF]) (fun g hg => by simp [KF, hg])
    obtain ⟨cs, g0, g1, g5, a, n, c, off, lr, zs, hC, hR, hx⟩ := h2
    exact ⟨cs, g0, g1, g5, a, n, c, off, lr, zs, hC, hR, hx⟩
theorem ItSt.drewN (h : ItSt w r Br Bb k M T t o v l rest) (n : Nat) : ItSt (w.drewN n) r Br Bb k M T t o v l rest := h.keep (Nat.le_refl _) fun _ _ => rfl

/-- Behind take, and the store of what it left. -/
theorem ItSt.took {n : Nat} {o1 : Option Nat} {v1 v2 : Value} {l1 rest1 : List UInt8} {w1 : World} (h : ItSt w r Br Bb k M T t o v l rest) (hs : Sl w1 k (k + 1) v1 (iz rest1)) (hr : Rr w1 o1 r (t + n) M l1 false) (ho : o1 = o ∨ ∃ g, o1 = some g ∧ w.heap.size ≤ g) (ha : Aside (fun j => j = r ∨ o = some j) w w1) (hn : n + rest1.length ≤ rest.length) (hv : v1 = v2) (ls : List (List UInt8)) :
    w1.cell? ⟨Br, 0, none⟩ = some (.pointer (some ⟨r, 0, none⟩)) ∧ w1.cell? ⟨Bb, 0, none⟩ = some v ∧ w1.frozen? ⟨Bb, 0, none⟩ = false ∧
    ItSt (w1.setCell ⟨Bb, 0, none⟩ v2) r Br Bb k M T (t + n) o1 v2 l1 rest1 ∧ stepF r Bb (ls, o) w (ls, o1) (w1.setCell ⟨Bb, 0, none⟩ v2) := by
  subst hv
  have hlt1 : Br < w.heap.size := World.block_lt_of_cell? w _ h.rd
  have hlt2 : Bb < w.heap.size := World.block_lt_of_cell? w _ h.bx
  have hlt3 := h.hk
  obtain ⟨n1, n2, n3, n4, n5, n6⟩ := h.ne
  obtain ⟨f1, f2, f3⟩ := h.off
  have g1 : ¬ (Br = r ∨ o = some Br) := fun e => by rcases e with e | e; exact n1 e.symm; exact f1 e
  have g2 : ¬ (Bb = r ∨ o = some Bb) := fun e => by rcases e with e | e; exact n2 e.symm; exact f2 e
  have q1 := (ha.cell (p := ⟨Br, 0, none⟩) hlt1 g1).trans h.rd
  have q2 := (ha.cell (p := ⟨Bb, 0, none⟩) hlt2 g2).trans h.bx
  have q3 := (ha.frozen (p := ⟨Bb, 0, none⟩) hlt2 g2).trans h.fz
  have hb1 : ∀ g, o1 = some g → g ≠ Bb ∧ g ≠ Br ∧ g ≠ k := fun g hg => by
    rcases ho with e | ⟨g', e, hg'⟩
    · rw [e] at hg
      exact ⟨fun e => f2 (e ▸ hg), fun e => f1 (e ▸ hg), fun e => f3 (e ▸ hg)⟩
    · rw [e] at hg; injection hg with hg; subst hg
      exact ⟨by omega, by omega, by omega⟩
  have hset : Aside (fun j => j = Bb) w1 (w1.setCell ⟨Bb, 0, none⟩ v1) := Aside.setCell _ _ rfl
  refine ⟨q1, q2, q3, ⟨(hset.cell_lt q1 (by simpa using n4)), World.cell?_setCell_same _ _ _ q2, by rw [World.frozen?_setCell]; exact q3, ?_, hr.aside hset (by simpa using n2) fun g hg => (hb1 g hg).1, ?_, ?_, h.ne, ?_⟩, rfl, ?_, ?_⟩
  · exact sl_apart hs hset (Nat.lt_of_lt_of_le hlt3 ha.size) (by simpa using fun e => n6 e.symm)
  · have := h.sum; omega
  · have := ha.size; have := hset.size; omega
  · exact ⟨fun e => (hb1 _ e).2.1 rfl, fun e => (hb1 _ e).1 rfl, fun e => (hb1 _ e).2.2 rfl⟩
  · exact (ha.mono fun j _ hj => by rcases hj with e | e; exact .inl e; exact .inr (.inr e)).trans (hset.mono fun j _ hj => .inr (.inl hj))
  · rcases ho with e | ⟨g, e, hg⟩
    · exact .inl e
    · refine .inr ⟨g, e, hg, ?_⟩
      obtain ⟨cs, _, _, _, hB⟩ := hr
      exact Nat.lt_of_lt_of_le (hB.row g e).2 hset.size

/-- Behind cut. -/
theorem ItSt.cutt {w1 : World} {l1 : List UInt8} (h : ItSt w r Br Bb k M T t o v l rest) (hr : Rr w1 o r t M l1 false) (ha : Aside (fun j => j = r) w w1) (ls : List (List UInt8)) :
    ItSt w1 r Br Bb k M T t o v l1 rest ∧ stepF r Bb (ls, o) w (ls, o) w1 := by
  have hlt1 : Br < w.heap.size := World.block_lt_of_cell? w _ h.rd
  have hlt2 : Bb < w.heap.size := World.block_lt_of_cell? w _ h.bx
  obtain ⟨n1, n2, n3, n4, n5, n6⟩ := h.ne
  refine ⟨⟨(ha.cell (p := ⟨Br, 0, none⟩) hlt1 (by simpa using fun e => n1 e.symm)).trans h.rd, (ha.cell (p := ⟨Bb, 0, none⟩) hlt2 (by simpa using fun e => n2 e.symm)).trans h.bx, (ha.frozen (p := ⟨Bb, 0, none⟩) hlt2 (by simpa using fun e => n2 e.symm)).trans h.fz, sl_apart h.sl ha h.hk (by simpa using fun e => n3 e.symm), hr, h.sum, Nat.lt_of_lt_of_le h.hk ha.size, h.ne, h.off⟩, rfl, ha.mono fun j _ hj => .inl hj, .inl rfl⟩

theorem step_drewN (s : FSt) (w : World) (n : Nat) : stepF r Bb s w s (w.drewN n) := ⟨rfl, Aside.drewN _ _, .inl rfl⟩
end
end Go.Proofs.YtlkafakanoefmaaDoor

/-
  The landed reader: the iterator over the messages of a piece: the walk.
-/
namespace Go.Proofs.YtlkafakanoefmaaDoor
open Go.RowKit Go.Shelf
set_option linter.unusedVariables false
set_option linter.unusedSimpArgs false
set_option maxRecDepth 100000

def lenCell (w : World) (b : Nat) : Nat := match w.cell? ⟨b, 0, none⟩ with | some (.slice _ n _) => n | _ => 0

set_option maxHeartbeats 4000000 in
theorem iter_any (D0 r Br Bb k M T t0 : Nat) (o0 : Option Nat) (l0 p L : List UInt8) (hl0 : runF M l0 = ([], l0, 0)) (hL : l0 ++ p = L) (hM1 : 12 ≤ M) (hM2 : M ≤ 65535) (hT : T ≤ 100000000) :
    SeqW Tryd.prog 36 #[.pointer (some ⟨Bb, 0, none⟩), .pointer (some ⟨Br, 0, none⟩)] encF (KF r Br Bb k) (YF D0 r Br Bb k M L T) (stepF r Bb) nextF moreF (FinF r M L T) (fun W => (∃ v, ItSt W r Br Bb k M T t0 o0 v l0 p) ∧ D0 ≤ W.heap.size) ([], o0) := by
  intro ll J Jx W hJ hY hSt h0
  show CallsIn _ _ _ _ #[.func (.yield ll) #[] #[], .pointer (some ⟨Bb, 0, none⟩), .pointer (some ⟨Br, 0, none⟩)] _ _
  obtain ⟨⟨v0, hSt⟩, hD0⟩ := hSt
  have HY := Lib.hid hY
  have HJA := Lib.hid hJ
  have HSt := Lib.hid hSt
  have HL0 := Lib.hid (And.intro hl0 hL)
  clear hY hJ hSt hl0 hL
  refine callsIn_of_wp Tryd.func36 rfl trivial ?_
  simp only [Tryd.ntmps36, List.size_toArray, List.length_cons, List.length_nil, Nat.reduceAdd, Nat.reduceSub, Array.replicate_succ,
     Array.replicate_zero, List.push_toArray, List.append_toArray, List.nil_append, List.cons_append]
  gi_wp2
  gi_loopw [4, 5, 6] (fun _ _ _ wr => ∃ (ls : List (List UInt8)) (o : Option Nat) (t : Nat) (v : Value) (l rest : List UInt8), Hid (ItSt wr r Br Bb k M T t o v l rest) ∧ Hid (J (ls, o) wr) ∧ Hid (runF M l = ([], l, 0) ∧ runF M L = (ls ++ (runF M (l ++ rest)).1, (runF M (l ++ rest)).2)) ∧ D0 ≤ wr.heap.size) (fun _ _ _ wr => lenCell wr Bb)
  case atStart => exact ⟨[], o0, t0, v0, l0, p, HSt, h0, ⟨HL0.out.1, by rw [HL0.out.2, List.nil_append]⟩, hD0⟩
  case round =>
    obtain ⟨ls, o, t, v, l, rest, HI, HJ, HR, hD⟩ := hrel
    obtain ⟨a, c, hv⟩ : ∃ a c, v = .slice a rest.length c := by
      obtain ⟨a, c, hv, _⟩ := id HI.out.sl
      rw [iz_len] at hv
      exact ⟨a, c, hv⟩
    subst hv
    have hbx := HI.out.bx
    have hmeas : lenCell wr Bb = rest.length := by unfold lenCell; rw [hbx]
    rw [hmeas]
    clear hmeas
    have hrd := HI.out.rd
    have hfz := HI.out.fz
    by_cases hr0 : rest.length = 0
    · have t1 : ¬ (0 : Int) < (rest.length : Int) := by omega
      have HF := Lib.hid (show FinF r M L T (ls, o) wr from ⟨l, by rw [HR.out.2, List.eq_nil_of_length_eq_zero hr0, List.append_nil, HR.out.1, List.append_nil], t, by have := HI.out.sum; omega, HI.out.rr⟩)
      clear hr0
      gi_wp2_with fail
      go_end0
      exact ⟨⟨_, rfl⟩, .inl ⟨ls, o, HJ.out, HF.out⟩⟩
    · have t1 : (0 : Int) < (rest.length : Int) := by omega
      obtain ⟨hn1, hpart, hwhole⟩ := it_step HR.out.1 (show 0 < rest.length by omega)
      have hstill := runF_still HR.out.1
      have hll : l.length ≤ 70000 := by have := hd2_lt l; omega
      have HT := Lib.hid (take_any (v := .slice a rest.length c) HI.out.rr HI.out.sl HI.out.hk HI.out.ne.2.2.1.symm HI.out.off.2.2 (by omega) (by have := HI.out.sum; omega) (by omega))
      unfold TakePost at HT
      obtain ⟨n, hn⟩ : ∃ n, min rest.length (needF l) = n := ⟨_, rfl⟩
      rw [hn] at hn1 hpart hwhole HT
      obtain ⟨l1, hl1⟩ : ∃ l1, l ++ rest.take n = l1 := ⟨_, rfl⟩
      obtain ⟨rest1, hr1⟩ : ∃ r1, rest.drop n = r1 := ⟨_, rfl⟩
      have hcat : l ++ rest = l1 ++ rest1 := by rw [← hl1, ← hr1, List.append_assoc, List.take_append_drop]
      have hnr : n ≤ rest.length := by omega
      have hr1l : n + rest1.length = rest.length := by rw [← hr1, List.length_drop]; omega
      have hl1l : l1.length ≤ 140000 := by
        rw [← hl1, List.length_append, List.length_take]
        have : needF l ≤ 66000 := by unfold needF; have := hd2_lt l; split <;> omega
        omega
      rw [hl1, hr1] at HT
      rw [hl1] at hwhole hpart
      rw [hr1] at hpart
      have HRL := Lib.hid (show runF M L = (ls ++ (runF M (l1 ++ rest1)).1, (runF M (l1 ++ rest1)).2) by rw [← hcat]; exact HR.out.2)
      have HPT := Lib.hid hpart
      have HWH := Lib.hid hwhole
      clear hr0 hpart hwhole hstill hn hl1 hr1 hcat
      gi_wp2_with fail
      refine ⟨trivial, rfl, (callsIn_wide.2 HT.out).mono ?_⟩
      rintro e1 w1 ⟨v1, rfl, hs1, o1, hrr1, ho1, hA1⟩
      obtain ⟨a1, c1, hv1⟩ : ∃ a1 c1, v1 = .slice a1 rest1.length c1 := by
        obtain ⟨a1, c1, hv1, _⟩ := id hs1
        rw [iz_len] at hv1
        exact ⟨a1, c1, hv1⟩
      subst hv1
      obtain ⟨q1, q2, q3, hI2, hS2⟩ := HI.out.took (n := n) hs1 hrr1 ho1 hA1 (by omega) rfl ls
      have HJ2 := Lib.hid (HJA.out _ _ _ _ HJ.out hS2)
      have HI2 := Lib.hid hI2
      have HD2 := Lib.hid (show D0 ≤ (w1.setCell ⟨Bb, 0, none⟩ (.slice a1 rest1.length c1)).heap.size from Nat.le_trans hD hS2.2.1.size)
      clear hs1 hrr1 ho1 hA1 hI2 hS2 hD
      have HLN := Lib.hid (length_rr HI2.out.rr)
      have q4 := HI2.out.rd
      gi_wp2_with fail
      obtain ⟨w2, hw2⟩ : ∃ W, w1.setCell ⟨Bb, 0, none⟩ (.slice a1 rest1.length c1) = W := ⟨_, rfl⟩
      rw [hw2] at HJ2 HI2 HD2 HLN ⊢
      clear hw2 q1 q2 q3 q4 w1
      have hrd2 := HI2.out.rd
      have hmo2 := HI2.out.rr.most
      by_cases hs2 : l1.length < 2
      · have e1 : sizeF l1 = 0 := if_pos hs2
        have e2 : decide (2 ≤ l1.length) = false := decide_eq_false (by omega)
        have HF := Lib.hid (show FinF r M L T (ls, o1) w2 from ⟨l1, by rw [HRL.out, HPT.out hs2, List.append_nil, runF_part M l1 hs2, List.append_nil], t + n, by have := HI2.out.sum; omega, HI2.out.rr⟩)
        rw [e1, e2] at HLN
        clear e1 e2 hs2
        refine ⟨trivial, rfl, (callsIn_wide.2 HLN.out).mono ?_⟩
        rintro e1 w3 ⟨rfl, m, rfl⟩
        gi_wp2_with fail
        refine bodyPost_ret (results_none rfl _ _ _) rfl ?_
        exact ⟨⟨_, rfl⟩, .inl ⟨(ls, o1), HJA.out _ _ _ _ HJ2.out (step_drewN _ _ m), by
          obtain ⟨l', h1, t', h2, h3⟩ := HF.out
          exact ⟨l', h1, t', h2, h3.drewN m⟩⟩⟩
      · have e1 : sizeF l1 = (hd2 l1 : Int) := if_neg hs2
        have e2 : decide (2 ≤ l1.length) = true := decide_eq_true (by omega)
        rw [e1, e2] at HLN
        have hz := hd2_lt l1
        have hw1 := HWH.out (by omega)
        have hwant : wantF l1 = (2 : Int) + (hd2 l1 : Int) - (l1.length : Int) := by unfold wantF; rw [if_neg hs2]; omega
        have hcl : hd2 (l1 ++ rest1) = hd2 l1 := hd2_app l1 rest1 (by omega)
        have hcl2 : ¬ (l1 ++ rest1).length < 2 := by rw [List.length_append]; omega
        have HE := Lib.hid (show ∀ E : Int, (E = 4 ∧ hd2 l1 < 12) ∨ (E = 3 ∧ 12 ≤ hd2 l1 ∧ M < hd2 l1) → runF M L = (ls, [], E) from fun E hE => by
          rw [HRL.out]
          rcases hE with ⟨rfl, h⟩ | ⟨rfl, h, h'⟩
          · rw [runF_low M _ hcl2 (by rw [hcl]; exact h), List.append_nil]
          · rw [runF_high M _ hcl2 (by rw [hcl]; omega) (by rw [hcl]; exact h'), List.append_nil])
        clear e1 e2
        refine ⟨trivial, rfl, (callsIn_wide.2 HLN.out).mono ?_⟩
        rintro e1 w3 ⟨rfl, m, rfl⟩
        have HI3 := Lib.hid (HI2.out.drewN m)
        have HJ3 := Lib.hid (HJA.out _ _ _ _ HJ2.out (step_drewN (r := r) (Bb := Bb) (ls, o1) w2 m))
        have HD3 := Lib.hid (show D0 ≤ (w2.drewN m).heap.size from HD2.out)
        have HFT := Lib.hid (fits_any (w2.drewN m) (hd2 l1) M)
        obtain ⟨w3, hw3⟩ : ∃ W, w2.drewN m = W := ⟨_, rfl⟩
        rw [hw3] at HI3 HJ3 HD3 HFT ⊢
        have hrd3 := HI3.out.rd
        have hmo3 := HI3.out.rr.most
        clear hw3 hrd2 hmo2 HI2 HJ2 HD2 HLN
        obtain ⟨z, hzz⟩ : ∃ z, hd2 l1 = z := ⟨_, rfl⟩
        rw [hzz] at hz hw1 hwant hcl HE HFT ⊢
        gi_wp2_with fail
        refine ⟨trivial, rfl, (callsIn_wide.2 HFT.out).mono ?_⟩
        rintro e1 w4 ⟨rfl, rfl⟩
        by_cases hbad : z < 12 ∨ M < z
        · obtain ⟨E, hE, hfE, hE0⟩ : ∃ E : Int, runF M L = (ls, [], E) ∧ fitsF z M = E ∧ E ≠ 0 := by
            by_cases h1 : z < 12
            · exact ⟨4, HE.out 4 (.inl ⟨rfl, h1⟩), by unfold fitsF; rw [if_pos (by omega)], by decide⟩
            · exact ⟨3, HE.out 3 (.inr ⟨rfl, by omega, by omega⟩), by unfold fitsF; rw [if_neg (by omega), if_pos (by omega)], by decide⟩
          rw [hfE]
          have hYE := HY.out (ls, o1) _ (.slice none 0 0, [], E) HJ3.out (.inr ⟨hE0, rfl, hE, l1, t + n, by have := HI3.out.sum; omega, HI3.out.rr⟩)
          have hEb : (E != 0) = true := by simpa using hE0
          obtain ⟨fn, tmps, assign, body, hy, hR⟩ := hYE
          simp only [encF] at hy hR
          gi_wp2_with fail
          refine ⟨rfl, hR.mono ?_⟩
          rintro e4 w5 (⟨rfl, hmo, _⟩ | ⟨rfl, hJx⟩)
          · exact absurd hmo hE0
          · have HJx := Lib.hid hJx
            clear hJx hR hy
            gi_wp2_with fail
            refine bodyPost_ret (results_none rfl _ _ _) rfl ?_
            exact ⟨⟨_, rfl⟩, .inr HJx.out⟩
        · have hf0 : fitsF z M = 0 := by unfold fitsF; rw [if_neg (by omega), if_neg (by omega)]
          rw [hf0]
          obtain ⟨x, hx⟩ : ∃ x : Int, wantF l1 = x := ⟨_, rfl⟩
          have HW := Lib.hid (want_rr HI3.out.rr (by omega))
          rw [hx] at HW hwant
          gi_wp2_with fail
          refine ⟨trivial, rfl, (callsIn_wide.2 HW.out).mono ?_⟩
          rintro e1 w5 ⟨rfl, m2, rfl⟩
          have HI4 := Lib.hid (HI3.out.drewN m2)
          have HJ4 := Lib.hid (HJA.out _ _ _ _ HJ3.out (step_drewN (r := r) (Bb := Bb) (ls, o1) w4 m2))
          have HD4 := Lib.hid (show D0 ≤ (w4.drewN m2).heap.size from HD3.out)
          by_cases hx0 : x = 0
          · subst hx0
            have hlz : l1.length = 2 + z := by omega
            clear hwant hx hw1
            have hz12 : 12 ≤ z := by omega
            have HC := Lib.hid (cutF_any HI4.out.rr z (by omega) (by omega) (by omega))
            unfold CutPost at HC
            obtain ⟨mm, hmm⟩ : ∃ m, (l1.drop 2).take z = m := ⟨_, rfl⟩
            have hnil : l1.drop (2 + z) = [] := List.drop_eq_nil_of_le (by omega)
            rw [hmm, hnil] at HC
            have hmore := runF_more M (l1 ++ rest1) hcl2 (by rw [hcl]; omega) (by rw [hcl]; omega) (by rw [hcl, List.length_append]; omega)
            rw [hcl, List.drop_append_of_le_length (show 2 ≤ l1.length by omega), List.take_append_of_le_length (by rw [List.length_drop]; omega), hmm, show 2 + z = l1.length by omega, List.drop_left] at hmore
            have hRL := HRL.out
            rw [hmore] at hRL
            have HR5 := Lib.hid (show runF M [] = ([], [], 0) ∧ runF M L = ((ls ++ [mm]) ++ (runF M ([] ++ rest1)).1, (runF M ([] ++ rest1)).2) from ⟨runF_nil M, by rw [hRL, List.append_assoc, List.nil_append]; rfl⟩)
            have HLS := Lib.hid (show 14 * (ls.length + 1) ≤ L.length from by
              have := (runF_len M L).1
              rw [hRL] at this
              simp only [List.length_append, List.length_cons] at this
              omega)
            have HMM := Lib.hid (show mm.length ≤ z by rw [← hmm, List.length_take]; omega)
            clear hmore hRL hmm hnil
            gi_wp2_with fail
            refine ⟨trivial, rfl, (callsIn_wide.2 HC.out).mono ?_⟩
            rintro e1 w5 ⟨v3, rfl, hO5, hrr5, hA5⟩
            obtain ⟨hI5, hS5⟩ := HI4.out.cutt hrr5 hA5 ls
            have hYE := HY.out (ls, o1) w5 (v3, mm, 0) (HJA.out _ _ _ _ HJ4.out hS5) (.inl ⟨rfl, hO5.mono HD4.out, fun b hb hK => by
              have h1 := (hO5.lt b hb).1
              have h2 : Br < (w4.drewN m2).heap.size := World.block_lt_of_cell? _ _ HI4.out.rd
              have h3 : Bb < (w4.drewN m2).heap.size := World.block_lt_of_cell? _ _ HI4.out.bx
              have h4 := HI4.out.hk
              have h5 := HI4.out.rr.lt
              rcases hK with e | e | e | e | e
              · omega
              · omega
              · omega
              · omega
              · obtain ⟨cs, _, _, _, hB⟩ := HI4.out.rr
                have := (hB.row b e).2
                omega, HLS.out, by have := HMM.out; show mm.length ≤ 65535; omega, [], t + n, by have := HI4.out.sum; omega, hrr5⟩)
            have HI5 := Lib.hid hI5
            have HD5 := Lib.hid (Nat.le_trans HD4.out hA5.size)
            obtain ⟨a3, c3, hv3⟩ := hO5.shape
            subst hv3
            obtain ⟨fn, tmps, assign, body, hy, hR⟩ := hYE
            simp only [encF] at hy hR
            clear hI5 hS5 hA5 hO5 hrr5
            gi_wp2_with fail
            refine ⟨rfl, hR.mono ?_⟩
            rintro e4 w6 (⟨rfl, _, hJ6, hs6, hk6⟩ | ⟨rfl, hJx⟩)
            · have HI6 := Lib.hid (HI5.out.keep hs6 fun b hb => hk6 b (by simpa [KF] using hb))
              have HJ6 := Lib.hid (show J (ls ++ [mm], o1) w6 from hJ6)
              have HD6 := Lib.hid (Nat.le_trans HD5.out hs6)
              clear hJ6 hk6 hR hy hs6
              gi_wp2_with fail
              refine ⟨⟨ls ++ [mm], o1, t + n, _, [], rest1, HI6, HJ6, HR5, HD6.out⟩, ?_⟩
              unfold lenCell
              rw [HI6.out.bx]
              show rest1.length < rest.length
              omega
            · have HJx := Lib.hid hJx
              clear hJx hR hy
              gi_wp2_with fail
              refine bodyPost_ret (results_none rfl _ _ _) rfl ?_
              exact ⟨⟨_, rfl⟩, .inr HJx.out⟩
          · have hnx : (x == 0) = false := by simpa using hx0
            have hwait := runF_wait M l1 hs2 (by omega) (by omega) (by omega)
            have HR5 := Lib.hid (And.intro hwait HRL.out)
            clear hwait hwant hx hw1 hx0
            gi_wp2_with fail
            refine ⟨trivial, ?_⟩
            gi_wp2_with fail
            refine ⟨fun _ h => (by cases h), ?_⟩
            gi_wp2_with fail
            refine ⟨⟨ls, o1, t + n, _, l1, rest1, HI4, HJ4, HR5, HD4.out⟩, ?_⟩
            unfold lenCell
            rw [HI4.out.bx]
            show rest1.length < rest.length
            omega
end Go.Proofs.YtlkafakanoefmaaDoor

/-
  The landed reader: Push.
-/
namespace Go.Proofs.YtlkafakanoefmaaDoor
open Go.RowKit Go.Shelf
set_option linter.unusedVariables false
set_option linter.unusedSimpArgs false
set_option maxRecDepth 100000
attribute [local go_sem] Oper.semAt_some

theorem Rr.le {w : World} {o : Option Nat} {r t t' M : Nat} {l : List UInt8} {out : Bool} (h : Rr w o r t M l out) (ht : t ≤ t') : Rr w o r t' M l out := by
  obtain ⟨cs, g0, g1, g5, hB⟩ := h
  exact ⟨cs, g0, g1, g5, hB.le ht⟩

theorem OwnS.but {w w' : World} {B : Nat} {v : Value} {us : List Value} {G : Nat → Prop} (h : OwnS w B v us) (ha : Aside G w w') (hG : ∀ b, v.ownBlock = some b → ¬ G b) : OwnS w' B v us := by
  have hlt := OwnZ.lt h
  rcases h with h2 | ⟨g, cap, hv, hg, h1, h2, hh⟩
  · exact .inl h2
  · exact .inr ⟨g, cap, hv, hg, h1, h2, (ha.block g (by subst hv; exact (hlt g rfl).2) (hG g (by subst hv; rfl))).trans hh⟩

/-- Told messages, none of them in the blocks X, nor the row of them. -/
structure ToldN (W : World) (B : Nat) (v : Value) (us : List Value) (ls : List (List UInt8)) (X : Nat → Prop) : Prop where
  told : Told W B v us ls
  row : ∀ b, v.ownBlock = some b → ¬ X b
  each : ∀ u ∈ us, ∀ b, u.ownBlock = some b → ¬ X b

section
variable {W W' : World} {B : Nat} {v : Value} {us : List Value} {ls : List (List UInt8)} {X X' G : Nat → Prop}
theorem ToldN.nil (W : World) (B : Nat) (X : Nat → Prop) : ToldN W B (.slice none 0 0) [] [] X := ⟨Told.nil W B, fun b h => (by cases h), fun u h => (by simp at h)⟩
theorem ToldN.own (h : ToldN W B v us ls X) {u : Value} (hu : u ∈ us) : ∃ m, OwnB W B u m := by
  obtain ⟨j, hj, rfl⟩ := List.mem_iff_getElem.mp hu
  have := h.told.each j (by rw [← h.told.len]; exact hj)
  rw [List.getD, List.getElem?_eq_getElem hj] at this
  exact ⟨_, this⟩
theorem ToldN.aside (h : ToldN W B v us ls X) (ha : Aside G W W') (hG : ∀ b, B ≤ b → b < W.heap.size → G b → X b) (hX : ∀ b, B ≤ b → b < W.heap.size → X' b → X b) : ToldN W' B v us ls X' := by
  have hr := OwnZ.lt h.told.row
  refine ⟨⟨h.told.row.but ha fun b hb hg => h.row b hb (hG b (hr b hb).1 (hr b hb).2 hg), h.told.len, fun j hj => ?_⟩, fun b hb hx => h.row b hb (hX b (hr b hb).1 (hr b hb).2 hx), fun u hu b hb hx => ?_⟩
  · have h1 := h.told.each j hj
    have hju : j < us.length := by rw [h.told.len]; exact hj
    have h2 : us.getD j (.slice none 0 0) ∈ us := by rw [List.getD, List.getElem?_eq_getElem hju]; exact List.getElem_mem hju
    exact h1.aside ha fun b hb hg => h.each _ h2 b hb (hG b (h1.lt b hb).1 (h1.lt b hb).2 hg)
  · obtain ⟨m, hm⟩ := h.own hu
    exact h.each u hu b hb (hX b (hm.lt b hb).1 (hm.lt b hb).2 hx)
end

/-- One more message, that lies in a block of its own. -/
theorem told_add {W : World} {B : Nat} {v : Value} {us : List Value} {ls : List (List UInt8)} {X : Nat → Prop} {m : List UInt8} {a : Option Addr} {c : Nat} (h : ToldN W B v us ls X) (hm : OwnB W B (.slice a m.length c) m) (hmX : ∀ b, (Value.slice a m.length c).ownBlock = some b → ¬ X b) (hB : B ≤ W.heap.size) (hul : us.length + 1 ≤ 1000000)
    (hX : ∀ b, X b → b < B ∨ (∃ z fz, W.heap[b]? = some (.cells z 5 fz))) :
    ∃ a2 c2 X4, (Builtin.append_ #[31, 31] 31 #[v, .slice (some ⟨W.heap.size, 0, none⟩) 1 1]).run Tryd.prog (W.alloc (.cells #[.slice a m.length c] 22)) = .ok (.slice a2 (us.length + 1) c2) X4 ∧
      ToldN X4 B (.slice a2 (us.length + 1) c2) (us ++ [.slice a m.length c]) (ls ++ [m]) X ∧ Aside (fun b => v.ownBlock = some b) W X4 := by
  have b3 : Below W.heap.size W (W.alloc (.cells #[.slice a m.length c] 22)) := (Below.refl _ _).alloc (Nat.le_refl _) _
  have s3 : OwnS (W.alloc (.cells #[.slice a m.length c] 22)) B v us := h.told.row.below b3
  obtain ⟨a2, c2, X4, r2, s4, g4⟩ := run_appS1 B v (.slice a m.length c) us W.heap.size s3 (by simp [go_sem]) rfl hul (Nat.le_trans hB b3.size)
  have hA : Aside (fun b => v.ownBlock = some b) W X4 := (Aside.of_all b3).trans (aside_grown g4)
  have keep : ∀ B' v' l', OwnB W B' v' l' → OwnB X4 B' v' l' := fun B' v' l' hx => (hx.below b3).aside (aside_grown g4) (s3.ne (hx.below b3))
  refine ⟨a2, c2, X4, r2, ⟨⟨s4, by rw [List.length_append, List.length_append, h.told.len]; rfl, fun j hj => ?_⟩, fun b hb hx => ?_, fun u hu b hb => ?_⟩, hA⟩
  · by_cases hj2 : j < ls.length
    · have e1 : (us ++ [Value.slice a m.length c]).getD j (.slice none 0 0) = us.getD j (.slice none 0 0) := by
        rw [List.getD, List.getElem?_append_left (by rw [h.told.len]; exact hj2)]; rfl
      have e2 : (ls ++ [m]).getD j [] = ls.getD j [] := by
        rw [List.getD, List.getElem?_append_left hj2]; rfl
      rw [e1, e2]
      exact keep _ _ _ (h.told.each j hj2)
    · rw [List.length_append] at hj
      have hj3 : j = ls.length := by simp at hj; omega
      subst hj3
      have e1 : (us ++ [Value.slice a m.length c]).getD ls.length (.slice none 0 0) = .slice a m.length c := by
        rw [← h.told.len, List.getD]; simp
      have e2 : (ls ++ [m]).getD ls.length [] = m := by rw [List.getD]; simp
      rw [e1, e2]
      exact keep _ _ _ hm
  · have hlt := (OwnZ.lt s4 b hb).1
    rcases hX b hx with h1 | ⟨z, fz, h1⟩
    · omega
    · have hbW := (Array.getElem?_eq_some_iff.mp h1).1
      have hnv : ¬ v.ownBlock = some b := fun e => h.row b e hx
      have h2 := (hA.block b hbW hnv).trans h1
      rcases s4 with ⟨e, _⟩ | ⟨g, cap, e, _, _, _, hg⟩
      · rw [e] at hb; cases hb
      · rw [e] at hb
        have e2 : g = b := by injection hb
        subst e2
        rw [h2] at hg
        injection hg with hg
        injection hg with _ h3 _
        exact absurd h3 (by decide)
  · rcases List.mem_append.mp hu with hu | hu
    · exact h.each u hu b hb
    · simp at hu; subst hu; exact hmX b hb

set_option maxHeartbeats 1000000 in
theorem messages_any (w : World) (r n c : Nat) (a : Option Addr) : Calls Tryd.prog 32 #[.pointer (some ⟨r, 0, none⟩), .slice a n c] w fun e w' =>
    e = .returned (.func (.func 36) #[] #[.pointer (some ⟨w.heap.size + 1, 0, none⟩), .pointer (some ⟨w.heap.size, 0, none⟩)]) ∧ w' = (w.alloc (.cells #[.pointer (some ⟨r, 0, none⟩)] 33)).alloc (.cells #[.slice a n c] 22) := by
  go_enter Tryd.func32, Tryd.ntmps32
  go_wp2
  go_ret
  exact ⟨rfl, rfl⟩

theorem plain_ret {P : Program} {fn : Func} {R : Ending → World → Prop} {tmps : Array Value} {W : World} (v : Value)
    (hv : (results fn tmps).run P W = .ok v W) (h : R (.returned v) W) : bodyPostM Fence.wide 0 P fn R .ret { tmps := tmps, defers := [] } W := ⟨v, hv, h⟩

set_option maxHeartbeats 1000000 in
theorem push_no {w : World} {v bv : Value} (h : Unmade w v) : Calls Tryd.prog 20 #[v, bv] w fun e w' => e = .returned (.tuple #[.slice none 0 0, .int .i64 1]) ∧ Below w.heap.size w w' := by
  have HM := Lib.hid (fun W (hb : Below w.heap.size w W) => (show Unmade W v by
    rcases h with h | ⟨r, h1, h2⟩
    · exact .inl h
    · exact .inr ⟨r, h1, ((Aside.of_all (G := fun _ => False) hb).cell (World.block_lt_of_cell? w _ h2) fun h => h).trans h2⟩).no)
  have hv : ∃ q, v = .pointer q := by
    rcases h with h | ⟨r, h, _⟩
    · exact ⟨_, h⟩
    · exact ⟨_, h⟩
  obtain ⟨q, rfl⟩ := hv
  clear h
  refine calls_of_wp_marks Tryd.func20 rfl ?_
  simp only [Tryd.ntmps20, List.size_toArray, List.length_cons, List.length_nil, Nat.reduceAdd, Nat.reduceSub, Array.replicate_succ,
     Array.replicate_zero, List.push_toArray, List.append_toArray, List.nil_append, List.cons_append]
  go_wp2_with fail
  refine (HM.out _ ?_).mono ?_
  · exact (((Below.refl _ w).alloc (Nat.le_refl _) _).alloc (by simp) _).alloc (by simp; omega) _
  rintro e w1 ⟨rfl, rfl⟩
  go_wp2_with fail
  refine plain_ret (.tuple #[.slice none 0 0, .int .i64 1]) ?_ ⟨rfl, (((Below.refl _ w).alloc (Nat.le_refl _) _).alloc (by simp) _).alloc (by simp; omega) _⟩
  simp [results, Tryd.results20, go_sem]

set_option maxHeartbeats 1000000 in
theorem push_out {w : World} {o : Option Nat} {r t M : Nat} {l : List UInt8} {bv : Value} (h : Rr w o r t M l true) : Calls Tryd.prog 20 #[.pointer (some ⟨r, 0, none⟩), bv] w fun e w' => e = .returned (.tuple #[.slice none 0 0, .int .i64 9]) ∧ Below w.heap.size w w' := by
  have HM := Lib.hid (fun W (hb : Below w.heap.size w W) => made_yes (h.below hb).self)
  have hlt := h.lt
  have c5 := (h.below ((((Below.refl _ w).alloc (Nat.le_refl _) (.cells #[.pointer (some ⟨r, 0, none⟩)] 33)).alloc (by simp) (.cells #[.slice none 0 0] 31)).alloc (by simp; omega) (.cells #[.int .i64 0] 25))).brk
  clear h
  refine calls_of_wp_marks Tryd.func20 rfl ?_
  simp only [Tryd.ntmps20, List.size_toArray, List.length_cons, List.length_nil, Nat.reduceAdd, Nat.reduceSub, Array.replicate_succ,
     Array.replicate_zero, List.push_toArray, List.append_toArray, List.nil_append, List.cons_append]
  go_wp2_with fail
  refine (HM.out _ ?_).mono ?_
  · exact (((Below.refl _ w).alloc (Nat.le_refl _) _).alloc (by simp) _).alloc (by simp; omega) _
  rintro e w1 ⟨rfl, rfl⟩
  go_wp2_with fail
  refine plain_ret (.tuple #[.slice none 0 0, .int .i64 9]) ?_ ⟨rfl, (((Below.refl _ w).alloc (Nat.le_refl _) _).alloc (by simp) _).alloc (by simp; omega) _⟩
  simp [results, Tryd.results20, go_sem]
end Go.Proofs.YtlkafakanoefmaaDoor
