/-
  The landed reader: Push, whole.
-/
import Derived.Test.YtlkafakanoefmaaDoorZ06
import Derived.Test.YtlkafakanoefmaaDoorZ01
import Derived.Test.YtlkafakanoefmaaDoorZ00
namespace Go.Proofs.YtlkafakanoefmaaDoor
open Go.RowKit Go.Shelf
set_option linter.unusedVariables false
set_option linter.unusedSimpArgs false
set_option maxRecDepth 100000
attribute [local go_sem] Oper.semAt_some

/-- An append that runs so, in a round (as wip/name Td's). -/
theorem wpListIn_appF {F : Fence} {n : Nat} {w w' : World} {v v' xv : Value} {ops : Array Oper} {rest : List Oper} {o : Oper} {a : Act} {Q : Exit → Act → World → Prop} (s x : Operand) (t u : TypeId)
    (ho : o.op = .call { callee := .builtin .append, args := #[s, x], argTypes := #[t, u] }) (hgd : o.guard = .none) (hs : a.eval s = v) (hx : a.eval x = xv)
    (hrun : (Builtin.append_ #[t, u] o.type #[v, xv]).run Tryd.prog w = .ok v' w') (h : wpListIn F n Tryd.prog ops Q rest (a.put o.dst v') w') : wpListIn F n Tryd.prog ops Q (o :: rest) a w := by
  refine wpListIn_plain hgd fun K hK => ?_
  unfold Oper.wpIn
  refine ⟨?_, ?_⟩
  · simp [Oper.about, ho, resolve, Target.leads, Sem.run_pure]
  · rw [Oper.semAt_plain F _ _ (by rw [ho]; intro c hc'; cases hc')]
    simp [execOp, ho, resolve, invoke, builtin, hs, hx, hrun, Result.andThen]
    exact hK _ _ h

/-- Leaves that are all alike, done once. -/
theorem once_for {p q : Prop} (f : p → q) (h : p) : q := f h

/-- How Push ends. -/
def PushFPost (w : World) (o0 : Option Nat) (r T M : Nat) (L : List UInt8) (e : Ending) (w' : World) : Prop :=
  ∃ v us o', e = .returned (.tuple #[v, .int .i64 (runF M L).2.2]) ∧ ToldN w' w.heap.size v us (runF M L).1 (fun b => o' = some b) ∧ Rr w' o' r T M (runF M L).2.1 (decide ((runF M L).2.2 ≠ 0)) ∧ (∀ g, o' = some g → o0 = some g ∨ w.heap.size ≤ g) ∧ Aside (fun j => j = r ∨ o0 = some j) w w'

/-- How Push's loop stands. -/
structure PI (w : World) (r : Nat) (o0 : Option Nat) (s : FSt) (W : World) : Prop where
  rb : Bx W w.heap.size (.pointer (some ⟨r, 0, none⟩))
  b1 : Bx W (w.heap.size + 1) (.slice none 0 0)
  b2 : Bx W (w.heap.size + 2) (.int .i64 0)
  row : ∃ v us, Bx W (w.heap.size + 3) v ∧ ToldN W (w.heap.size + 8) v us s.1 (fun b => s.2 = some b)
  off : ∀ g, s.2 = some g → o0 = some g ∨ w.heap.size + 8 ≤ g
  olt : ∀ g, s.2 = some g → g < W.heap.size
  asd : Aside (fun j => j = r ∨ o0 = some j) w W
  rlt : r < w.heap.size
  old : ∀ g, o0 = some g → g < w.heap.size

theorem PI.step {w A B : World} {r : Nat} {o0 : Option Nat} {s s' : FSt} (h : PI w r o0 s A) (hs : w.heap.size + 6 + 2 ≤ A.heap.size) (hp : stepF r (w.heap.size + 5) s A s' B) :
    PI w r o0 s' B ∧ A.heap.size ≤ B.heap.size ∧ ∀ b, b = w.heap.size + 6 ∨ b = w.heap.size + 6 + 1 → B.heap[b]? = A.heap[b]? := by
  obtain ⟨ls, o⟩ := s
  obtain ⟨ls', o'⟩ := s'
  obtain ⟨h1, ha, ho⟩ := hp
  simp only at h1 ha ho
  subst h1
  obtain ⟨rb, b1, b2, ⟨v, us, hb3, hT⟩, off, olt, asd, rlt, old⟩ := h
  simp only at off olt hT
  have no : ∀ b, w.heap.size ≤ b → b < w.heap.size + 8 → o ≠ some b := fun b h1 h2 e => by
    rcases off b e with h | h
    · have := old b h; omega
    · omega
  have hG : ∀ b, w.heap.size ≤ b → b < w.heap.size + 8 → b ≠ w.heap.size + 5 → ¬ (b = r ∨ b = w.heap.size + 5 ∨ o = some b) := fun b h1 h2 h3 h => by
    rcases h with e | e | e
    · omega
    · exact h3 e
    · exact no b h1 h2 e
  refine ⟨⟨rb.aside ha (hG _ (by omega) (by omega) (by omega)), b1.aside ha (hG _ (by omega) (by omega) (by omega)), b2.aside ha (hG _ (by omega) (by omega) (by omega)), ⟨v, us, hb3.aside ha (hG _ (by omega) (by omega) (by omega)), hT.aside ha (fun b hb hlt hg => ?_) (fun b hb hlt hx => ?_)⟩, fun g hg => ?_, fun g hg => ?_, asd.onto ha fun b hb hn hg => ?_, rlt, old⟩, ha.size, fun b hb => ha.block b (by omega) (hG _ (by omega) (by omega) (by omega))⟩
  · rcases hg with e | e | e
    · omega
    · omega
    · exact e
  · simp only at hx
    rcases ho with e | ⟨g, e, h1, h2⟩
    · rw [← e]; exact hx
    · rw [hx] at e; injection e with e; omega
  · simp only at hg
    rcases ho with e | ⟨g', e, h1, h2⟩
    · exact off g (by rw [← e]; exact hg)
    · rw [hg] at e; injection e with e; right; omega
  · simp only at hg
    rcases ho with e | ⟨g', e, h1, h2⟩
    · exact Nat.lt_of_lt_of_le (olt g (by rw [← e]; exact hg)) ha.size
    · rw [hg] at e; injection e with e; omega
  · rcases hg with e | e | e
    · exact hn (.inl e)
    · omega
    · rcases off b e with h | h
      · exact hn (.inr h)
      · omega

theorem PI.put {w A : World} {r : Nat} {o0 : Option Nat} {s : FSt} (h : PI w r o0 s A) (hs : w.heap.size + 6 + 2 ≤ A.heap.size) (ob : Obj) : PI w r o0 s (A.putObj (w.heap.size + 6 + 1) ob) := by
  obtain ⟨rb, b1, b2, ⟨v, us, hb3, hT⟩, off, olt, asd, rlt, old⟩ := h
  have ha : Aside (fun j => j = w.heap.size + 6 + 1) A (A.putObj (w.heap.size + 6 + 1) ob) := Aside.putObj _ _ rfl
  refine ⟨rb.aside ha (by omega), b1.aside ha (by omega), b2.aside ha (by omega), ⟨v, us, hb3.aside ha (by omega), hT.aside ha (fun b hb hlt hg => by omega) (fun b hb hlt hx => hx)⟩, off, fun g hg => by have := olt g hg; have := ha.size; omega, asd.onto ha fun b hb hn hg => by omega, rlt, old⟩

theorem Rr.typed {w : World} {o : Option Nat} {r t M : Nat} {l : List UInt8} {out : Bool} (h : Rr w o r t M l out) (g : Nat) (hg : o = some g) : ∃ z fz, w.heap[g]? = some (.cells z 5 fz) := by
  obtain ⟨cs, _, _, _, a, n, c, off, lr, zs, _, ⟨_, _, ⟨h2, _⟩ | ⟨g', h2, _, _, h4⟩⟩, _⟩ := h
  · rw [h2] at hg; exact absurd hg (by simp)
  · rw [h2] at hg; injection hg with hg; subst hg; exact ⟨_, _, h4⟩

/-- One more message. -/
theorem PI.told {w V X4 : World} {r k : Nat} {o0 o : Option Nat} {ls ls2 : List (List UInt8)} {v v2 : Value} {us2 : List Value} (h : PI w r o0 (ls, o) V) (hs : w.heap.size + 6 + 2 ≤ V.heap.size) (hk : k < w.heap.size) (hb3 : Bx V (w.heap.size + 3) v) (hvo : ∀ b, v.ownBlock = some b → w.heap.size + 8 ≤ b ∧ o ≠ some b)
    (hA : Aside (fun b => v.ownBlock = some b) V X4) (hT : ToldN X4 (w.heap.size + 8) v2 us2 ls2 (fun b => o = some b)) :
    (∀ b, KF r (w.heap.size + 4) (w.heap.size + 5) k (ls, o) b ∨ b = w.heap.size + 6 ∨ b = w.heap.size + 6 + 1 → (X4.setCell ⟨w.heap.size + 3, 0, none⟩ v2).heap[b]? = V.heap[b]?) ∧ V.heap.size ≤ (X4.setCell ⟨w.heap.size + 3, 0, none⟩ v2).heap.size ∧ PI w r o0 (ls2, o) (X4.setCell ⟨w.heap.size + 3, 0, none⟩ v2) := by
  have hlt8 : ∀ b, b < w.heap.size + 8 → ¬ v.ownBlock = some b := fun b h1 h2 => by have := (hvo b h2).1; omega
  have hset : Aside (fun j => j = w.heap.size + 3) X4 (X4.setCell ⟨w.heap.size + 3, 0, none⟩ v2) := Aside.setCell _ _ rfl
  have hAA : Aside (fun b => b = w.heap.size + 3 ∨ v.ownBlock = some b) V (X4.setCell ⟨w.heap.size + 3, 0, none⟩ v2) := (hA.mono fun _ _ h => .inr h).trans (hset.mono fun _ _ h => .inl h)
  obtain ⟨rb, b1, b2, _, off, olt, asd, rlt, old⟩ := h
  have hb4 := (hb3.aside hA (hlt8 _ (by omega))).set v2
  refine ⟨fun b hb => ?_, hAA.size, ⟨rb.aside hAA fun e => ?_, b1.aside hAA fun e => ?_, b2.aside hAA fun e => ?_, ⟨v2, us2, hb4, hT.aside hset (fun b hb _ e => by omega) fun _ _ _ h => h⟩, off, fun g hg => Nat.lt_of_lt_of_le (olt g hg) hAA.size, asd.onto hAA fun b hb _ e => ?_, rlt, old⟩⟩
  · have hno : ¬ (b = w.heap.size + 3 ∨ v.ownBlock = some b) := fun e => by
      have key : o = some b → False := fun h => by
        rcases e with e | e
        · rcases off b h with h2 | h2
          · have := old b h2; omega
          · omega
        · exact (hvo b e).2 h
      have hge : b < w.heap.size + 8 → b ≠ w.heap.size + 3 → False := fun h1 h2 => by
        rcases e with e | e
        · exact h2 e
        · exact hlt8 b h1 e
      rcases hb with (h | h | h | h | h) | h | h
      · exact hge (by omega) (by omega)
      · exact hge (by omega) (by omega)
      · exact hge (by omega) (by omega)
      · exact hge (by omega) (by omega)
      · exact key h
      · exact hge (by omega) (by omega)
      · exact hge (by omega) (by omega)
    by_cases hbV : b < V.heap.size
    · exact hAA.block b hbV hno
    · rcases hb with (h | h | h | h | h) | h | h
      · omega
      · omega
      · omega
      · omega
      · have := olt b h; omega
      · omega
      · omega
  · rcases e with e | e
    · omega
    · exact hlt8 _ (by omega) e
  · rcases e with e | e
    · omega
    · exact hlt8 _ (by omega) e
  · rcases e with e | e
    · omega
    · exact hlt8 _ (by omega) e
  · rcases e with e | e
    · omega
    · exact hlt8 _ (by omega) e

/-- How Push's loop is left. -/
def PX (w : World) (r : Nat) (o0 : Option Nat) (M : Nat) (L : List UInt8) (c : Code) (W : World) : Prop :=
  c = .ret ∧ ∃ ls E v us, E ≠ 0 ∧ runF M L = (ls, [], E) ∧ Bx W (w.heap.size + 1) v ∧ Bx W (w.heap.size + 2) (.int .i64 E) ∧ ToldN W (w.heap.size + 8) v us ls (fun _ => False) ∧ Rr W none r 0 M [] true ∧ Aside (fun j => j = r ∨ o0 = some j) w W

theorem PX.put {w A : World} {r : Nat} {o0 : Option Nat} {M : Nat} {L : List UInt8} {c : Code} (hr : r < w.heap.size) (h : PX w r o0 M L c A) (k : Nat) (hk : w.heap.size + 3 ≤ k) (hk8 : k < w.heap.size + 8) (ob : Obj) : PX w r o0 M L c (A.putObj k ob) := by
  obtain ⟨rfl, ls, E, v, us, h1, h2, h3, h4, h5, h6, h7⟩ := h
  have ha : Aside (fun j => j = k) A (A.putObj k ob) := Aside.putObj _ _ rfl
  exact ⟨rfl, ls, E, v, us, h1, h2, h3.aside ha (by omega), h4.aside ha (by omega), h5.aside ha (fun b hb hlt hg => by omega) (fun b hb hlt hx => hx), h6.aside ha (by omega) (fun g hg => by simp at hg), h7.onto ha fun b hb hn hg => by omega⟩
theorem BfC.setX {cs : Nat → Option Value} {w : World} {b q n c off : Nat} {a : Option Addr} {lr : Int} (h : BfC cs w b q a n c off lr) (i : Nat) (hi : i < q ∨ q + 2 < i) (u u0 : Value) (hu : w.cell? ⟨b, i, none⟩ = some u0) : BfC (fun j => if j = i then some u else cs j) (w.setCell ⟨b, i, none⟩ u) b q a n c off lr := by
  have hne : ∀ j, j ≠ i → (w.setCell ⟨b, i, none⟩ u).cell? ⟨b, j, none⟩ = w.cell? ⟨b, j, none⟩ := fun j hj => World.cell?_setCell_other _ _ _ _ (by intro e; have e2 := congrArg Addr.off e; simp only at e2; omega)
  refine ⟨(hne _ (by omega)).trans h.1, (hne _ (by omega)).trans h.2.1, (hne _ (by omega)).trans h.2.2.1, fun j => ⟨by rw [World.frozen?_setCell]; exact (h.2.2.2 j).1, fun hj => ?_⟩⟩
  by_cases e : j = i
  · subst e
    show _ = if j = j then _ else _
    rw [if_pos rfl]
    exact World.cell?_setCell_same _ _ _ hu
  · show _ = if j = i then _ else _
    rw [if_neg e]
    exact (hne j e).trans ((h.2.2.2 j).2 hj)

theorem Rr.brake {V : World} {o : Option Nat} {r t M : Nat} {l : List UInt8} (h : Rr V o r t M l false) :
    Rr ((((V.setCell ⟨r, 2, none⟩ (.slice none 0 0)).setCell ⟨r, 3, none⟩ (.int .i64 0)).setCell ⟨r, 4, none⟩ (.int .i8 0)).setCell ⟨r, 5, none⟩ (.bool true)).drew none r 0 M [] true ∧
    Aside (fun b => b = r) V ((((V.setCell ⟨r, 2, none⟩ (.slice none 0 0)).setCell ⟨r, 3, none⟩ (.int .i64 0)).setCell ⟨r, 4, none⟩ (.int .i8 0)).setCell ⟨r, 5, none⟩ (.bool true)).drew := by
  have h5 := h.brk
  obtain ⟨cs, g0, g1, _, a, n, c, off, lr, zs, hC, _⟩ := h
  have hA : Aside (fun b => b = r) V ((((V.setCell ⟨r, 2, none⟩ (.slice none 0 0)).setCell ⟨r, 3, none⟩ (.int .i64 0)).setCell ⟨r, 4, none⟩ (.int .i8 0)).setCell ⟨r, 5, none⟩ (.bool true)).drew :=
    ((((Aside.setCell (G := fun b => b = r) _ _ rfl).trans (Aside.setCell _ _ rfl)).trans (Aside.setCell _ _ rfl)).trans (Aside.setCell _ _ rfl)).trans (Aside.of_all (Below.refl _ _).drew)
  have h3 : BfC cs (((V.setCell ⟨r, 2, none⟩ (.slice none 0 0)).setCell ⟨r, 3, none⟩ (.int .i64 0)).setCell ⟨r, 4, none⟩ (.int .i8 0)) r 2 none 0 0 0 0 := ((hC.setB none 0 0).setO 0).setL 0
  have h4 := h3.setX 5 (by omega) (.bool true) (.bool false) ((World.cell?_setCell_other _ _ _ _ (by simp)).trans ((World.cell?_setCell_other _ _ _ _ (by simp)).trans ((World.cell?_setCell_other _ _ _ _ (by simp)).trans h5)))
  exact ⟨⟨_, by simpa using g0, by simpa using g1, rfl, none, 0, 0, 0, 0, [], h4.drew, ⟨rfl, by unfold maxLen; omega, .inl ⟨rfl, rfl, rfl⟩⟩, rfl, Nat.le_refl _, Nat.le_refl _, fun j h => by simp at h⟩, hA⟩

/-- The loop is left, since a length came that may not be. -/
theorem PI.brake {w V V1 : World} {r M : Nat} {o0 o : Option Nat} {L : List UInt8} {ls : List (List UInt8)} {v : Value} {us : List Value} {E : Int} (h : PI w r o0 (ls, o) V) (hs : w.heap.size + 6 + 2 ≤ V.heap.size) (hb3 : Bx V (w.heap.size + 3) v) (hT : ToldN V (w.heap.size + 8) v us ls (fun b => o = some b)) (hE : E ≠ 0) (hrun : runF M L = (ls, [], E)) (hR : Rr V1 none r 0 M [] true) (hA : Aside (fun b => b = r) V V1) :
    Bx V1 (w.heap.size + 1) (.slice none 0 0) ∧ Bx V1 (w.heap.size + 2) (.int .i64 0) ∧ Bx V1 (w.heap.size + 3) v ∧
    (∀ b, b = w.heap.size + 6 ∨ b = w.heap.size + 6 + 1 → ((V1.setCell ⟨w.heap.size + 1, 0, none⟩ v).setCell ⟨w.heap.size + 2, 0, none⟩ (.int .i64 E)).heap[b]? = V.heap[b]?) ∧
    PX w r o0 M L .ret ((V1.setCell ⟨w.heap.size + 1, 0, none⟩ v).setCell ⟨w.heap.size + 2, 0, none⟩ (.int .i64 E)) := by
  obtain ⟨rb, b1, b2, _, off, olt, asd, rlt, old⟩ := h
  have g1 := b1.aside hA (by omega)
  have g2 := b2.aside hA (by omega)
  have g3 := hb3.aside hA (by omega)
  have hA1 : Aside (fun b => b = w.heap.size + 1) V1 (V1.setCell ⟨w.heap.size + 1, 0, none⟩ v) := Aside.setCell _ _ rfl
  have hA2 : Aside (fun b => b = w.heap.size + 2) (V1.setCell ⟨w.heap.size + 1, 0, none⟩ v) ((V1.setCell ⟨w.heap.size + 1, 0, none⟩ v).setCell ⟨w.heap.size + 2, 0, none⟩ (.int .i64 E)) := Aside.setCell _ _ rfl
  have hAA : Aside (fun b => b = r ∨ b = w.heap.size + 1 ∨ b = w.heap.size + 2) V ((V1.setCell ⟨w.heap.size + 1, 0, none⟩ v).setCell ⟨w.heap.size + 2, 0, none⟩ (.int .i64 E)) :=
    ((hA.mono fun _ _ h => .inl h).trans (hA1.mono fun _ _ h => .inr (.inl h))).trans (hA2.mono fun _ _ h => .inr (.inr h))
  refine ⟨g1, g2, g3, fun b hb => hAA.block b (by omega) (by omega), rfl, ls, E, v, us, hE, hrun, (g1.set v).aside hA2 (by omega), (g2.aside hA1 (by omega)).set _, hT.aside hAA (fun b hb hlt e => by omega) (fun b hb hlt e => e.elim), (hR.aside hA1 (by omega) (fun g hg => by simp at hg)).aside hA2 (by omega) (fun g hg => by simp at hg), asd.onto hAA fun b hb hn e => ?_⟩
  rcases e with e | e | e
  · exact hn (.inl e)
  · omega
  · omega
theorem ToldN.mono {W : World} {B B' : Nat} {v : Value} {us : List Value} {ls : List (List UInt8)} {X : Nat → Prop} (h : ToldN W B v us ls X) (hB : B' ≤ B) : ToldN W B' v us ls X :=
  ⟨⟨h.told.row.mono hB, h.told.len, fun j hj => (h.told.each j hj).mono hB⟩, h.row, h.each⟩

/-- The loop ends. -/
theorem PI.fin {w V : World} {r M T : Nat} {o0 : Option Nat} {L : List UInt8} {s : FSt} {v : Value} {us : List Value} (h : PI w r o0 s V) (hs : w.heap.size + 6 + 2 ≤ V.heap.size) (hb3 : Bx V (w.heap.size + 3) v) (hT : ToldN V (w.heap.size + 8) v us s.1 (fun b => s.2 = some b)) (hF : FinF r M L T s V) (hD : V.heap[w.heap.size + 6]? = some (.deferred (some []))) :
    Hid (∃ Wf, Wf = (V.setCell ⟨w.heap.size + 1, 0, none⟩ v).setCell ⟨w.heap.size + 2, 0, none⟩ (.int .i64 0) ∧ Wf.heap[w.heap.size + 6]? = some (.deferred (some [])) ∧ (Wf.putObj (w.heap.size + 6) (.deferred none)).cell? ⟨w.heap.size + 1, 0, none⟩ = some v ∧ (Wf.putObj (w.heap.size + 6) (.deferred none)).cell? ⟨w.heap.size + 2, 0, none⟩ = some (.int .i64 0) ∧
      PushFPost w o0 r T M L (.returned (.tuple #[v, .int .i64 0])) (Wf.putObj (w.heap.size + 6) (.deferred none))) := by
  obtain ⟨rb, b1, b2, _, off, olt, asd, rlt, old⟩ := h
  obtain ⟨l', hrun, t, ht, hR⟩ := hF
  have hA1 : Aside (fun b => b = w.heap.size + 1) V (V.setCell ⟨w.heap.size + 1, 0, none⟩ v) := Aside.setCell _ _ rfl
  have hA2 : Aside (fun b => b = w.heap.size + 2) (V.setCell ⟨w.heap.size + 1, 0, none⟩ v) ((V.setCell ⟨w.heap.size + 1, 0, none⟩ v).setCell ⟨w.heap.size + 2, 0, none⟩ (.int .i64 0)) := Aside.setCell _ _ rfl
  have g1 := (b1.set v).aside hA2 (by omega)
  have g2 := (b2.aside hA1 (by omega)).set (.int .i64 0)
  obtain ⟨Wf, hWf⟩ : ∃ W, (V.setCell ⟨w.heap.size + 1, 0, none⟩ v).setCell ⟨w.heap.size + 2, 0, none⟩ (.int .i64 0) = W := ⟨_, rfl⟩
  rw [hWf] at hA2 g1 g2
  have hA3 : Aside (fun b => b = w.heap.size + 6) Wf (Wf.putObj (w.heap.size + 6) (.deferred none)) := Aside.putObj _ _ rfl
  have hAA : Aside (fun b => w.heap.size ≤ b ∧ b < w.heap.size + 8) V (Wf.putObj (w.heap.size + 6) (.deferred none)) :=
    ((hA1.mono fun b _ h => ⟨by omega, by omega⟩).trans (hA2.mono fun b _ h => ⟨by omega, by omega⟩)).trans (hA3.mono fun b _ h => ⟨by omega, by omega⟩)
  have no : ∀ b, w.heap.size ≤ b ∧ b < w.heap.size + 8 → s.2 ≠ some b := fun b h1 e => by
    rcases off b e with h | h
    · have := old b h; omega
    · omega
  refine ⟨Wf, hWf.symm, ((hA1.mono fun _ _ h => Or.inl h).trans (hA2.mono fun _ _ h => Or.inr h) |>.block _ (by omega) (by omega)).trans hD, (g1.aside hA3 (by omega)).1, (g2.aside hA3 (by omega)).1, v, us, s.2, by rw [hrun], ?_, ?_, fun g hg => ?_, asd.onto hAA fun b hb _ e => by omega⟩
  · rw [hrun]
    exact (hT.aside hAA (fun b hb hlt e => by omega) fun _ _ _ h => h).mono (by omega)
  · rw [hrun]
    exact (hR.le ht).aside hAA (by omega) fun g hg e => no g e hg
  · rcases off g hg with h | h
    · exact .inl h
    · exact .inr (by omega)

/-- The loop was left. -/
theorem PX.fin {w W : World} {r M T : Nat} {o0 : Option Nat} {L : List UInt8} {c : Code} (hr : r < w.heap.size) (h : PX w r o0 M L c W) :
    c = .ret ∧ ∃ v E, (W.putObj (w.heap.size + 6) (.deferred none)).cell? ⟨w.heap.size + 1, 0, none⟩ = some v ∧ (W.putObj (w.heap.size + 6) (.deferred none)).cell? ⟨w.heap.size + 2, 0, none⟩ = some (.int .i64 E) ∧
      PushFPost w o0 r T M L (.returned (.tuple #[v, .int .i64 E])) (W.putObj (w.heap.size + 6) (.deferred none)) := by
  have hp := h.put hr (w.heap.size + 6) (by omega) (by omega) (.deferred none)
  obtain ⟨rfl, ls, E, v, us, h1, h2, h3, h4, h5, h6, h7⟩ := hp
  refine ⟨rfl, v, E, h3.1, h4.1, v, us, none, by rw [h2], ?_, ?_, fun g hg => by simp at hg, h7⟩
  · rw [h2]
    exact ⟨(h5.mono (by omega)).told, fun b hb hx => by simp at hx, fun u hu b hb hx => by simp at hx⟩
  · rw [h2]
    have : decide (E ≠ 0) = true := decide_eq_true h1
    rw [this]
    exact h6.le (Nat.zero_le _)
end Go.Proofs.YtlkafakanoefmaaDoor

/-
  The landed reader: Push, the walk.
-/
namespace Go.Proofs.YtlkafakanoefmaaDoor
open Go.RowKit Go.Shelf
set_option linter.unusedVariables false
set_option linter.unusedSimpArgs false
set_option maxRecDepth 100000
attribute [local go_sem] Oper.semAt_some

set_option maxHeartbeats 4000000 in
theorem push_any {w : World} {o0 : Option Nat} {r t0 M k : Nat} {l0 p : List UInt8} {bv : Value} (h : Rr w o0 r t0 M l0 false) (hv : Sl w k (k + 1) bv (iz p)) (hk : k < w.heap.size) (hkr : k ≠ r) (hko : o0 ≠ some k) (hst : runF M l0 = ([], l0, 0)) (hM1 : 12 ≤ M) (hM2 : M ≤ 65535) (ht : t0 + p.length ≤ 100000000) (hL : (l0 ++ p).length ≤ 1000000) :
    Calls Tryd.prog 20 #[.pointer (some ⟨r, 0, none⟩), bv] w (PushFPost w o0 r (t0 + p.length) M (l0 ++ p)) := by
  have HM := Lib.hid (fun W (hb : Below w.heap.size w W) => made_yes (h.below hb).self)
  have hlt := h.lt
  have hold : ∀ g, o0 = some g → g < w.heap.size ∧ g ≠ r := fun g hg => by
    obtain ⟨cs, _, _, _, hB⟩ := h
    exact ⟨(hB.row g hg).2, (hB.row g hg).1⟩
  obtain ⟨a, c, rfl, _⟩ := id hv
  rw [iz_len] at hv ⊢
  have bw3 : Below w.heap.size w (((w.alloc (.cells #[.pointer (some ⟨r, 0, none⟩)] 33)).alloc (.cells #[.slice none 0 0] 31)).alloc (.cells #[.int .i64 0] 25)) :=
    (((Below.refl _ w).alloc (Nat.le_refl _) _).alloc (by simp) _).alloc (by simp; omega) _
  have c5 := (h.below bw3).brk
  have HH := Lib.hid h
  have HV := Lib.hid hv
  have HO := Lib.hid hold
  have HS := Lib.hid hst
  clear h hv hold hst
  refine calls_of_wp_marks Tryd.func20 rfl ?_
  simp only [Tryd.ntmps20, List.size_toArray, List.length_cons, List.length_nil, Nat.reduceAdd, Nat.reduceSub, Array.replicate_succ,
     Array.replicate_zero, List.push_toArray, List.append_toArray, List.nil_append, List.cons_append]
  go_wp2_with fail
  refine (HM.out _ bw3).mono ?_
  rintro e w1 ⟨rfl, rfl⟩
  go_wp2_with fail
  refine (messages_any _ r p.length c a).mono ?_
  rintro e w1 ⟨rfl, rfl⟩
  go_wp2_with fail
  obtain ⟨W6, hW6⟩ : ∃ W, ((((((w.alloc (.cells #[.pointer (some ⟨r, 0, none⟩)] 33)).alloc (.cells #[.slice none 0 0] 31)).alloc (.cells #[.int .i64 0] 25)).alloc (.cells #[.slice none 0 0] 31)).alloc (.cells #[.pointer (some ⟨r, 0, none⟩)] 33)).alloc (.cells #[.slice a p.length c] 22)) = W := ⟨_, rfl⟩
  have H6 : Below w.heap.size w W6 ∧ W6.heap.size = w.heap.size + 6 ∧ Bx W6 w.heap.size (.pointer (some ⟨r, 0, none⟩)) ∧ Bx W6 (w.heap.size + 1) (.slice none 0 0) ∧ Bx W6 (w.heap.size + 2) (.int .i64 0) ∧ Bx W6 (w.heap.size + 3) (.slice none 0 0) ∧ Bx W6 (w.heap.size + 4) (.pointer (some ⟨r, 0, none⟩)) ∧ Bx W6 (w.heap.size + 5) (.slice a p.length c) := by
    rw [← hW6]
    refine ⟨(((bw3.alloc (by simp; omega) _).alloc (by simp; omega) _).alloc (by simp; omega) _), by simp, ?_, ?_, ?_, ?_, ?_, ?_⟩
    all_goals (unfold Bx; constructor <;> simp [go_sem])
  rw [hW6]
  have H6h := Lib.hid H6
  clear H6 hW6 HM c5 bw3
  apply wp_rangeFunc_W (D := w.heap.size + 6) (hD := H6h.out.2.1) (s0 := ([], o0)) (lb := #[.pointer (some ⟨w.heap.size + 5, 0, none⟩), .pointer (some ⟨w.heap.size + 4, 0, none⟩)]) (hg := rfl) (eg := by intros; rfl) (hseq := iter_any (w.heap.size + 8) r (w.heap.size + 4) (w.heap.size + 5) k M (t0 + p.length) t0 o0 l0 p (l0 ++ p) HS.out rfl hM1 hM2 ht)
    (I := PI w r o0) (Ix := PX w r o0 M (l0 ++ p))
  case hassign =>
    intro l s x W K _ hK
    simp only [encF]
    gi_wp2
    exact hK
  case hSt =>
    intro B hb hs
    have hA : Aside (fun _ => False) W6 B := Aside.of_all hb
    obtain ⟨h1, h2, h3, h4, h5, h6, h7, h8⟩ := H6h.out
    refine ⟨⟨_, (h7.aside hA fun h => h).1, (h8.aside hA fun h => h).1, (h8.aside hA fun h => h).2, sl_apart HV.out ((Aside.of_all (G := fun _ => False) h1).trans hA) hk fun h => h, HH.out.aside (G := fun _ => False) ((Aside.of_all h1).trans hA) (fun h => h) fun _ _ h => h, Nat.le_refl _, by omega, ⟨by omega, by omega, hkr.symm, by omega, by omega, by omega⟩, ⟨fun e => ?_, fun e => ?_, hko⟩⟩, by omega⟩
    · have := (HO.out _ e).1; omega
    · have := (HO.out _ e).1; omega
  case hps => intro y; rfl
  case hK =>
    intro s A b hI hs hK
    rcases hK with e | e | e | e | e
    · have := hI.rlt; omega
    · omega
    · omega
    · omega
    · have := hI.olt b e
      have h2 := hI.off b e
      rcases h2 with h2 | h2
      · have := hI.old b h2; omega
      · omega
  case hstep => intro s A s' B hI hs hp; exact hI.step hs hp
  case hput => intro s A o hI hs; exact hI.put hs o
  case hputx => intro c A o hx; exact hx.put hlt _ (by omega) (by omega) o
  case h0 =>
    intro B hb hs
    have hA : Aside (fun _ => False) W6 B := Aside.of_all hb
    obtain ⟨h1, h2, h3, h4, h5, h6, h7, h8⟩ := H6h.out
    exact ⟨h3.aside hA fun h => h, h4.aside hA fun h => h, h5.aside hA fun h => h, ⟨_, [], h6.aside hA fun h => h, ToldN.nil _ _ _⟩, fun g hg => .inl hg, fun g hg => by have := (HO.out g hg).1; omega, ((Aside.of_all h1).trans (hA.mono fun _ _ h => h.elim)), hlt, fun g hg => (HO.out g hg).1⟩
  case hbody =>
    rintro l ⟨ls, o⟩ ⟨xv, xm, xe⟩ W V ob hY hI hs hV hIV
    rcases hY with ⟨he, hO, hX, hlen, hml, ll, t, htT, hR⟩ | ⟨he, hxv, hrun, ll, t, htT, hR⟩
    · simp only at he hO hX hlen hml hR
      subst he
      obtain ⟨v, us, hb3, hT⟩ := hIV.row
      have hsV : w.heap.size + 6 + 2 ≤ V.heap.size := by rw [hV]; simpa using hs
      have haV : Aside (fun j => j = w.heap.size + 6 + 1) W V := by rw [hV]; exact Aside.putObj _ _ rfl
      have no7 : o ≠ some (w.heap.size + 6 + 1) := fun e => by
        rcases hI.off _ e with h | h
        · have := hI.old _ h; omega
        · omega
      have hRV := hR.aside haV (by have := hI.rlt; omega) (fun g hg e => no7 (e ▸ hg))
      have hOV := hO.aside haV fun b hb e => by have := (hO.lt b hb).1; omega
      obtain ⟨xa, xc, hxs⟩ := hOV.shape
      subst hxs
      obtain ⟨va, vc, hvs⟩ := hT.told.row.shape
      subst hvs
      have hul : us.length = ls.length := hT.told.len
      have hvo : ∀ b, (Value.slice va us.length vc).ownBlock = some b → w.heap.size + 8 ≤ b ∧ o ≠ some b := fun b hb => ⟨(OwnZ.lt hT.told.row b hb).1, fun e => hT.row b hb e⟩
      obtain ⟨a2, c2, X4, r4, hT4, hA4⟩ := told_add hT hOV (fun b hb e => hX b hb (.inr (.inr (.inr (.inr e))))) (by omega) (by omega) (fun b hb => .inr (hRV.typed b hb))
      have HF := Lib.hid (hIV.told hsV hk hb3 hvo hA4 hT4)
      have q3 := hb3.1
      have q3f := hb3.2
      have hX4 := Lib.hid (hb3.aside hA4 fun e => by have := (hvo _ e).1; omega)
      have q4 := hX4.out.1
      have q4f := hX4.out.2
      clear hul hT4 hA4 hT hOV hRV hR hO hX hvo hI hIV hV haV
      gi_wp2_with (gi_at_builtin; refine wpListIn_appF (.tmp 32) (.tmp 34) 31 31 rfl rfl rfl rfl r4 ?_)
      exact ⟨rfl, HF.out⟩
    · simp only at he hxv hrun hR
      subst hxv
      obtain ⟨v, us, hb3, hT⟩ := hIV.row
      have hsV : w.heap.size + 6 + 2 ≤ V.heap.size := by rw [hV]; simpa using hs
      have haV : Aside (fun j => j = w.heap.size + 6 + 1) W V := by rw [hV]; exact Aside.putObj _ _ rfl
      have no7 : o ≠ some (w.heap.size + 6 + 1) := fun e => by
        rcases hI.off _ e with h | h
        · have := hI.old _ h; omega
        · omega
      have hRV := hR.aside haV (by have := hI.rlt; omega) (fun g hg e => no7 (e ▸ hg))
      obtain ⟨va, vc, hvs⟩ := hT.told.row.shape
      subst hvs
      have heb : (xe != 0) = true := by simpa using he
      have q0 := hIV.rb.1
      have q3 := hb3.1
      have HT := Lib.hid hT
      have HRV := Lib.hid hRV
      have HIV := Lib.hid hIV
      have HRUN := Lib.hid hrun
      obtain ⟨cs, g0, g1, g5, a5, n5, c5, off5, lr5, zs5, ⟨d2, d3, d4, d5⟩, _⟩ := hRV
      have f2 := (d5 2).1
      have f3 := (d5 3).1
      have f4 := (d5 4).1
      have f5 := (d5 5).1
      have e5 := HRV.out.brk
      clear hT hIV hrun hR hI hV haV d5 he
      gi_wp2_with fail
      apply once_for
      · intro KEY
        gi_region
        all_goals with_reducible exact KEY
      · obtain ⟨hRB, hAB⟩ := HRV.out.brake
        obtain ⟨V1, hV1⟩ : ∃ W, ((((V.setCell ⟨r, 2, none⟩ (.slice none 0 0)).setCell ⟨r, 3, none⟩ (.int .i64 0)).setCell ⟨r, 4, none⟩ (.int .i8 0)).setCell ⟨r, 5, none⟩ (.bool true)).drew = W := ⟨_, rfl⟩
        rw [hV1] at hRB hAB ⊢
        obtain ⟨⟨x1, y1⟩, ⟨x2, y2⟩, ⟨x3, y3⟩, hDD, hPX⟩ := HIV.out.brake hsV hb3 HT.out (by simpa using heb) HRUN.out hRB hAB
        have HF := Lib.hid (And.intro hDD hPX)
        clear hRB hAB hV1 hDD hPX q0 q3 f2 f3 f4 f5 e5 d2 d3 d4
        gi_wp2_with fail
        exact HF.out
  case hdone =>
    rintro ⟨ls, o⟩ W V ob hI hF hs hV hIV hD
    obtain ⟨v, us, hb3, hT⟩ := hIV.row
    have hsV : w.heap.size + 6 + 2 ≤ V.heap.size := by rw [hV]; simpa using hs
    have hFV : FinF r M (l0 ++ p) (t0 + p.length) (ls, o) V := by
      obtain ⟨l', h1, t, h2, h3⟩ := hF
      refine ⟨l', h1, t, h2, h3.aside (G := fun j => j = w.heap.size + 6 + 1) (by rw [hV]; exact Aside.putObj _ _ rfl) (by omega) fun g hg e => ?_⟩
      rcases hI.off g hg with h | h
      · have := hI.old g h; omega
      · omega
    obtain ⟨va, vc, hvs⟩ := hT.told.row.shape
    subst hvs
    have HF := hIV.fin hsV hb3 hT hFV hD
    have q3 := hb3.1
    have q1 := hIV.b1.1
    have q1f := hIV.b1.2
    have q2 := (hIV.b2.aside (G := fun b => b = w.heap.size + 1) (Aside.setCell V (p := ⟨w.heap.size + 1, 0, none⟩) (.slice va us.length vc) rfl) (by omega)).1
    have q2f := (hIV.b2.aside (G := fun b => b = w.heap.size + 1) (Aside.setCell V (p := ⟨w.heap.size + 1, 0, none⟩) (.slice va us.length vc) rfl) (by omega)).2
    clear hT hFV hI hF hV hIV hD
    go_wp2_with fail
    obtain ⟨Wf, hWf, hDf, hr1, hr2, hP⟩ := HF.out
    refine marks_ret (D := w.heap.size + 6) (by rw [← hDf, hWf]) (.tuple #[.slice va us.length vc, .int .i64 0]) ?_ (by rw [← hWf]; exact hP)
    rw [← hWf]
    simp [results, Tryd.results20, go_sem, hr1, hr2]
  case hstop =>
    rintro c W hX hD
    obtain ⟨rfl, v, E, h1, h2, h3⟩ := hX.fin (T := t0 + p.length) hlt
    refine wp_ret (marks_ret hD (.tuple #[v, .int .i64 E]) (by simp [results, Tryd.results20, go_sem, h1, h2]) h3)
end Go.Proofs.YtlkafakanoefmaaDoor

/-
  The landed Put.
-/
namespace Go.Proofs.YtlkafakanoefmaaDoor
open Go.RowKit Go.Shelf
set_option linter.unusedVariables false
set_option linter.unusedSimpArgs false
set_option maxRecDepth 100000

set_option maxHeartbeats 1000000 in
theorem put_no {w : World} {lo hi : Nat} {bv : Value} {l : List UInt8} (h : Sl w lo hi bv (iz l)) (h1 : l.length < 12 ∨ 65535 < l.length) (E : Int) (hE : E = if l.length < 12 then 4 else 3) :
    Calls Tryd.prog 11 #[bv] w fun e w' => e = .returned (.tuple #[.slice none 0 0, .int .i64 E]) ∧ w' = w := by
  obtain ⟨a, c, rfl, _⟩ := h
  rw [iz_len]
  have hf : fitsF l.length 65535 = E := by
    rw [hE]; unfold fitsF
    by_cases h2 : l.length < 12
    · rw [if_pos (by omega), if_pos h2]
    · rw [if_neg (by omega), if_pos (by omega), if_neg h2]
  have HF := Lib.hid (fits_any w l.length 65535)
  rw [hf] at HF
  have hne : (E != 0) = true := by rw [hE]; split <;> rfl
  clear hf hE h1
  go_enter Tryd.func11, Tryd.ntmps11
  go_wp2_with fail
  refine HF.out.mono ?_; rintro e w1 ⟨rfl, rfl⟩
  go_wp2_with fail
  go_ret2
  exact ⟨rfl, rfl⟩

set_option maxHeartbeats 1000000 in
theorem put_ok {w : World} {lo hi : Nat} {bv : Value} {l : List UInt8} (h : Sl w lo hi bv (iz l)) (h1 : 12 ≤ l.length) (h2 : l.length ≤ 65535) :
    Calls Tryd.prog 11 #[bv] w fun e w' => ∃ v, e = .returned (.tuple #[v, .int .i64 0]) ∧ OwnB w' w.heap.size v (frmF l) ∧ Below w.heap.size w w' := by
  have HS := Lib.hid h
  obtain ⟨a, c, rfl, _⟩ := h
  rw [iz_len] at HS ⊢
  have hf : fitsF l.length 65535 = 0 := by unfold fitsF; rw [if_neg (by omega), if_neg (by omega)]
  have HF0 := Lib.hid (fits_any w l.length 65535)
  rw [hf] at HF0
  have hx : (UInt8.ofNat (l.length / 256)).toNat = l.length / 256 := by rw [UInt8.toNat_ofNat']; omega
  have hy : (UInt8.ofNat (l.length % 256)).toNat = l.length % 256 := by rw [UInt8.toNat_ofNat']; omega
  have hrow : (rowB [UInt8.ofNat (l.length / 256), UInt8.ofNat (l.length % 256)] 2).toArray = #[Value.int .u8 ((l.length : Int) / 256), Value.int .u8 ((l.length : Int) % 256)] := by
    unfold rowB ub
    simp only [List.map_cons, List.map_nil, List.length_cons, List.length_nil, Nat.zero_add, Nat.reduceAdd, Nat.sub_self, List.replicate_zero, List.append_nil, hx, hy]
    push_cast
    rfl
  have o1 : OwnB (w.alloc (.cells #[Value.int .u8 ((l.length : Int) / 256), Value.int .u8 ((l.length : Int) % 256)] 5)) w.heap.size (.slice (some ⟨w.heap.size, 0, none⟩) 2 2) [UInt8.ofNat (l.length / 256), UInt8.ofNat (l.length % 256)] :=
    .inr ⟨w.heap.size, 2, (0, 0), rfl, Nat.le_refl _, Nat.le_refl _, by unfold maxLen; omega, .inl rfl, by rw [hrow]; exact heap_alloc_new w _⟩
  have b1 : Below w.heap.size w (w.alloc (.cells #[Value.int .u8 ((l.length : Int) / 256), Value.int .u8 ((l.length : Int) % 256)] 5)) := (Below.refl _ _).alloc (Nat.le_refl _) _
  obtain ⟨a1, c1, X2, r1, o2, g2⟩ := run_appBs w.heap.size _ _ _ l o1 (HS.out.later b1) (by simp; omega) (by simp)
  have b2 : Below w.heap.size w X2 := b1.trans (g2.below fun k hk => ⟨by simp; omega, fun e => by have e2 : w.heap.size = k := (by injection e); omega⟩)
  have HF := Lib.hid (And.intro (show OwnB X2 w.heap.size _ (frmF l) from o2) b2)
  clear o1 o2 b1 b2 g2 hrow hx hy hf
  go_enter Tryd.func11, Tryd.ntmps11
  go_wp2_with fail
  refine HF0.out.mono ?_; rintro e w1 ⟨rfl, rfl⟩
  go_wp2_with (at_builtin; refine Lib.wpList_append_run _ rfl _ _ _ _ rfl _ _ rfl rfl _ _ r1 ?_)
  go_ret2
  exact ⟨_, rfl, HF.out⟩
end Go.Proofs.YtlkafakanoefmaaDoor

/-
  The law's awake.
-/
namespace Go.Proofs.YtlkafakanoefmaaDoor
open Go.RowKit Go.Shelf
set_option linter.unusedVariables false
set_option linter.unusedSimpArgs false
set_option maxRecDepth 100000

theorem OwnB.in_ {w : World} {B k : Nat} {v : Value} {l : List UInt8} (h : OwnB w B v l) (hk : v.ownBlock = some k) : Sl w k (k + 1) v (iz l) := by
  have hc := h.cells hk
  rcases h with ⟨rfl, _⟩ | ⟨g, cap, fz, rfl, hB, hl, _, _, hh⟩
  · cases hk
  · have e : g = k := by injection hk
    subst e
    refine ⟨_, cap, by rw [iz_len], by rw [iz_len]; exact hl, fun h => by simp at h, fun h0 => ⟨g, 0, rfl, Nat.le_refl _, by omega, fun j hj => ?_⟩⟩
    rw [iz_len] at hj
    rw [Nat.zero_add, hc j hj, iz_get l j hj, List.getD, List.getElem?_eq_getElem hj]
    rfl

/-- A reader stays as it is where the blocks that turn are newer. -/
theorem Rr.later {w w' : World} {o : Option Nat} {r t M : Nat} {l : List UInt8} {out : Bool} (h : Rr w o r t M l out) (hb : Below w.heap.size w w') : Rr w' o r t M l out := h.below hb

theorem PushFPost.below {w w' : World} {o0 : Option Nat} {r T M B : Nat} {L : List UInt8} {e : Ending} (hr : B ≤ r) (ho : ∀ g, o0 = some g → B ≤ g) (hB : B ≤ w.heap.size) (ha : Aside (fun j => j = r ∨ o0 = some j) w w') : Below B w w' :=
  ha.below fun k hk => ⟨by omega, fun h => by
    rcases h with h | h
    · omega
    · have := ho k h; omega⟩

theorem sl_len3 {w : World} {lo hi n c m : Nat} {a : Option Addr} {l : List UInt8} (h : Sl w lo hi (.slice a n c) (iz l)) (hl : l.length = m) : n = m := by
  obtain ⟨_, _, he, _⟩ := h
  injection he with _ h2 _
  rw [h2, iz_len, hl]

theorem tw_facts : (frmF tw12).length = 14 ∧ ((frmF tw12).getD 1 0).toNat = 12 ∧ runF 12 ((frmF tw12).take 3) = ([], (frmF tw12).take 3, 0) ∧ ((frmF tw12).take 3).length = 3 ∧ wantF ((frmF tw12).take 3) = 11 := by
  refine ⟨by decide, by decide, runF_wait _ _ (by decide) (by decide) (by decide) (by decide), by decide, by decide⟩

set_option maxHeartbeats 4000000 in
theorem awake_any (w : World) : Calls Tryd.prog 9 #[] w fun e w' => e = .returned (.bool true) ∧ Below w.heap.size w w' := by
  obtain ⟨f1, f2, f3, f4, f5⟩ := tw_facts
  have H12 := Lib.hid (twelve_any w)
  have F2 := Lib.hid f2
  have F3 := Lib.hid f3
  have F4 := Lib.hid f4
  have F5 := Lib.hid f5
  clear f2 f3 f4 f5
  go_enter Tryd.func9, Tryd.ntmps9
  go_wp2_with fail
  refine H12.out.mono ?_; rintro e w1 ⟨v1, rfl, o1, b1⟩
  have HP := Lib.hid (put_ok o1.sl (by decide) (by decide))
  have B1 := Lib.hid b1
  clear o1 b1
  go_wp2_with fail
  refine HP.out.mono ?_; rintro e w2 ⟨v2, rfl, o2, b2⟩
  have B2 := Lib.hid (B1.out.trans (b2.mono B1.out.size))
  obtain ⟨g, c, rfl, hg⟩ := o2.some_ (by rw [f1]; decide)
  rw [f1] at hg o2 ⊢
  have O2 := Lib.hid o2
  clear o2 b2 B1
  have HN := Lib.hid (new_ok w2 12 (by decide) (by decide))
  go_wp2_with fail
  refine HN.out.mono ?_; rintro e w3 ⟨rfl, r3, b3⟩
  have B3 := Lib.hid (B2.out.trans (b3.mono B2.out.size))
  have R3 := Lib.hid r3
  have O3 := Lib.hid (O2.out.below b3)
  have d1 := O3.out.cells hg 1 (by rw [f1]; decide)
  rw [F2.out] at d1
  have hgl := (O2.out.lt g hg).2
  have hs3 := b3.size
  have hBs := B2.out.size
  have hgB := (O2.out.lt g hg).1
  clear r3 b3
  have hin := O3.out.in_ hg
  have hin2 : Sl w3 g (g + 1) (.slice (some ⟨g, 0, none⟩) (frmF tw12).length c) (iz (frmF tw12)) := by rw [f1]; exact hin
  obtain ⟨sa, sn, sc, hcut, hcs⟩ := upto_sl hin2 rfl (show 3 ≤ (frmF tw12).length by rw [f1]; decide)
  rw [f1] at hcut
  have hlt3 : w2.heap.size < w3.heap.size := R3.out.lt
  have HPU := Lib.hid (push_any R3.out hcs (by omega) (by omega) (by simp) (runF_nil 12) (by decide) (by decide) (by rw [F4.out]; decide) (by rw [List.nil_append, F4.out]; decide))
  rw [List.nil_append] at HPU
  unfold PushFPost at HPU
  rw [F3.out, F4.out] at HPU
  have hsn : sn = 3 := sl_len3 hcs F4.out
  subst hsn
  have hcut3 : ∀ wx, (Instr.slice 22 (.slice (some ⟨g, 0, none⟩) 14 c) none (some (.int .i64 3)) none).run Tryd.prog wx = .ok (.slice sa 3 sc) wx := hcut
  clear hcs hin hin2 f1 hcut
  go_wp2_with fail
  refine HPU.out.mono ?_; rintro e w4 ⟨v4, us4, o4, rfl, hT4, r4, ho4, ha4⟩
  obtain ⟨x1, x2, hv4⟩ := hT4.told.row.shape
  have hul : us4.length = 0 := hT4.told.len
  rw [hul] at hv4
  subst hv4
  have R4 := Lib.hid r4
  have B4 := Lib.hid (B3.out.trans (PushFPost.below (e := .outgrown) (L := []) (T := 0) (M := 0) (B := w.heap.size) (by omega) (fun g hg => by simp at hg) (by omega) ha4))
  clear hT4 r4 ho4 ha4 hul HPU
  have HW := Lib.hid (want_rr R4.out (by rw [F4.out]; decide))
  rw [F5.out] at HW
  go_wp2_with fail
  refine HW.out.mono ?_; rintro e w5 ⟨rfl, n5, rfl⟩
  have HL := Lib.hid (left_any (R4.out.drewN n5))
  rw [F4.out] at HL
  go_wp2_with fail
  refine HL.out.mono ?_; rintro e w6 ⟨rfl, n6, rfl⟩
  go_wp2_with fail
  go_ret
  exact ⟨rfl, below_drewN B4.out _⟩
end Go.Proofs.YtlkafakanoefmaaDoor

/-
  The law FramePuts.
-/
namespace Go.Proofs.YtlkafakanoefmaaDoor
open Go.RowKit Go.Shelf
set_option linter.unusedVariables false
set_option linter.unusedSimpArgs false
set_option maxRecDepth 100000

/-- Put's error, and its bytes. -/
def putE (l : List UInt8) : Int := if l.length < 12 then 4 else if 65535 < l.length then 3 else 0
def putB (l : List UInt8) : List UInt8 := if 12 ≤ l.length ∧ l.length ≤ 65535 then frmF l else []

def PutP (w : World) (l : List UInt8) (e : Ending) (w' : World) : Prop := ∃ v, e = .returned (.tuple #[v, .int .i64 (putE l)]) ∧ OwnB w' w.heap.size v (putB l) ∧ Below w.heap.size w w'

theorem put_any {w : World} {lo hi : Nat} {bv : Value} {l : List UInt8} (h : Sl w lo hi bv (iz l)) : Calls Tryd.prog 11 #[bv] w (PutP w l) := by
  by_cases h1 : 12 ≤ l.length ∧ l.length ≤ 65535
  · refine (put_ok h h1.1 h1.2).mono ?_
    rintro e w' ⟨v, rfl, h2, h3⟩
    refine ⟨v, by unfold putE; rw [if_neg (by omega), if_neg (by omega)], by unfold putB; rw [if_pos h1]; exact h2, h3⟩
  · refine (put_no h (by omega) _ rfl).mono ?_
    rintro e w' ⟨rfl, rfl⟩
    refine ⟨.slice none 0 0, ?_, ?_, Below.refl _ _⟩
    · unfold putE
      by_cases h2 : l.length < 12
      · rw [if_pos h2, if_pos h2]
      · rw [if_neg h2, if_neg h2, if_pos (by omega)]
    · unfold putB; rw [if_neg h1]; exact OwnB.nil _ _

theorem putR_any {w : World} {lo hi : Nat} {bv : Value} {l : List UInt8} (h : Sl w lo hi bv (iz l)) : Calls Tryd.prog 12 #[bv] w (PutP w l) := by
  by_cases h1 : l.length < 12
  · refine (putR_low h h1).mono ?_
    rintro e w' ⟨rfl, rfl⟩
    refine ⟨.slice none 0 0, by unfold putE; rw [if_pos h1], by unfold putB; rw [if_neg (by omega)]; exact OwnB.nil _ _, Below.refl _ _⟩
  · by_cases h2 : 65535 < l.length
    · refine (putR_high h h2).mono ?_
      rintro e w' ⟨rfl, rfl⟩
      refine ⟨.slice none 0 0, by unfold putE; rw [if_neg h1, if_pos h2], by unfold putB; rw [if_neg (by omega)]; exact OwnB.nil _ _, Below.refl _ _⟩
    · refine (putR_ok h (by omega) (by omega)).mono ?_
      rintro e w' ⟨v, rfl, h2, h3⟩
      refine ⟨v, by unfold putE; rw [if_neg (by omega), if_neg (by omega)], by unfold putB; rw [if_pos (by omega)]; exact h2, h3⟩

theorem putB_len (l : List UInt8) : (putB l).length ≤ 65537 := by
  unfold putB
  split
  · rename_i h
    have : (frmF l).length = l.length + 2 := by unfold frmF; simp
    omega
  · simp

theorem LentAt.at_sl {w : World} {g : Nat} {l : List UInt8} (h : LentAt w g (iz l)) : Sl w g (g + 1) (.slice (some ⟨g, 0, none⟩) l.length (l.length + 3)) (iz l) := by
  have := LentAt.in_ h
  rwa [iz_len] at this

set_option maxHeartbeats 4000000 in
theorem puts_any {w : World} {v : Value} {l : List UInt8} (h : Sl w 0 w.heap.size v (iz l)) (hl : l.length ≤ 9223372036854775807) :
    Calls Tryd.prog 3 #[v] w fun e w' => e = .returned (.bool true) ∧ Below w.heap.size w w' := by
  have HA := Lib.hid awake_any
  have HS := Lib.hid h
  obtain ⟨a, c, rfl, _⟩ := h
  rw [iz_len] at HS ⊢
  by_cases hbig : 70000 < l.length
  · have t1 : (70000 : Int) < l.length := by omega
    go_enter Tryd.func3, Tryd.ntmps3
    go_wp2_with fail
    refine (HA.out _).mono ?_; rintro e w1 ⟨rfl, b1⟩
    have B1 := Lib.hid b1
    clear b1
    go_wp2_with fail
    go_ret
    exact ⟨rfl, B1.out⟩
  · have t1 : ¬ (70000 : Int) < l.length := by omega
    have HL := Lib.hid (lent_any HS.out (by rw [iz_len]; omega))
    unfold LentPost at HL
    rw [iz_len] at HL
    obtain ⟨E, hE⟩ : ∃ E, putE l = E := ⟨_, rfl⟩
    obtain ⟨B, hB⟩ : ∃ B, putB l = B := ⟨_, rfl⟩
    have hBl := putB_len l
    rw [hB] at hBl
    go_enter Tryd.func3, Tryd.ntmps3
    go_wp2_with fail
    refine HL.out.mono ?_; rintro e w1 ⟨rfl, b1, ll1⟩
    have HP1 := Lib.hid (put_any (w := w1) ll1.at_sl)
    unfold PutP at HP1
    rw [hE, hB] at HP1
    have hs1 : w.heap.size < w1.heap.size := (Array.getElem?_eq_some_iff.mp ll1).1
    have B1 := Lib.hid b1
    have L1 := Lib.hid ll1
    clear b1 ll1
    go_wp2_with fail
    refine HP1.out.mono ?_; rintro e w2 ⟨v2, rfl, o2, b2⟩
    obtain ⟨a2, c2, hv2⟩ := o2.shape
    subst hv2
    have B2 := Lib.hid (B1.out.trans (b2.mono (by omega)))
    have L2 := Lib.hid (show LentAt w2 w.heap.size (iz l) from (b2.block _ hs1).trans L1.out)
    have O2 := Lib.hid o2
    have hs2 := b2.size
    have HP2 := Lib.hid (putR_any (w := w2) (HS.out.below B2.out (Nat.le_refl _)))
    unfold PutP at HP2
    rw [hE, hB] at HP2
    clear o2 b2
    go_wp2_with fail
    refine HP2.out.mono ?_; rintro e w3 ⟨v3, rfl, o3, b3⟩
    obtain ⟨a3, c3, hv3⟩ := o3.shape
    subst hv3
    have B3 := Lib.hid (B2.out.trans (b3.mono (by omega)))
    have L3 := Lib.hid (show LentAt w3 w.heap.size (iz l) from (b3.block _ (by omega)).trans L2.out)
    have O23 := Lib.hid (O2.out.below b3)
    have O3 := Lib.hid o3
    have hs3 := b3.size
    have HP3 := Lib.hid (put_any (w := w3) L3.out.at_sl)
    unfold PutP at HP3
    rw [hE, hB] at HP3
    clear o3 b3
    go_wp2_with fail
    refine HP3.out.mono ?_; rintro e w4 ⟨v4, rfl, o4, b4⟩
    obtain ⟨a4, c4, hv4⟩ := o4.shape
    subst hv4
    have B4 := Lib.hid (B3.out.trans (b4.mono (by omega)))
    have L4 := Lib.hid (show LentAt w4 w.heap.size (iz l) from (b4.block _ (by omega)).trans L3.out)
    have O24 := Lib.hid (O23.out.below b4)
    have O34 := Lib.hid (O3.out.below b4)
    have O4 := Lib.hid o4
    have hs4 := b4.size
    have HOV := Lib.hid (over_B O24.out)
    clear o4 b4
    go_wp2_with fail
    refine HOV.out.mono ?_; rintro e w5 ⟨rfl, ha5⟩
    have hx2 : ∀ b, (Value.slice a2 B.length c2).ownBlock = some b → w1.heap.size ≤ b ∧ b < w2.heap.size := O2.out.lt
    have B5 := Lib.hid (B4.out.trans (ha5.below fun k hk => ⟨by omega, fun e => by omega⟩))
    have L5 := Lib.hid (show LentAt w5 w.heap.size (iz l) from (ha5.block _ (by omega) fun e => by omega).trans L4.out)
    have S3 := Lib.hid (O34.out.aside ha5 fun b hb e => by have := (O3.out.lt b hb).1; have := (hx2 b e.2).2; omega).sl
    have S4 := Lib.hid (O4.out.aside ha5 fun b hb e => by have := (O4.out.lt b hb).1; have := (hx2 b e.2).2; omega).sl
    have HSB := Lib.hid (same_any S4.out S3.out)
    have hs5 := ha5.size
    have HK := Lib.hid (kept_any (HS.out.below B5.out (Nat.le_refl _)) (by rw [iz_len]; omega) L5.out (by omega))
    unfold KeptPost at HK
    rw [iz_len] at HK
    clear ha5 hx2
    go_wp2_with fail
    refine HSB.out.mono ?_; rintro e w6 ⟨rfl, rfl⟩
    go_wp2_with fail
    refine HK.out.mono ?_; rintro e w6 ⟨rfl, b6⟩
    have B6 := Lib.hid (B5.out.trans (b6.mono (by omega)))
    clear b6
    go_wp2_with fail
    refine (HA.out _).mono ?_; rintro e w7 ⟨rfl, b7⟩
    have B7 := Lib.hid (B6.out.trans (b7.mono B6.out.size))
    clear b7
    go_wp2_with fail
    go_ret
    exact ⟨rfl, B7.out⟩
end Go.Proofs.YtlkafakanoefmaaDoor

/-
  The law FrameNone.
-/
namespace Go.Proofs.YtlkafakanoefmaaDoor
open Go.RowKit Go.Shelf
set_option linter.unusedVariables false
set_option linter.unusedSimpArgs false
set_option maxRecDepth 100000

set_option maxHeartbeats 4000000 in
theorem none_any {w : World} {n c : Nat} {a : Option Addr} (hn : n ≤ 9223372036854775807) :
    Calls Tryd.prog 5 #[.slice a n c] w fun e w' => e = .returned (.bool true) ∧ Below w.heap.size w w' := by
  have HA := Lib.hid awake_any
  by_cases hbig : 1000 < n
  · have t1 : (1000 : Int) < n := by omega
    go_enter Tryd.func5, Tryd.ntmps5
    go_wp2_with fail
    refine (HA.out _).mono ?_; rintro e w1 ⟨rfl, b1⟩
    have B1 := Lib.hid b1
    clear b1
    go_wp2_with fail
    go_ret
    exact ⟨rfl, B1.out⟩
  · have t1 : ¬ (1000 : Int) < n := by omega
    go_enter Tryd.func5, Tryd.ntmps5
    go_wp2_with fail
    obtain ⟨W2, hW2⟩ : ∃ W, ((w.alloc (.cells #[.pointer none, .int .i64 0, .slice none 0 0, .int .i64 0, .int .i8 0, .bool false] 51)).alloc (.cells #[.pointer none, .pointer (some ⟨w.heap.size, 0, none⟩)] 33)) = W := ⟨_, rfl⟩
    have H2 : Below w.heap.size w W2 ∧ W2.heap.size = w.heap.size + 2 ∧ W2.cell? ⟨w.heap.size, 0, none⟩ = some (.pointer none) ∧ W2.cell? ⟨w.heap.size + 1, 0, none⟩ = some (.pointer none) ∧ W2.cell? ⟨w.heap.size + 1, 1, none⟩ = some (.pointer (some ⟨w.heap.size, 0, none⟩)) := by
      rw [← hW2]
      refine ⟨((Below.refl _ w).alloc (Nat.le_refl _) _).alloc (by simp) _, by simp, ?_, ?_, ?_⟩ <;> simp [go_sem]
    rw [hW2]
    have HH := Lib.hid H2
    clear hW2 H2
    go_loopw [5, 6, 7] (fun i _ _ wr => ∃ k : Nat, k ≤ 2 ∧ i = .int .i64 k ∧ Hid (Below W2.heap.size W2 wr)) (fun i _ _ _ => 2 - (intOf i).toNat)
    case atStart => exact ⟨0, by omega, rfl, Below.refl _ _⟩
    case round =>
      obtain ⟨k, hk, rfl, HB⟩ := hrel
      obtain ⟨hb, hs, c0, c1, c2⟩ := HH.out
      have e0 := HB.out.cell (p := ⟨w.heap.size, 0, none⟩) (by simp; omega) |>.trans c0
      have e1 := HB.out.cell (p := ⟨w.heap.size + 1, 0, none⟩) (by simp; omega) |>.trans c1
      have e2 := HB.out.cell (p := ⟨w.heap.size + 1, 1, none⟩) (by simp; omega) |>.trans c2
      have hsr := HB.out.size
      by_cases h2 : k = 2
      · subst h2
        go_wp2_with fail
        refine (HA.out _).mono ?_; rintro e w1 ⟨rfl, b1⟩
        have B1 := Lib.hid ((HH.out.1.trans (HB.out.mono hb.size)).trans (b1.mono (by omega)))
        clear b1
        go_wp2_with fail
        go_ret
        exact ⟨rfl, B1.out⟩
      · obtain ⟨q, hq, hU⟩ : ∃ q, wr.cell? ⟨w.heap.size + 1, k, none⟩ = some (.pointer q) ∧ Unmade wr (.pointer q) := by
          by_cases h0 : k = 0
          · subst h0; exact ⟨_, e1, .inl rfl⟩
          · obtain rfl : k = 1 := by omega
            exact ⟨_, e2, .inr ⟨_, rfl, e0⟩⟩
        have hk2 : k < 2 := by omega
        have HU := Lib.hid hU
        have HP := Lib.hid (push_no (bv := .slice a n c) hU)
        clear e0 e1 e2 c0 c1 c2 hU h2 hb hs
        go_wp2_with fail
        refine HP.out.mono ?_; rintro e w1 ⟨rfl, b1⟩
        have hq1 := ((Aside.of_all (G := fun _ => False) b1).cell (World.block_lt_of_cell? wr _ hq) fun h => h).trans hq
        have hU1 : Unmade w1 (.pointer q) := by
          rcases HU.out with h | ⟨r, h, h'⟩
          · exact .inl h
          · exact .inr ⟨r, h, ((Aside.of_all (G := fun _ => False) b1).cell (World.block_lt_of_cell? wr _ h') fun h => h).trans h'⟩
        have HL := Lib.hid (left_no hU1)
        have HW := Lib.hid (want_no hU1)
        have HBr := Lib.hid (broken_no hU1)
        have HB1 := Lib.hid (HB.out.trans (b1.mono hsr))
        clear hU1 b1
        go_wp2_with fail
        refine HL.out.mono ?_; rintro e w2 ⟨rfl, rfl⟩
        go_wp2_with fail
        refine HW.out.mono ?_; rintro e w3 ⟨rfl, rfl⟩
        go_wp2_with fail
        refine HBr.out.mono ?_; rintro e w4 ⟨rfl, rfl⟩
        go_wp2_with fail
        refine ⟨⟨k + 1, by omega, by go_num, HB1⟩, ?_⟩
        simp [intOf]; omega
end Go.Proofs.YtlkafakanoefmaaDoor

/-
  CopyBytes.
-/
namespace Go.Proofs.YtlkafakanoefmaaDoor
open Go.RowKit
set_option linter.unusedVariables false
set_option maxRecDepth 100000

def CopyPost (w : World) (l : List Int) (e : Ending) (w' : World) : Prop := ∃ v, e = .returned v ∧ OwnR w' w.heap.size v l ∧ Below w.heap.size w w'

set_option maxHeartbeats 1000000 in
theorem copy_any {w : World} {lo hi : Nat} {v : Value} {l : List Int} (h : Sl w lo hi v l) (hl : l.length ≤ 900000) : Calls Tryd.prog 19 #[v] w (CopyPost w l) := by
  have hb1 : Below w.heap.size w (w.alloc (.cells #[] 5)) := (Below.refl _ _).alloc (Nat.le_refl _) _
  have hs1 : Sl (w.alloc (.cells #[] 5)) lo hi v l := by
    obtain ⟨a, c, rfl, hc, hn, hp⟩ := h
    exact ⟨a, c, rfl, hc, hn, fun h0 => by
      obtain ⟨b, off, rfl, h1, h2, hx⟩ := hp h0
      exact ⟨b, off, rfl, h1, h2, fun j hj => cell_later hb1 (hx j hj)⟩⟩
  have HS := Lib.hid hs1
  have HB := Lib.hid hb1
  clear h hs1 hb1
  go_enter Tryd.func19, Tryd.ntmps19
  go_wp2_with (at_builtin; refine wpList_app rfl (.tmp 3) (.tmp 4) rfl w.heap.size lo hi _ v [] l rfl rfl ?c1 HS.out ?c2 ?c3 ?_)
  case c1 => exact World.ownsRow_made w #[] 0 (Nat.le_refl _) (by decide) (by simp)
  case c2 => simp; omega
  case c3 => simp
  intro v' w1 HO HB1
  have HB2 := Lib.hid (HB.out.trans HB1.out)
  clear HB HB1 HS
  go_wp2_with fail
  go_ret
  exact ⟨v', rfl, HO.out, HB2.out⟩
end Go.Proofs.YtlkafakanoefmaaDoor

/-
  The law FrameKnown.
-/
namespace Go.Proofs.YtlkafakanoefmaaDoor
open Go.RowKit Go.Shelf
set_option linter.unusedVariables false
set_option linter.unusedSimpArgs false
set_option maxRecDepth 100000

theorem Sl.one {w : World} {lo hi : Nat} {v : Value} {l : List Int} (h : Sl w lo hi v l) (h0 : lo < hi) : ∃ k, lo ≤ k ∧ k < hi ∧ Sl w k (k + 1) v l := by
  obtain ⟨a, c, rfl, h1, h2, h3⟩ := h
  by_cases hl : 0 < l.length
  · obtain ⟨b, o, rfl, h4, h5, h6⟩ := h3 hl
    exact ⟨b, h4, h5, _, c, rfl, h1, h2, fun _ => ⟨b, o, rfl, Nat.le_refl _, by omega, h6⟩⟩
  · exact ⟨lo, Nat.le_refl _, h0, _, c, rfl, h1, h2, fun h => absurd h hl⟩

/-- append of two bytes. -/
theorem app2_run {w : World} {B : Nat} {v : Value} {l : List Int} (h : OwnR w B v l) (x y : Int) (hl : l.length + 2 ≤ 1000000) (hB : B ≤ w.heap.size) :
    ∃ v' w', (Builtin.append_ #[22, 22] 22 #[v, .slice (some ⟨w.heap.size, 0, none⟩) 2 2]).run Tryd.prog (w.alloc (.cells #[.int .u8 x, .int .u8 y] 5)) = .ok v' w' ∧ OwnR w' B v' (l ++ [x, y]) ∧ Below B w w' := by
  obtain ⟨i0, hi, hz0, hz1, hz2⟩ := info_parts Tryd.info5
  have hown : (w.alloc (.cells #[.int .u8 x, .int .u8 y] 5)).ownsRow B 5 1 v l.length (l.map (Value.int .u8)) := World.ownsRow.alloc h _
  obtain ⟨v', w', h1, h2, h3, _⟩ := run_append_own (P := Tryd.prog) (w := w.alloc (.cells #[.int .u8 x, .int .u8 y] 5)) B 22 22 5 i0 (.int .u8 0) 1 1 Tryd.underlying22 hi hz0 hz1 hz2 rfl (by decide) v l.length (l.map (Value.int .u8)) hown ⟨w.heap.size, 0, none⟩ 2 2 [.int .u8 x, .int .u8 y] (by simp)
    (fun j u hu => by
      match j, hu with
      | 0, hu => simp at hu; subst hu; rw [WideShapes.add_plain]; simp [go_sem]
      | 1, hu => simp at hu; subst hu; rw [WideShapes.add_plain]; simp [go_sem]
      | j + 2, hu => simp at hu) (by intro u hu; simp at hu; rcases hu with rfl | rfl <;> rfl) (by unfold maxLen; omega) (by omega) (by simp; omega)
  refine ⟨v', w', h1, ?_, ((Below.refl _ w).alloc hB _).grown h3 (by simp; omega) fun k hk => (World.ownsRow.lt hown k hk).1⟩
  show w'.ownsRow B 5 1 v' (l ++ [x, y]).length ((l ++ [x, y]).map (Value.int .u8))
  rw [List.length_append, List.map_append]
  exact h2

/-- The bytes of the examples, at once. -/
def B12 : List UInt8 := frmF tw12
theorem known_facts : B12.length = 14 ∧ runF 12 (B12.take 1) = ([], B12.take 1, 0) ∧ (B12.take 1) ++ ((B12.drop 1).take 2) = B12.take 3 ∧ runF 12 (B12.take 3) = ([], B12.take 3, 0) ∧ runF 12 (B12.take 3 ++ (B12.drop 3 ++ [0, 13])) = ([tw12], [], 3) := by
  refine ⟨by decide, runF_part _ _ (by decide), by decide, runF_wait _ _ (by decide) (by decide) (by decide) (by decide), ?_⟩
  have e : B12.take 3 ++ (B12.drop 3 ++ [0, 13]) = frmF tw12 ++ [0, 13] := by decide
  rw [e, runF_frm 12 tw12 [0, 13] (by decide) (by decide) (by decide), runF_high 12 [0, 13] (by decide) (by decide) (by decide)]

theorem Rr.olt {w : World} {o : Option Nat} {r t M : Nat} {l : List UInt8} {out : Bool} (h : Rr w o r t M l out) (g : Nat) (hg : o = some g) : g < w.heap.size ∧ g ≠ r := by
  obtain ⟨cs, _, _, _, hB⟩ := h
  exact ⟨(hB.row g hg).2, (hB.row g hg).1⟩

theorem ToldN.bl {W : World} {B : Nat} {v : Value} {us : List Value} {ls : List (List UInt8)} {X : Nat → Prop} (h : ToldN W B v us ls X) : Bl W v ls := h.told.bl

/-- A row of one byte slice, just made. -/
theorem bl_one {w : World} {B : Nat} {v : Value} {m : List UInt8} (h : OwnB w B v m) : Bl (w.alloc (.cells #[v] 22)) (.slice (some ⟨w.heap.size, 0, none⟩) 1 1) [m] := by
  have hb : Below w.heap.size w (w.alloc (.cells #[v] 22)) := (Below.refl _ _).alloc (Nat.le_refl _) _
  refine ⟨_, 1, rfl, Nat.le_refl _, fun _ => ⟨w.heap.size, 0, rfl, by simp, fun j hj => ?_⟩⟩
  obtain rfl : j = 0 := by simpa using hj
  refine ⟨v, by simp [go_sem], ?_⟩
  have := (h.below hb).sl
  exact this.wide (Nat.zero_le _) (Nat.le_refl _)
end Go.Proofs.YtlkafakanoefmaaDoor
