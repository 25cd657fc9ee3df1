/-
  Slices of texts as lists of lists of bytes; rows of the call's own; append; cuts.
-/
import Derived.Test.YtckmjpnkjnihlaaTc
import Derived.Test.YtckmjpnkjnihlaaZr
import Derived.Laws.AppendOwnNone
namespace Go.Proofs.Ytckmjpnkjnihlaa
open Go.RowKit
set_option linter.unusedVariables false
set_option maxRecDepth 100000

/-- A text as a value. -/
def tv (x : List UInt8) : Value := .string (bs x)

/-- The slice value v reads as the texts l; what it leads to lies in blocks from lo on, below hi. -/
def St (w : World) (lo hi : Nat) (v : Value) (l : List (List UInt8)) : Prop :=
  ∃ a c, v = .slice a l.length c ∧ l.length ≤ c ∧ (a = none → c = 0) ∧ (0 < l.length → ∃ b off, a = some ⟨b, off, none⟩ ∧ lo ≤ b ∧ b < hi ∧ ∀ j, j < l.length → w.cell? ⟨b, off + j, none⟩ = some (tv (l.getD j [])))

section
variable {w w' : World} {lo hi lo' hi' B : Nat} {v : Value} {l : List (List UInt8)}
theorem St.keep (h : St w lo hi v l) (hk : ∀ b o, lo ≤ b → b < hi → b < w.heap.size → w'.cell? ⟨b, o, none⟩ = w.cell? ⟨b, o, none⟩) : St w' lo hi v l := by
  obtain ⟨a, c, rfl, hc, hn, hp⟩ := h
  refine ⟨a, c, rfl, hc, hn, fun h0 => ?_⟩
  obtain ⟨b, off, rfl, h1, h2, h3⟩ := hp h0
  exact ⟨b, off, rfl, h1, h2, fun j hj => (hk b _ h1 h2 (World.block_lt_of_cell? w _ (h3 j hj))).trans (h3 j hj)⟩
theorem St.below (h : St w lo hi v l) (hb : Below B w w') (hB : hi ≤ B) : St w' lo hi v l :=
  h.keep fun b o _ h2 _ => hb.cell (p := ⟨b, o, none⟩) (Nat.lt_of_lt_of_le h2 hB)
theorem St.later (h : St w lo hi v l) (hb : Below w.heap.size w w') : St w' lo hi v l :=
  h.keep fun b o _ _ h3 => hb.cell (p := ⟨b, o, none⟩) h3
theorem St.aside {G : Nat → Prop} (h : St w lo hi v l) (ha : Aside G w w') (hG : ∀ b, lo ≤ b → b < hi → ¬ G b) : St w' lo hi v l :=
  h.keep fun b o h1 h2 h3 => ha.cell (p := ⟨b, o, none⟩) h3 (hG b h1 h2)
theorem St.wide (h : St w lo hi v l) (h1 : lo' ≤ lo) (h2 : hi ≤ hi') : St w lo' hi' v l := by
  obtain ⟨a, c, rfl, hc, hn, hp⟩ := h
  refine ⟨a, c, rfl, hc, hn, fun h0 => ?_⟩
  obtain ⟨b, off, rfl, h3, h4, h5⟩ := hp h0
  exact ⟨b, off, rfl, by omega, by omega, h5⟩
theorem St.top (h : St w lo hi v l) : St w 0 w.heap.size v l := by
  obtain ⟨a, c, rfl, hc, hn, hp⟩ := h
  refine ⟨a, c, rfl, hc, hn, fun h0 => ?_⟩
  obtain ⟨b, off, rfl, h3, h4, h5⟩ := hp h0
  exact ⟨b, off, rfl, Nat.zero_le _, World.block_lt_of_cell? w _ (h5 0 h0), h5⟩
theorem St.nil (w : World) (lo hi : Nat) : St w lo hi (.slice none 0 0) [] := ⟨_, 0, rfl, by simp, fun _ => rfl, fun h => by simp at h⟩
end

/-- v is nil, or a row of the call's own, in blocks from B on, which holds the texts l, then empty ones. -/
def OwnT (w : World) (B : Nat) (v : Value) (l : List (List UInt8)) : Prop := OwnZ w B 9 (.string ⟨#[]⟩) v (l.map tv)

theorem OwnT.nil (w : World) (B : Nat) : OwnT w B (.slice .none 0 0) [] := OwnZ.nil _ _ _ _
theorem OwnT.lt {w : World} {B : Nat} {v : Value} {l : List (List UInt8)} (h : OwnT w B v l) : ∀ k, v.ownBlock = some k → B ≤ k ∧ k < w.heap.size := OwnZ.lt h
theorem OwnT.aside {w w' : World} {B : Nat} {v : Value} {l : List (List UInt8)} {G : Nat → Prop} (h : OwnT w B v l) (ha : Aside G w w') (hG : ∀ b, B ≤ b → ¬ G b) : OwnT w' B v l := OwnZ.aside h ha hG
theorem OwnT.mono {w : World} {B B' : Nat} {v : Value} {l : List (List UInt8)} (h : OwnT w B v l) (hB : B' ≤ B) : OwnT w B' v l := OwnZ.mono h hB
theorem OwnT.below {w w' : World} {B : Nat} {v : Value} {l : List (List UInt8)} (h : OwnT w B v l) (hb : Below w.heap.size w w') : OwnT w' B v l := OwnZ.below h hb
theorem OwnT.setCell {w : World} {B : Nat} {v : Value} {l : List (List UInt8)} (h : OwnT w B v l) {p : Addr} (hp : p.block < B) (u : Value) : OwnT (w.setCell p u) B v l :=
  h.aside (G := fun b => b = p.block) (Aside.setCell _ _ rfl) fun b hb e => by omega

theorem OwnT.shape {w : World} {B : Nat} {v : Value} {l : List (List UInt8)} (h : OwnT w B v l) : ∃ a c, v = .slice a l.length c := by
  rcases h with ⟨rfl, h0⟩ | ⟨g, cap, rfl, _⟩
  · have : l = [] := by simpa using h0
    subst this
    exact ⟨.none, 0, rfl⟩
  · exact ⟨_, cap, by rw [List.length_map]⟩

theorem wpList_append_run {w w' : World} {v v' xv : Value} {ops : Array Oper} {rest : List Oper} {o : Oper} {a : Act} {Q : Exit → Act → World → Prop} (s x : Operand) (t u : TypeId)
    (ho : o.op = .call { callee := .builtin .append, args := #[s, x], argTypes := #[t, u] }) (hgd : o.guard = .none) (hs : a.eval s = v) (hx : a.eval x = xv)
    (hrun : (Builtin.append_ #[t, u] o.type #[v, xv]).run Try.prog w = .ok v' w') (h : wpList Try.prog ops Q rest (a.put o.dst v') w') : wpList Try.prog ops Q (o :: rest) a w := by
  refine wpList_step fun K hK => ?_
  rw [if_pos (by simp [Region.wanted, hgd])]
  unfold Oper.wp
  simp [execOp, ho, resolve, invoke, builtin, hs, hx, hrun, Result.andThen]
  exact hK _ _ h

/-- A text of a slice, loaded. -/
theorem St.cell {w : World} {lo hi c : Nat} {a : Option Addr} {l : List (List UInt8)} (h : St w lo hi (.slice a l.length c) l) (h0 : 0 < l.length) :
    ∃ b off, a = some ⟨b, off, none⟩ ∧ lo ≤ b ∧ b < hi ∧ ∀ j, j < l.length → w.cell? ⟨b, off + j, none⟩ = some (tv (l.getD j [])) := by
  obtain ⟨a', c', he, hc, hn, hq⟩ := h
  injection he with e1 e2 e3
  subst e1; subst e3
  exact hq h0
end Go.Proofs.Ytckmjpnkjnihlaa
