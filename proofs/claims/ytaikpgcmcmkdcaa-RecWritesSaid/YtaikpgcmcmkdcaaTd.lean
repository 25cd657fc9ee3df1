/-
  Slices of texts as lists of lists of bytes; rows of the call's own; append; cuts.
-/
import Derived.Test.YtaikpgcmcmkdcaaTc
import Derived.Test.YtaikpgcmcmkdcaaZr
import Derived.Laws.AppendOwnNone
namespace Go.Proofs.Ytaikpgcmcmkdcaa
open Go.RowKit
set_option linter.unusedVariables false
set_option maxRecDepth 100000

/-- A text as a value. -/
def tv (x : List UInt8) : Value := .string (bs x)

/-- The slice value v reads as the texts l; what it leads to lies in blocks from lo on, below hi. -/
def St (w : World) (lo hi : Nat) (v : Value) (l : List (List UInt8)) : Prop :=
  ∃ a c, v = .slice a l.length c ∧ l.length ≤ c ∧ (a = none → c = 0) ∧ (0 < l.length → ∃ b off, a = some ⟨b, off, none⟩ ∧ lo ≤ b ∧ b < hi ∧ ∀ j, j < l.length → w.cell? ⟨b, off + j, none⟩ = some (tv (l.getD j [])))

section
variable {w w' : World} {lo hi lo' hi' B : Nat} {v : Value} {l : List (List UInt8)}
theorem St.keep (h : St w lo hi v l) (hk : ∀ b o, lo ≤ b → b < hi → b < w.heap.size → w'.cell? ⟨b, o, none⟩ = w.cell? ⟨b, o, none⟩) : St w' lo hi v l := by
  obtain ⟨a, c, rfl, hc, hn, hp⟩ := h
  refine ⟨a, c, rfl, hc, hn, fun h0 => ?_⟩
  obtain ⟨b, off, rfl, h1, h2, h3⟩ := hp h0
  exact ⟨b, off, rfl, h1, h2, fun j hj => (hk b _ h1 h2 (World.block_lt_of_cell? w _ (h3 j hj))).trans (h3 j hj)⟩
theorem St.below (h : St w lo hi v l) (hb : Below B w w') (hB : hi ≤ B) : St w' lo hi v l :=
  h.keep fun b o _ h2 _ => hb.cell (p := ⟨b, o, none⟩) (Nat.lt_of_lt_of_le h2 hB)
theorem St.later (h : St w lo hi v l) (hb : Below w.heap.size w w') : St w' lo hi v l :=
  h.keep fun b o _ _ h3 => hb.cell (p := ⟨b, o, none⟩) h3
theorem St.aside {G : Nat → Prop} (h : St w lo hi v l) (ha : Aside G w w') (hG : ∀ b, lo ≤ b → b < hi → ¬ G b) : St w' lo hi v l :=
  h.keep fun b o h1 h2 h3 => ha.cell (p := ⟨b, o, none⟩) h3 (hG b h1 h2)
theorem St.wide (h : St w lo hi v l) (h1 : lo' ≤ lo) (h2 : hi ≤ hi') : St w lo' hi' v l := by
  obtain ⟨a, c, rfl, hc, hn, hp⟩ := h
  refine ⟨a, c, rfl, hc, hn, fun h0 => ?_⟩
  obtain ⟨b, off, rfl, h3, h4, h5⟩ := hp h0
  exact ⟨b, off, rfl, by omega, by omega, h5⟩
theorem St.top (h : St w lo hi v l) : St w 0 w.heap.size v l := by
  obtain ⟨a, c, rfl, hc, hn, hp⟩ := h
  refine ⟨a, c, rfl, hc, hn, fun h0 => ?_⟩
  obtain ⟨b, off, rfl, h3, h4, h5⟩ := hp h0
  exact ⟨b, off, rfl, Nat.zero_le _, World.block_lt_of_cell? w _ (h5 0 h0), h5⟩
theorem St.nil (w : World) (lo hi : Nat) : St w lo hi (.slice none 0 0) [] := ⟨_, 0, rfl, by simp, fun _ => rfl, fun h => by simp at h⟩
end

theorem Try.infoT : (Try.prog.info? 9).map (fun i => (i.zero, i.size, i.bytes)) = some (some (.string ⟨#[]⟩), 1, 16) := by kernel_rfl

theorem Try.sizeT : (Try.prog.info? 9).map (·.size) = some 1 := by kernel_rfl

theorem sizeOfT (w : World) : (sizeOf (Try.prog.elem 91)).run Try.prog w = .ok 1 w := by kernel_rfl

theorem texts_oneCell (l : List (List UInt8)) : ∀ u ∈ l.map tv, u.oneCell' = true := by
  intro u hu
  obtain ⟨x, _, rfl⟩ := List.mem_map.mp hu
  rfl

/-- v is nil, or a row of the call's own, in blocks from B on, which holds the texts l, then empty ones. -/
def OwnT (w : World) (B : Nat) (v : Value) (l : List (List UInt8)) : Prop := OwnZ w B 9 (.string ⟨#[]⟩) v (l.map tv)

theorem OwnT.nil (w : World) (B : Nat) : OwnT w B (.slice .none 0 0) [] := OwnZ.nil _ _ _ _
theorem OwnT.lt {w : World} {B : Nat} {v : Value} {l : List (List UInt8)} (h : OwnT w B v l) : ∀ k, v.ownBlock = some k → B ≤ k ∧ k < w.heap.size := OwnZ.lt h
theorem OwnT.aside {w w' : World} {B : Nat} {v : Value} {l : List (List UInt8)} {G : Nat → Prop} (h : OwnT w B v l) (ha : Aside G w w') (hG : ∀ b, B ≤ b → ¬ G b) : OwnT w' B v l := OwnZ.aside h ha hG
theorem OwnT.mono {w : World} {B B' : Nat} {v : Value} {l : List (List UInt8)} (h : OwnT w B v l) (hB : B' ≤ B) : OwnT w B' v l := OwnZ.mono h hB
theorem OwnT.below {w w' : World} {B : Nat} {v : Value} {l : List (List UInt8)} (h : OwnT w B v l) (hb : Below w.heap.size w w') : OwnT w' B v l := OwnZ.below h hb
theorem OwnT.setCell {w : World} {B : Nat} {v : Value} {l : List (List UInt8)} (h : OwnT w B v l) {p : Addr} (hp : p.block < B) (u : Value) : OwnT (w.setCell p u) B v l :=
  h.aside (G := fun b => b = p.block) (Aside.setCell _ _ rfl) fun b hb e => by omega

theorem OwnT.shape {w : World} {B : Nat} {v : Value} {l : List (List UInt8)} (h : OwnT w B v l) : ∃ a c, v = .slice a l.length c := by
  rcases h with ⟨rfl, h0⟩ | ⟨g, cap, rfl, _⟩
  · have : l = [] := by simpa using h0
    subst this
    exact ⟨.none, 0, rfl⟩
  · exact ⟨_, cap, by rw [List.length_map]⟩

theorem OwnT.st {w : World} {B : Nat} {v : Value} {l : List (List UInt8)} (h : OwnT w B v l) : St w B w.heap.size v l := by
  have hlt := h.lt
  rcases h with ⟨rfl, h0⟩ | ⟨g, cap, rfl, hB, hc, _, hg⟩
  · have : l = [] := by simpa using h0
    subst this
    exact St.nil _ _ _
  · rw [List.length_map] at hc
    refine ⟨some ⟨g, 0, .none⟩, cap, by rw [List.length_map], hc, fun h => by simp at h, fun _ => ⟨g, 0, rfl, hB, (hlt g rfl).2, fun j hj => ?_⟩⟩
    rw [Nat.zero_add, World.cell?, hg]
    simp [List.getElem?_append_left, hj]

theorem st_one (w : World) (x : List UInt8) : St (w.alloc (.cells #[tv x] 9)) w.heap.size (w.heap.size + 1) (.slice (some ⟨w.heap.size, 0, .none⟩) 1 1) [x] := by
  refine ⟨_, 1, rfl, by simp, fun h => by simp at h, fun _ => ⟨_, _, rfl, Nat.le_refl _, by omega, fun j hj => ?_⟩⟩
  obtain rfl : j = 0 := by simpa using hj
  simp [go_sem]

/-- append of texts, as it runs. -/
theorem run_appTs {w : World} (B lo hi : Nat) (v xv : Value) (l l' : List (List UInt8)) (hown : OwnT w B v l) (hx : St w lo hi xv l') (hb : l.length + l'.length ≤ 1000000) (hB : B ≤ w.heap.size) (h0 : xv = .slice .none 0 0 → l' = []) :
    ∃ a' c' w', (Builtin.append_ #[91, 91] 91 #[v, xv]).run Try.prog w = .ok (.slice a' (l.length + l'.length) c') w' ∧ OwnT w' B (.slice a' (l.length + l'.length) c') (l ++ l') ∧ w.grownBy w' v.ownBlock := by
  obtain ⟨i0, hi, hz0, hz1, hz2⟩ := info_parts Try.infoT
  obtain ⟨ad, c, rfl, hc, hn, hp⟩ := hx
  have fin : ∀ v' w', (Builtin.append_ #[91, 91] 91 #[v, .slice ad l'.length c]).run Try.prog w = .ok v' w' → OwnT w' B v' (l ++ l') → w.grownBy w' v.ownBlock → ∃ a' c' w', (Builtin.append_ #[91, 91] 91 #[v, .slice ad l'.length c]).run Try.prog w = .ok (.slice a' (l.length + l'.length) c') w' ∧ OwnT w' B (.slice a' (l.length + l'.length) c') (l ++ l') ∧ w.grownBy w' v.ownBlock := by
    intro v' w' h1 h2 h3
    obtain ⟨a', c', hv⟩ := h2.shape
    rw [List.length_append] at hv
    subst hv
    exact ⟨a', c', w', h1, h2, h3⟩
  rcases ad with _ | ad
  · have hc0 := hn rfl
    subst hc0
    have hl0 : l' = [] := List.eq_nil_of_length_eq_zero (by omega)
    subst hl0
    have hr := run_append_owned_none (P := Try.prog) (w := w) B 91 91 9 i0 1 Try.underlying91 hi v l.length (l.map tv) (by have := hown.owns; rwa [List.length_map] at this)
    exact fin v w hr (by rw [List.append_nil]; exact hown) ⟨rfl, rfl, rfl, Nat.le_refl _, fun _ _ _ => rfl⟩
  · obtain ⟨v', w', h1, h2, h3⟩ := run_append_Z (P := Try.prog) (w := w) B 91 91 9 i0 (.string ⟨#[]⟩) 16 Try.underlying91 hi hz0 hz1 hz2 rfl v (l.map tv) hown ad l'.length c (l'.map tv) (by simp)
      (fun j u hu => by
        rw [List.getElem?_map] at hu
        obtain ⟨n, hq, rfl⟩ := Option.map_eq_some_iff.mp hu
        have hj : j < l'.length := (List.getElem?_eq_some_iff.mp hq).1
        obtain ⟨b, off, he, _, _, hcell⟩ := hp (by omega)
        injection he with he
        subst he
        rw [WideShapes.add_plain, hcell j hj, List.getD, hq]; rfl) (texts_oneCell _) (by rw [List.length_map]; unfold maxLen; omega) (by rw [List.length_map]; omega) hB
    exact fin v' w' h1 (by unfold OwnT; rw [List.map_append]; exact h2) h3

theorem run_appT {w : World} (B : Nat) (v : Value) (l : List (List UInt8)) (y : List UInt8) (g : Nat) (hown : OwnT w B v l) (hy : w.cell? ⟨g, 0, .none⟩ = some (tv y)) (hb : l.length + 1 ≤ 1000000) (hB : B ≤ w.heap.size) :
    ∃ a' c' w', (Builtin.append_ #[91, 91] 91 #[v, .slice (some ⟨g, 0, .none⟩) 1 1]).run Try.prog w = .ok (.slice a' (l.length + 1) c') w' ∧ OwnT w' B (.slice a' (l.length + 1) c') (l ++ [y]) ∧ w.grownBy w' v.ownBlock :=
  run_appTs B g (g + 1) v (.slice (some ⟨g, 0, .none⟩) 1 1) l [y] hown ⟨_, 1, rfl, by simp, fun h => by simp at h, fun _ => ⟨g, 0, rfl, Nat.le_refl _, by omega, fun j hj => by
    obtain rfl : j = 0 := by simpa using hj
    simpa using hy⟩⟩ hb hB (fun h => by simp at h)

/-- An append that runs so, in a round; elsewhere. -/
theorem wpListIn_append_run {F : Fence} {n : Nat} {w w' : World} {v v' xv : Value} {ops : Array Oper} {rest : List Oper} {o : Oper} {a : Act} {Q : Exit → Act → World → Prop} (s x : Operand) (t u : TypeId)
    (ho : o.op = .call { callee := .builtin .append, args := #[s, x], argTypes := #[t, u] }) (hgd : o.guard = .none) (hs : a.eval s = v) (hx : a.eval x = xv)
    (hrun : (Builtin.append_ #[t, u] o.type #[v, xv]).run Try.prog w = .ok v' w') (h : wpListIn F n Try.prog ops Q rest (a.put o.dst v') w') : wpListIn F n Try.prog ops Q (o :: rest) a w := by
  refine wpListIn_plain hgd fun K hK => ?_
  unfold Oper.wpIn
  refine ⟨?_, ?_⟩
  · simp [Oper.about, ho, resolve, Target.leads, Sem.run_pure]
  · rw [Oper.semAt_plain F _ _ (by rw [ho]; intro c hc'; cases hc')]
    simp [execOp, ho, resolve, invoke, builtin, hs, hx, hrun, Result.andThen]
    exact hK _ _ h

theorem wpList_append_run {w w' : World} {v v' xv : Value} {ops : Array Oper} {rest : List Oper} {o : Oper} {a : Act} {Q : Exit → Act → World → Prop} (s x : Operand) (t u : TypeId)
    (ho : o.op = .call { callee := .builtin .append, args := #[s, x], argTypes := #[t, u] }) (hgd : o.guard = .none) (hs : a.eval s = v) (hx : a.eval x = xv)
    (hrun : (Builtin.append_ #[t, u] o.type #[v, xv]).run Try.prog w = .ok v' w') (h : wpList Try.prog ops Q rest (a.put o.dst v') w') : wpList Try.prog ops Q (o :: rest) a w := by
  refine wpList_step fun K hK => ?_
  rw [if_pos (by simp [Region.wanted, hgd])]
  unfold Oper.wp
  simp [execOp, ho, resolve, invoke, builtin, hs, hx, hrun, Result.andThen]
  exact hK _ _ h

theorem wpList_appT {w : World} {ops : Array Oper} {rest : List Oper} {o : Oper} {a : Act} {Q : Exit → Act → World → Prop} (hgd : o.guard = .none) (s x : Operand)
    (ho : o.op = .call { callee := .builtin .append, args := #[s, x], argTypes := #[91, 91] }) (hty : o.type = 91)
    (B lo hi : Nat) (v xv : Value) (l l' : List (List UInt8)) (hs : a.eval s = v) (hx : a.eval x = xv) (hown : OwnT w B v l) (hsl : St w lo hi xv l') (hb : l.length + l'.length ≤ 1000000) (hB : B ≤ w.heap.size)
    (h : ∀ a' c' w', Hid (OwnT w' B (.slice a' (l.length + l'.length) c') (l ++ l')) → Hid (Below B w w') → wpList Try.prog ops Q rest (a.put o.dst (.slice a' (l.length + l'.length) c')) w') : wpList Try.prog ops Q (o :: rest) a w := by
  have h0 : xv = .slice .none 0 0 → l' = [] := fun e => by
    obtain ⟨ad, c, rfl, _⟩ := hsl
    injection e with e1 e2 e3
    exact List.eq_nil_of_length_eq_zero e2
  obtain ⟨a', c', w', h1, h2, h3⟩ := run_appTs B lo hi v xv l l' hown hsl hb hB h0
  refine wpList_append_run s x 91 91 ho hgd hs hx (by rw [hty]; exact h1) (h a' c' w' h2 ((Below.refl _ _).grown h3 hB fun k hk => (hown.lt k hk).1))

/-- From a place on. -/
theorem st_from {w : World} {lo hi c p : Nat} {a : Option Addr} {l : List (List UInt8)} (h : St w lo hi (.slice a l.length c) l) (hp : p ≤ l.length) :
    ∃ sv, (∀ wx, (Instr.slice 91 (.slice a l.length c) (some (.int .i64 p)) none none).run Try.prog wx = .ok sv wx) ∧ St w lo hi sv (l.drop p) := by
  obtain ⟨a', c', he, hc, hn, hq⟩ := h
  injection he with e1 e2 e3
  subst e1; subst e3
  refine ⟨sliced a p l.length c 1, fun wx => ?_, ?_⟩
  · rw [run_slice_l (P := Try.prog) wx 91 a l.length c Try.underlying91 .i64 p (by omega) (by omega), sizeOfT]
    simp only [Result.andThen, Int.toNat_natCast]
  · refine ⟨if c = p then a else a.map (·.add (p * 1)), c - p, ?_, ?_, ?_, ?_⟩
    · unfold sliced; rw [List.length_drop]
    · rw [List.length_drop]; omega
    · intro hnone
      have : a = none := by
        split at hnone
        · exact hnone
        · simpa using hnone
      have := hn this
      omega
    · intro h0
      rw [List.length_drop] at h0
      obtain ⟨b, off, rfl, h1, h2, hx⟩ := hq (by omega)
      rw [if_neg (by omega)]
      refine ⟨b, off + p, ?_, h1, h2, fun j hj => ?_⟩
      · simp only [Option.map_some, Nat.mul_one]; rw [WideShapes.add_plain]
      · rw [List.length_drop] at hj
        rw [show off + p + j = off + (p + j) by omega, hx (p + j) (by omega)]
        congr 2
        rw [List.getD, List.getD, List.getElem?_drop]

/-- Up to a place. -/
theorem st_to {w : World} {lo hi c m : Nat} {a : Option Addr} {l : List (List UInt8)} (h : St w lo hi (.slice a l.length c) l) (hm : m ≤ l.length) :
    ∃ sv, (∀ wx, (Instr.slice 91 (.slice a l.length c) none (some (.int .i64 m)) none).run Try.prog wx = .ok sv wx) ∧ St w lo hi sv (l.take m) := by
  have hlen : (l.take m).length = m := by rw [List.length_take]; omega
  obtain ⟨a', c', he, hc, hn, hq⟩ := h
  injection he with e1 e2 e3
  subst e1; subst e3
  refine ⟨sliced a 0 m c 1, fun wx => ?_, ?_⟩
  · rw [run_slice_h (P := Try.prog) wx 91 a l.length c Try.underlying91 .i64 m (by omega) (by omega), sizeOfT]
    simp only [Result.andThen, Int.toNat_natCast]
  · refine ⟨if c = 0 then a else a.map (·.add (0 * 1)), c - 0, ?_, ?_, ?_, ?_⟩
    · unfold sliced; rw [hlen]; simp
    · rw [hlen]; omega
    · intro hnone
      have : a = none := by
        split at hnone
        · exact hnone
        · simpa using hnone
      have := hn this
      omega
    · intro h0
      rw [hlen] at h0
      obtain ⟨b, off, rfl, h1, h2, hx⟩ := hq (by omega)
      rw [if_neg (by omega)]
      refine ⟨b, off, by simp [Addr.add], h1, h2, fun j hj => ?_⟩
      rw [hlen] at hj
      rw [hx j (by omega), List.getD, List.getD, List.getElem?_take, if_pos hj]

/-- A text of a slice, loaded. -/
theorem St.cell {w : World} {lo hi c : Nat} {a : Option Addr} {l : List (List UInt8)} (h : St w lo hi (.slice a l.length c) l) (h0 : 0 < l.length) :
    ∃ b off, a = some ⟨b, off, none⟩ ∧ lo ≤ b ∧ b < hi ∧ ∀ j, j < l.length → w.cell? ⟨b, off + j, none⟩ = some (tv (l.getD j [])) := by
  obtain ⟨a', c', he, hc, hn, hq⟩ := h
  injection he with e1 e2 e3
  subst e1; subst e3
  exact hq h0
end Go.Proofs.Ytaikpgcmcmkdcaa
