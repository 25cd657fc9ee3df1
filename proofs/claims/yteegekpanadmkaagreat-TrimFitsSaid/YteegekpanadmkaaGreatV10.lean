/-
  Messages, plainly: the message that bytes are.
-/
import Derived.Test.YteegekpanadmkaaGreatV06
import Derived.Test.YteegekpanadmkaaGreatV09
import Derived.Test.YteegekpanadmkaaGreatV00
import Derived.Test.YteegekpanadmkaaGreatV04
import Derived.Defers
import Derived.Laws.Bits128
import Derived.Test.YteegekpanadmkaaGreatV01
import Derived.Deep.RegionHeld
namespace Go.Proofs.YteegekpanadmkaaGreat
open Go.RowKit Go.Shelf
set_option linter.unusedVariables false
set_option linter.unusedSimpArgs false
set_option maxRecDepth 100000

inductive RD (α : Type) where
  | ok (l : List α) (p : Nat)
  | bad (e a : Int)

inductive RM where
  | ok (m : Ms)
  | bad (e a : Int)

def hd (b : List UInt8) (k : Nat) : Int := nAt2 (iz b) (2 * k)

/-! ### faults -/

/-! ### with others behind -/

/-! ### what stands is read -/

end Go.Proofs.YteegekpanadmkaaGreat

/-
  The numbers at a message's head: numbers, Head.
-/
namespace Go.Proofs.YteegekpanadmkaaGreat
open Go.RowKit Go.Shelf
set_option linter.unusedVariables false
set_option linter.unusedSimpArgs false
set_option maxRecDepth 100000

def pre (b : List UInt8) : Nat → List Value
  | 0 => [.int .i64 0, .int .i64 0, .int .i64 0, .int .i64 0, .int .i64 0, .int .i64 0]
  | k + 1 => (pre b k).set k (.int .i64 (hd b k))
end Go.Proofs.YteegekpanadmkaaGreat

/-
  An entry of a list is read, and laid behind the others.
-/
namespace Go.Proofs.YteegekpanadmkaaGreat
open Go.RowKit Go.Shelf
set_option linter.unusedVariables false
set_option linter.unusedSimpArgs false
set_option maxRecDepth 100000

theorem info_qn : (Tryz.prog.info? 56).map (fun i => (i.zero, i.size, i.bytes)) = some (some (.agg #[.string ⟨#[]⟩, .int .i64 0, .int .i64 0]), 3, 32) := by kernel_rfl
theorem info_rc : (Tryz.prog.info? 52).map (fun i => (i.zero, i.size, i.bytes)) = some (some (.agg #[.string ⟨#[]⟩, .int .i64 0, .int .i64 0, .int .i64 0, .string ⟨#[]⟩]), 5, 56) := by kernel_rfl

theorem run_appQn {w : World} {B hi : Nat} {v u : Value} {l m : List Qn} (h : OwnQn w B v l) (hx : SQ w hi u m) (hnm : l.length + m.length ≤ 1000000) (hB : B ≤ w.heap.size) :
    ∃ a' c' w', (Builtin.append_ #[22, 22] 22 #[v, u]).run Tryz.prog w = .ok (.slice a' (l.length + m.length) c') w' ∧ OwnQn w' B (.slice a' (l.length + m.length) c') (l ++ m) ∧ Aside (fun b => v.ownBlock = some b) w w' ∧
      ((Value.slice a' (l.length + m.length) c').ownBlock = v.ownBlock ∨ (Value.slice a' (l.length + m.length) c').ownBlock = some w.heap.size) := by
  obtain ⟨i0, hi, hz0, hz1, hz2⟩ := info_parts info_qn
  obtain ⟨a', c', w', h1, h2, h3, h4⟩ := row_more (ty := 22) 32 Tryz.underlying22 hi hz0 hz1 hz2 rfl (by decide) (by decide) h hx (acq_len m) (acq_one m) hnm hB
  refine ⟨a', c', w', h1, ?_, h3, h4⟩
  unfold OwnQn
  rw [List.length_append, acq_app]
  exact h2
theorem run_appRc {w : World} {B hi : Nat} {v u : Value} {l m : List Rc} (h : OwnRc w B v l) (hx : SR w hi u m) (hnm : l.length + m.length ≤ 1000000) (hB : B ≤ w.heap.size) :
    ∃ a' c' w', (Builtin.append_ #[23, 23] 23 #[v, u]).run Tryz.prog w = .ok (.slice a' (l.length + m.length) c') w' ∧ OwnRc w' B (.slice a' (l.length + m.length) c') (l ++ m) ∧ Aside (fun b => v.ownBlock = some b) w w' ∧
      ((Value.slice a' (l.length + m.length) c').ownBlock = v.ownBlock ∨ (Value.slice a' (l.length + m.length) c').ownBlock = some w.heap.size) := by
  obtain ⟨i0, hi, hz0, hz1, hz2⟩ := info_parts info_rc
  obtain ⟨a', c', w', h1, h2, h3, h4⟩ := row_more (ty := 23) 56 Tryz.underlying23 hi hz0 hz1 hz2 rfl (by decide) (by decide) h hx (acr_len m) (acr_one m) hnm hB
  refine ⟨a', c', w', h1, ?_, h3, h4⟩
  unfold OwnRc
  rw [List.length_append, acr_app]
  exact h2

theorem sq_one (w : World) (x : Qn) : SQ (w.alloc (.cells #[.string (bs x.n), .int .i64 x.t, .int .i64 x.c] 56)) (w.heap.size + 1) (.slice (some ⟨w.heap.size, 0, none⟩) 1 1) [x] :=
  ⟨_, 1, rfl, by simp, fun h => by simp at h, fun _ => ⟨w.heap.size, 0, rfl, by omega, fun i u hu => by
    have hc := cel_new3 w (.string (bs x.n)) (.int .i64 x.t) (.int .i64 x.c) 56
    rw [Nat.zero_add]
    match i, hu with
    | 0, hu => rw [hc.c 0 (by simp)]; simpa [acq, cq] using hu
    | 1, hu => rw [hc.c 1 (by simp)]; simpa [acq, cq] using hu
    | 2, hu => rw [hc.c 2 (by simp)]; simpa [acq, cq] using hu
    | i + 3, hu => simp [acq, cq] at hu⟩⟩
theorem sr_one (w : World) (x : Rc) : SR (w.alloc (.cells #[.string (bs x.n), .int .i64 x.t, .int .i64 x.c, .int .i64 x.l, .string (bs x.d)] 52)) (w.heap.size + 1) (.slice (some ⟨w.heap.size, 0, none⟩) 1 1) [x] :=
  ⟨_, 1, rfl, by simp, fun h => by simp at h, fun _ => ⟨w.heap.size, 0, rfl, by omega, fun i u hu => by
    have hc := cel_new w (.string (bs x.n)) (.int .i64 x.t) (.int .i64 x.c) (.int .i64 x.l) (.string (bs x.d)) 52
    rw [Nat.zero_add]
    match i, hu with
    | 0, hu => rw [hc.c 0 (by simp)]; simpa [acr, cr] using hu
    | 1, hu => rw [hc.c 1 (by simp)]; simpa [acr, cr] using hu
    | 2, hu => rw [hc.c 2 (by simp)]; simpa [acr, cr] using hu
    | 3, hu => rw [hc.c 3 (by simp)]; simpa [acr, cr] using hu
    | 4, hu => rw [hc.c 4 (by simp)]; simpa [acr, cr] using hu
    | i + 5, hu => simp [acr, cr] at hu⟩⟩

end Go.Proofs.YteegekpanadmkaaGreat

/-
  What Read stands on: what is read so far, the deferred function.
-/
namespace Go.Proofs.YteegekpanadmkaaGreat
open Go.RowKit Go.Shelf
set_option linter.unusedVariables false
set_option linter.unusedSimpArgs false
set_option maxRecDepth 100000

structure R0 (w wr : World) (M H B0 : Nat) (i0 i1 : Int) (hs : List Value) (v2 v3 v4 v5 : Value) (lq : List Qn) (la ln lr : List Rc) : Prop where
  x : Cel wr M [.int .i64 i0, .int .i64 i1, v2, v3, v4, v5]
  f : Cel wr (M + 1) [.int .i64 0, .int .i64 0]
  h : Cel wr H hs
  hl : 0 < hs.length
  q : OwnQn wr B0 v2 lq
  a : OwnRc wr B0 v3 la
  n : OwnRc wr B0 v4 ln
  r : OwnRc wr B0 v5 lr
  n34 : ∀ k, v3.ownBlock = some k → v4.ownBlock = some k → False
  n35 : ∀ k, v3.ownBlock = some k → v5.ownBlock = some k → False
  n45 : ∀ k, v4.ownBlock = some k → v5.ownBlock = some k → False
  bel : Below M w wr
  size : B0 ≤ wr.heap.size
  hH : M + 2 ≤ H
  hB : H < B0

section
variable {w wr w' : World} {M H B0 : Nat} {i0 i1 : Int} {hs : List Value} {v2 v3 v4 v5 : Value} {lq : List Qn} {la ln lr : List Rc}
end

end Go.Proofs.YteegekpanadmkaaGreat

/-
  The bare answer: Reply, and its flags.
-/
namespace Go.Proofs.YteegekpanadmkaaGreat
open Go.RowKit Go.Shelf
set_option linter.unusedVariables false
set_option linter.unusedSimpArgs false
set_option maxRecDepth 100000

structure Rp (w wr : World) (N : Nat) (i f : Int) (qv : Value) (l : List Qn) : Prop where
  bel : Below N w wr
  z : Cel wr (N + 1) [.int .i64 0, .int .i64 0, .slice none 0 0, .slice none 0 0, .slice none 0 0, .slice none 0 0]
  r : Cel wr (N + 2) [.int .i64 i, .int .i64 f, qv, .slice none 0 0, .slice none 0 0, .slice none 0 0]
  own : OwnQn wr (N + 3) qv l
  size : N + 3 ≤ wr.heap.size

section
variable {w wr w' : World} {N : Nat} {i f : Int} {qv : Value} {l : List Qn}
end

section
variable {w : World} {q : Nat} {a0 a1 a2 a3 a4 a5 : Value}
def put6 (w : World) (q : Nat) (b0 b1 b2 b3 b4 b5 : Value) : World :=
  (((((w.setCell ⟨q, 0, none⟩ b0).setCell ⟨q, 1, none⟩ b1).setCell ⟨q, 2, none⟩ b2).setCell ⟨q, 3, none⟩ b3).setCell ⟨q, 4, none⟩ b4).setCell ⟨q, 5, none⟩ b5
theorem cel_put6 (h : Cel w q [a0, a1, a2, a3, a4, a5]) (b0 b1 b2 b3 b4 b5 : Value) : Cel (put6 w q b0 b1 b2 b3 b4 b5) q [b0, b1, b2, b3, b4, b5] := by
  have := (((((h.set (o := 0) (by simp) b0).set (o := 1) (by simp) b1).set (o := 2) (by simp) b2).set (o := 3) (by simp) b3).set (o := 4) (by simp) b4).set (o := 5) (by simp) b5
  simp only [List.set_cons_zero, List.set_cons_succ] at this
  exact this
theorem aside_put6 (w : World) (q : Nat) (b0 b1 b2 b3 b4 b5 : Value) : Aside (fun k => k = q) w (put6 w q b0 b1 b2 b3 b4 b5) := by
  have st : ∀ (x : World) (o : Nat) (v : Value), Aside (fun k => k = q) x (x.setCell ⟨q, o, none⟩ v) := fun x o v => Aside.setCell x (p := ⟨q, o, none⟩) v rfl
  exact (((((st _ _ _).trans (st _ _ _)).trans (st _ _ _)).trans (st _ _ _)).trans (st _ _ _)).trans (st _ _ _)
end

theorem row_base {w : World} {B B' k n : Nat} {e : TypeId} {v : Value} {xs : List Value} (h : w.ownsRow B e k v n xs) (hB : B' ≤ B) : w.ownsRow B' e k v n xs := by
  refine ⟨h.1, ?_⟩
  rcases h.2 with h2 | ⟨g, cap, cur, h2⟩
  · exact .inl h2
  · exact .inr ⟨g, cap, cur, h2.1, Nat.le_trans hB h2.2.1, h2.2.2⟩

end Go.Proofs.YteegekpanadmkaaGreat

/-
  Questions and records copied with room to spare; that room is as it was.
-/
namespace Go.Proofs.YteegekpanadmkaaGreat
open Go.RowKit Go.Shelf
set_option linter.unusedVariables false
set_option linter.unusedSimpArgs false
set_option maxRecDepth 100000

def qmark : Qn := ⟨[], 7, 0⟩
def rmark : Rc := ⟨[], 7, 0, 0, []⟩
def CpQ (w : World) (B : Nat) (v : Value) (l : List Qn) : Prop := ∃ a c, v = .slice a l.length c ∧ OwnQn w B (.slice a (l.length + 1) c) (l ++ [qmark])
def CpR (w : World) (B : Nat) (v : Value) (l : List Rc) : Prop := ∃ a c, v = .slice a l.length c ∧ OwnRc w B (.slice a (l.length + 1) c) (l ++ [rmark])
theorem own_cut (a : Option Addr) (n m c : Nat) : (Value.slice a n c).ownBlock = (Value.slice a m c).ownBlock := by cases a <;> rfl
section
variable {w w' : World} {B : Nat} {v : Value}
theorem CpQ.below {l : List Qn} (h : CpQ w B v l) (hb : Below w.heap.size w w') : CpQ w' B v l := by
  obtain ⟨a, c, rfl, h1⟩ := h
  exact ⟨a, c, rfl, row_below h1 hb⟩
theorem CpR.below {l : List Rc} (h : CpR w B v l) (hb : Below w.heap.size w w') : CpR w' B v l := by
  obtain ⟨a, c, rfl, h1⟩ := h
  exact ⟨a, c, rfl, row_below h1 hb⟩
theorem CpQ.base {B' : Nat} {l : List Qn} (h : CpQ w B v l) (hB : B' ≤ B) : CpQ w B' v l := by
  obtain ⟨a, c, rfl, h1⟩ := h
  exact ⟨a, c, rfl, row_base h1 hB⟩
theorem CpR.base {B' : Nat} {l : List Rc} (h : CpR w B v l) (hB : B' ≤ B) : CpR w B' v l := by
  obtain ⟨a, c, rfl, h1⟩ := h
  exact ⟨a, c, rfl, row_base h1 hB⟩
theorem CpQ.aside {G : Nat → Prop} {l : List Qn} (h : CpQ w B v l) (ha : Aside G w w') (hG : ∀ k, v.ownBlock = some k → ¬ G k) : CpQ w' B v l := by
  obtain ⟨a, c, rfl, h1⟩ := h
  exact ⟨a, c, rfl, row_aside h1 ha fun k hk => hG k (by rw [own_cut a _ (l.length + 1)]; exact hk)⟩
theorem CpR.aside {G : Nat → Prop} {l : List Rc} (h : CpR w B v l) (ha : Aside G w w') (hG : ∀ k, v.ownBlock = some k → ¬ G k) : CpR w' B v l := by
  obtain ⟨a, c, rfl, h1⟩ := h
  exact ⟨a, c, rfl, row_aside h1 ha fun k hk => hG k (by rw [own_cut a _ (l.length + 1)]; exact hk)⟩
theorem CpQ.lt {l : List Qn} (h : CpQ w B v l) : ∀ k, v.ownBlock = some k → B ≤ k ∧ k < w.heap.size := by
  obtain ⟨a, c, rfl, h1⟩ := h
  exact fun k hk => World.ownsRow.lt h1 k (by rw [own_cut a _ l.length]; exact hk)
theorem CpR.lt {l : List Rc} (h : CpR w B v l) : ∀ k, v.ownBlock = some k → B ≤ k ∧ k < w.heap.size := by
  obtain ⟨a, c, rfl, h1⟩ := h
  exact fun k hk => World.ownsRow.lt h1 k (by rw [own_cut a _ l.length]; exact hk)
theorem CpQ.sq {l : List Qn} (h : CpQ w B v l) (hl : l.length ≤ 900000) : SQ w w.heap.size v l := by
  obtain ⟨a, c, rfl, h1⟩ := h
  have h2 := Lst.own h1 (by rw [List.length_append, List.length_singleton]; omega)
  rw [List.length_append, List.length_singleton, acq_app] at h2
  exact Lst.part h2 (by omega)
theorem CpR.sr {l : List Rc} (h : CpR w B v l) (hl : l.length ≤ 900000) : SR w w.heap.size v l := by
  obtain ⟨a, c, rfl, h1⟩ := h
  have h2 := Lst.own h1 (by rw [List.length_append, List.length_singleton]; omega)
  rw [List.length_append, List.length_singleton, acr_app] at h2
  exact Lst.part h2 (by omega)
end

theorem make_qn (w : World) (n : Nat) (hn : n ≤ 900000) : ∃ w', (Instr.makeSlice 22 (.int .i64 0) (.int .i64 ((n : Int) + 2))).run Tryz.prog w = .ok (.slice (some ⟨w.heap.size, 0, none⟩) 0 (n + 2)) w' ∧ OwnQn w' w.heap.size (.slice (some ⟨w.heap.size, 0, none⟩) 0 (n + 2)) [] ∧ Below w.heap.size w w' := by
  obtain ⟨i0, hi, hz0, hz1, hz2⟩ := info_parts info_qn
  obtain ⟨w', h1, h2, h3⟩ := run_makeSlice_owned (P := Tryz.prog) (w := w) w.heap.size 22 56 i0 _ 3 Tryz.underlying22 hi hz0 hz1 .i64 .i64 (n + 2) (by omega) (by rw [hz2]; omega) (by unfold maxLen; omega) (Nat.le_refl _)
  exact ⟨w', by rw [show ((n : Int) + 2) = ((n + 2 : Nat) : Int) by omega]; exact h1, h2, (Aside.grown h3 (G := fun _ => False) fun _ h => by simp at h).below fun k hk => ⟨hk, id⟩⟩
theorem make_rc (w : World) (n : Nat) (hn : n ≤ 900000) : ∃ w', (Instr.makeSlice 23 (.int .i64 0) (.int .i64 ((n : Int) + 2))).run Tryz.prog w = .ok (.slice (some ⟨w.heap.size, 0, none⟩) 0 (n + 2)) w' ∧ OwnRc w' w.heap.size (.slice (some ⟨w.heap.size, 0, none⟩) 0 (n + 2)) [] ∧ Below w.heap.size w w' := by
  obtain ⟨i0, hi, hz0, hz1, hz2⟩ := info_parts info_rc
  obtain ⟨w', h1, h2, h3⟩ := run_makeSlice_owned (P := Tryz.prog) (w := w) w.heap.size 23 52 i0 _ 5 Tryz.underlying23 hi hz0 hz1 .i64 .i64 (n + 2) (by omega) (by rw [hz2]; omega) (by unfold maxLen; omega) (Nat.le_refl _)
  exact ⟨w', by rw [show ((n : Int) + 2) = ((n + 2 : Nat) : Int) by omega]; exact h1, h2, (Aside.grown h3 (G := fun _ => False) fun _ h => by simp at h).below fun k hk => ⟨hk, id⟩⟩
theorem size_qn (wx : World) : (sizeOf (Tryz.prog.elem 22)).run Tryz.prog wx = .ok 3 wx := by kernel_rfl
theorem size_rc (wx : World) : (sizeOf (Tryz.prog.elem 23)).run Tryz.prog wx = .ok 5 wx := by kernel_rfl
theorem cut_qn (a : Option Addr) (n m c : Nat) (hm : m ≤ c) (wx : World) : (Instr.slice 22 (.slice a n c) none (some (.int .i64 m)) none).run Tryz.prog wx = .ok (.slice a m c) wx := by
  rw [run_slice_h (P := Tryz.prog) wx 22 a n c Tryz.underlying22 .i64 m (by omega) (by omega), size_qn]
  show Result.ok (sliced a 0 m c 3) wx = _
  unfold sliced
  by_cases h0 : c = 0
  · rw [if_pos h0, Nat.sub_zero, Nat.sub_zero]
  · rw [if_neg h0, Nat.sub_zero, Nat.sub_zero]
    cases a with
    | none => rfl
    | some x => simp [Addr.add]
theorem cut_rc (a : Option Addr) (n m c : Nat) (hm : m ≤ c) (wx : World) : (Instr.slice 23 (.slice a n c) none (some (.int .i64 m)) none).run Tryz.prog wx = .ok (.slice a m c) wx := by
  rw [run_slice_h (P := Tryz.prog) wx 23 a n c Tryz.underlying23 .i64 m (by omega) (by omega), size_rc]
  show Result.ok (sliced a 0 m c 5) wx = _
  unfold sliced
  by_cases h0 : c = 0
  · rw [if_pos h0, Nat.sub_zero, Nat.sub_zero]
  · rw [if_neg h0, Nat.sub_zero, Nat.sub_zero]
    cases a with
    | none => rfl
    | some x => simp [Addr.add]
theorem row_cap {w : World} {B k n : Nat} {e : TypeId} {a : Option Addr} {m c : Nat} {xs : List Value} (h : w.ownsRow B e k (.slice a m c) n xs) : n ≤ c := by
  rcases h.2 with ⟨h2, h0⟩ | ⟨g, cap, cur, h2, _, _, h3, _⟩
  · omega
  · injection h2 with _ _ h2
    omega

set_option maxHeartbeats 2000000 in
theorem copyR_any {w : World} {hi : Nat} {u : Value} {l : List Rc} (h : SR w hi u l) (h1 : hi ≤ w.heap.size) (hl : l.length ≤ 900000) :
    Calls Tryz.prog 29 #[u] w (fun e w' => ∃ v, e = .returned v ∧ CpR w' w.heap.size v l ∧ Below w.heap.size w w') := by
  obtain ⟨w1, hmk, ho1, hb1⟩ := make_rc w l.length hl
  have hu1 : SR w1 hi u l := Lst.below h hb1 h1
  obtain ⟨a2, c2, w2, hr2, ho2, ha2, hk2⟩ := run_appRc ho1 hu1 (by simp; omega) hb1.size
  simp only [List.length_nil, Nat.zero_add, List.nil_append] at hr2 ho2
  have hl1 := World.ownsRow.lt ho1
  have hb2 : Below w.heap.size w w2 := below_aside hb1 ha2 (fun k hk => ⟨Nat.lt_of_lt_of_le hk hb1.size, fun hg => by have := (hl1 k hg).1; omega⟩)
  have hone := sr_one w2 rmark
  have hb3 : Below w.heap.size w (w2.alloc (.cells #[.string (bs rmark.n), .int .i64 rmark.t, .int .i64 rmark.c, .int .i64 rmark.l, .string (bs rmark.d)] 52)) := bel_alloc hb2 _
  obtain ⟨a4, c4, w4, hr4, ho4, ha4, _⟩ := run_appRc (World.ownsRow.alloc ho2 _ : OwnRc (w2.alloc (.cells #[.string (bs rmark.n), .int .i64 rmark.t, .int .i64 rmark.c, .int .i64 rmark.l, .string (bs rmark.d)] 52)) _ _ _) hone (by simp; omega) hb3.size
  simp only [List.length_singleton] at hr4 ho4
  have hl2 := World.ownsRow.lt ho2
  have hb4 : Below w.heap.size w w4 := below_aside hb3 ha4 (fun k hk => ⟨Nat.lt_of_lt_of_le hk hb3.size, fun hg => by have := (hl2 k hg).1; omega⟩)
  have hcut := cut_rc a4 (l.length + 1) l.length c4 (by have := row_cap ho4; rw [List.length_append, List.length_singleton] at this; omega)
  have HO := Lib.hid (show CpR w4 w.heap.size (.slice a4 l.length c4) l from ⟨_, _, rfl, ho4⟩)
  have HB := Lib.hid hb4
  have HR2 := Lib.hid hr2
  have HR4 := Lib.hid hr4
  have HLN := Lib.hid hl
  obtain ⟨a, c, rfl⟩ := Lst.shape h
  obtain ⟨n, hn⟩ : ∃ n, l.length = n := ⟨_, rfl⟩
  rw [hn] at HO HR2 HR4 hcut hmk HLN ⊢
  clear h h1 hl ho1 hb1 hu1 hr2 ho2 ha2 hk2 hl1 hb2 hone hb3 hr4 ho4 ha4 hl2 hb4
  have hn2 := HLN.out
  go_enter Tryz.func29, Tryz.ntmps29
  go_wp2_with (first | (at_builtin; refine wpList_append_run (.tmp 6) (.tmp 7) 23 23 rfl rfl rfl rfl HR2.out ?_) | (at_builtin; refine wpList_append_run (.tmp 8) (.tmp 10) 23 23 rfl rfl rfl rfl HR4.out ?_))
  go_ret
  exact ⟨_, rfl, HO.out, HB.out⟩
end Go.Proofs.YteegekpanadmkaaGreat

/-
  What is said besides, as the statements compare and copy it: SameEdns, BigEdns, CopyEdns.
-/
namespace Go.Proofs.YteegekpanadmkaaGreat
open Go.RowKit Go.Shelf
set_option linter.unusedVariables false
set_option linter.unusedSimpArgs false
set_option maxRecDepth 100000

section
variable {w : World} {q : Nat} {a0 a1 a2 a3 a4 : Value}
def put5 (w : World) (q : Nat) (b0 b1 b2 b3 b4 : Value) : World :=
  ((((w.setCell ⟨q, 0, none⟩ b0).setCell ⟨q, 1, none⟩ b1).setCell ⟨q, 2, none⟩ b2).setCell ⟨q, 3, none⟩ b3).setCell ⟨q, 4, none⟩ b4
theorem cel_put5 (h : Cel w q [a0, a1, a2, a3, a4]) (b0 b1 b2 b3 b4 : Value) : Cel (put5 w q b0 b1 b2 b3 b4) q [b0, b1, b2, b3, b4] := by
  have := ((((h.set (o := 0) (by simp) b0).set (o := 1) (by simp) b1).set (o := 2) (by simp) b2).set (o := 3) (by simp) b3).set (o := 4) (by simp) b4
  simp only [List.set_cons_zero, List.set_cons_succ] at this
  exact this
theorem aside_put5 (w : World) (q : Nat) (b0 b1 b2 b3 b4 : Value) : Aside (fun k => k = q) w (put5 w q b0 b1 b2 b3 b4) := by
  have st : ∀ (x : World) (o : Nat) (v : Value), Aside (fun k => k = q) x (x.setCell ⟨q, o, none⟩ v) := fun x o v => Aside.setCell x (p := ⟨q, o, none⟩) v rfl
  exact ((((st _ _ _).trans (st _ _ _)).trans (st _ _ _)).trans (st _ _ _)).trans (st _ _ _)
end

end Go.Proofs.YteegekpanadmkaaGreat

/-
  The records of a list that are of the type, and those that are not: opts, others.
-/
namespace Go.Proofs.YteegekpanadmkaaGreat
open Go.RowKit Go.Shelf
set_option linter.unusedVariables false
set_option linter.unusedSimpArgs false
set_option maxRecDepth 100000

theorem notO_any (x : Rc) (w : World) : Calls Tryz.prog 75 #[.agg #[.string (bs x.n), .int .i64 x.t, .int .i64 x.c, .int .i64 x.l, .string (bs x.d)]] w (Tells w (.bool (!isO x))) := by
  obtain ⟨n, t, c, l, d⟩ := x
  by_cases h : t = 41
  · have e : isO ⟨n, t, c, l, d⟩ = true := by unfold isO; simp [h]
    subst h
    rw [e]
    go_enter Tryz.func75, Tryz.ntmps75
    go_wp2
    go_ret
    exact ⟨rfl, (Below.refl _ _).alloc (Nat.le_refl _) _⟩
  · have e : isO ⟨n, t, c, l, d⟩ = false := by unfold isO; simp [h]
    rw [e]
    have t1 : (t != 41) = true := by simpa using h
    go_enter Tryz.func75, Tryz.ntmps75
    go_wp2
    go_ret
    exact ⟨by simp [h], (Below.refl _ _).alloc (Nat.le_refl _) _⟩

def Kp (w : World) (B : Nat) (v : Value) (l : List Rc) : Prop := OwnRc w B v l ∨ (l = [] ∧ ∃ a, v = .slice (some a) 0 0)
section
variable {w w' : World} {B : Nat} {v : Value} {l : List Rc}
theorem Kp.below (h : Kp w B v l) (hb : Below w.heap.size w w') : Kp w' B v l := h.imp (fun h => row_below h hb) id
theorem Kp.aside {G : Nat → Prop} (h : Kp w B v l) (ha : Aside G w w') (hG : ∀ k, B ≤ k → ¬ G k) : Kp w' B v l := h.imp (fun h => row_aside h ha fun k hk => hG k (World.ownsRow.lt h k hk).1) id
theorem Kp.base {B' : Nat} (h : Kp w B v l) (hB : B' ≤ B) : Kp w B' v l := h.imp (fun h => row_base h hB) id
theorem Kp.shape (h : Kp w B v l) : ∃ a c, v = .slice a l.length c := by
  rcases h with h | ⟨rfl, a, rfl⟩
  · exact row_shape h
  · exact ⟨_, _, rfl⟩
theorem Kp.sr (h : Kp w B v l) (hl : l.length ≤ 1000000) : SR w w.heap.size v l := by
  rcases h with h | ⟨rfl, a, rfl⟩
  · exact Lst.own h hl
  · exact ⟨some a, 0, rfl, by simp, fun h => (by cases h), fun h => absurd h (by simp)⟩
theorem kp_start (w : World) (B : Nat) (a : Option Addr) : Kp w B (.slice a 0 0) [] := by
  cases a with
  | none => exact .inl (World.ownsRow_nil _ _ _ _)
  | some a => exact .inr ⟨rfl, a, rfl⟩
theorem Kp.app (h : Kp w B v l) {hi : Nat} {u : Value} {x : Rc} (hx : SR w hi u [x]) (hl : l.length + 1 ≤ 1000000) (hB : B ≤ w.heap.size) :
    ∃ a c w', (Builtin.append_ #[23, 23] 23 #[v, u]).run Tryz.prog w = .ok (.slice a (l.length + 1) c) w' ∧ Kp w' B (.slice a (l.length + 1) c) (l ++ [x]) ∧ Aside (fun b => B ≤ b) w w' := by
  rcases h with h | ⟨rfl, a, rfl⟩
  · obtain ⟨a, c, w', h1, h2, h3, _⟩ := run_appRc h hx hl hB
    exact ⟨a, c, w', h1, .inl h2, h3.mono fun k _ hk => (World.ownsRow.lt h k hk).1⟩
  · obtain ⟨ua, uc, rfl, _, _, h2⟩ := hx
    obtain ⟨b, off, rfl, _, h4⟩ := h2 (by simp)
    obtain ⟨i0, hi0, hz0, hz1, hz2⟩ := info_parts info_rc
    have hr := run_append_grow (P := Tryz.prog) w 23 23 52 i0 _ Tryz.underlying23 hi0 hz0 a 0 0 [] (by simp) (by simp) ⟨b, off, none⟩ 1 uc (acr [x]) (by rw [acr_len, hz1]; rfl) (fun j v hv => by rw [WideShapes.add_plain]; exact h4 j v hv) (by omega) (by decide) (by rw [hz2]; decide)
    have hg := grownCap_ge w (0 + 1) 0 52
    have hcm := grownCap_le_maxLen w (0 + 1) 0 52 (by decide)
    obtain ⟨G, hG⟩ : ∃ G, grownCap w (0 + 1) 0 52 = G := ⟨_, rfl⟩
    rw [hG] at hr hg hcm
    refine ⟨_, _, _, hr, .inl ⟨by rw [acr_len], .inr ⟨w.heap.size, _, _, rfl, hB, World.alloc_heap_new w.drew _, hg, hcm, ?_, ?_⟩⟩, ?_⟩
    · have e1 : (acr [x]).length = 5 := rfl
      simp only [Array.size_append, List.size_toArray, size_zeroCells, e1, List.length_nil, List.nil_append, List.length_singleton]
      show 0 + 5 + (G - (0 + 1)) * 5 = G * 5
      omega
    · simp [acr, cr]
    · exact ⟨rfl, rfl, rfl, by simp, fun k hk hg => Below.heap_alloc w.drew _ k hk⟩
end

set_option maxHeartbeats 1000000 in
theorem those_others {w : World} {hi : Nat} {u : Value} {l : List Rc} (h : SR w hi u l) (h1 : hi ≤ w.heap.size) (hl : l.length ≤ 900000) :
    Calls Tryz.prog 74 #[u, .func (.func 75) #[] #[]] w (fun e w' => ∃ v, e = .returned v ∧ Kp w' w.heap.size v (l.filter (fun x => !isO x)) ∧ Below w.heap.size w w') := by
  have HX := Lib.hid h
  have HN := Lib.hid (Lst.len h)
  have HL := Lib.hid hl
  obtain ⟨a, c, rfl⟩ := Lst.shape h
  obtain ⟨N, hN⟩ : ∃ N, w.heap.size = N := ⟨_, rfl⟩
  have HK0 := Lib.hid (kp_start w N a)
  have HB0 := Lib.hid (show Below N w w from Below.refl _ _)
  have HHI := Lib.hid (show hi ≤ N by omega)
  clear h h1 hl
  go_enter Tryz.func74, Tryz.ntmps74
  go_wp2_with fail
  go_loopg [5, 12] l.length (fun g v5 v12 wr => ∃ k : Nat, k + g = l.length ∧ v12 = .int .i64 k ∧ Hid (Kp wr N v5 ((l.take k).filter (fun x => !isO x))) ∧ Hid (Below N w wr) ∧ N ≤ wr.heap.size)
  case atStart => exact ⟨0, by omega, rfl, by simpa using HK0, HB0, by omega⟩
  case round =>
    clear HK0 HB0
    obtain ⟨k, hk, rfl, HK, HB, hsz⟩ := hrel
    have hlen := HN.out
    by_cases hlt : k < l.length
    · obtain ⟨b, off, c2, he, hb, hc⟩ := HX.out.at_ k hlt
      injection he with he hn3 hc3
      clear hn3 hc3
      subst he
      obtain ⟨c0, c1, c2, c3, c4⟩ := hc.keep fun o => HB.out.cell (p := ⟨b, o, none⟩) (Nat.lt_of_lt_of_le hb HHI.out)
      have HTK := Lib.hid (show l.take (k + 1) = l.take k ++ [l[k]] by rw [List.take_add_one, List.getElem?_eq_getElem hlt]; rfl)
      obtain ⟨x, hx⟩ : ∃ x, l[k] = x := ⟨_, rfl⟩
      rw [hx] at c0 c1 c2 c3 c4 HTK
      have HC := Lib.hid (fun wx => notO_any x wx)
      obtain ⟨L, hL⟩ : ∃ L, (l.take k).filter (fun x => !isO x) = L := ⟨_, rfl⟩
      rw [hL] at HK
      have HLL := Lib.hid (show L.length ≤ 900000 by rw [← hL]; exact Nat.le_trans (List.length_filter_le _ _) (Nat.le_trans (by rw [List.length_take]; omega) HL.out))
      have HTF := Lib.hid (show (l.take (k + 1)).filter (fun x => !isO x) = L ++ [x].filter (fun x => !isO x) by rw [HTK.out, List.filter_append, hL])
      obtain ⟨g, hg⟩ : ∃ g, wr.heap.size = g := ⟨_, rfl⟩
      have HQC := Lib.hid (show Cel (wr.alloc (.cells #[.string (bs x.n), .int .i64 x.t, .int .i64 x.c, .int .i64 x.l, .string (bs x.d)] 52)) g [.string (bs x.n), .int .i64 x.t, .int .i64 x.c, .int .i64 x.l, .string (bs x.d)] by
        have := cel_new wr (.string (bs x.n)) (.int .i64 x.t) (.int .i64 x.c) (.int .i64 x.l) (.string (bs x.d)) 52
        rwa [hg] at this)
      have hb1 : Below wr.heap.size wr (wr.alloc (.cells #[.string (bs x.n), .int .i64 x.t, .int .i64 x.c, .int .i64 x.l, .string (bs x.d)] 52)) := (Below.refl _ _).alloc (Nat.le_refl _) _
      have HGN := Lib.hid (show N ≤ g by omega)
      replace HK := Lib.hid (HK.out.below hb1)
      replace HB := Lib.hid (HB.out.alloc hsz (.cells #[.string (bs x.n), .int .i64 x.t, .int .i64 x.c, .int .i64 x.l, .string (bs x.d)] 52))
      clear hc hx hb hb1 hL hsz
      go_wp2_with fail
      refine (HC.out _).mono ?_; rintro e w3 ⟨rfl, hb⟩
      have HQ3 := Lib.hid (HQC.out.below (by simp) hb)
      replace HK := Lib.hid (HK.out.below hb)
      replace HB := Lib.hid (HB.out.trans (hb.mono (by have := HGN.out; simp; omega)))
      have HS3 := Lib.hid (show g < w3.heap.size from HQ3.out.lt (by simp))
      clear hb
      by_cases hp : (!isO x) = true
      · rw [hp]
        have hone := sr_one w3 x
        have hb4 : Below w3.heap.size w3 (w3.alloc (.cells #[.string (bs x.n), .int .i64 x.t, .int .i64 x.c, .int .i64 x.l, .string (bs x.d)] 52)) := (Below.refl _ _).alloc (Nat.le_refl _) _
        have hsz4 : N ≤ (w3.alloc (.cells #[.string (bs x.n), .int .i64 x.t, .int .i64 x.c, .int .i64 x.l, .string (bs x.d)] 52)).heap.size := by have := HS3.out; have := HGN.out; simp; omega
        obtain ⟨a6, c6, w6, hr, hk6, ha6⟩ := (HK.out.below hb4).app hone (by have := HLL.out; omega) hsz4
        have hf : (l.take (k + 1)).filter (fun x => !isO x) = L ++ [x] := by rw [HTF.out, List.filter_cons_of_pos (by simpa using hp), List.filter_nil]
        have HK6 := Lib.hid (show Kp w6 N (.slice a6 (L.length + 1) c6) ((l.take (k + 1)).filter (fun x => !isO x)) by rw [hf]; exact hk6)
        have HB6 := Lib.hid (below_aside (HB.out.alloc (by have := HS3.out; have := HGN.out; omega) _) ha6 (fun k hk => ⟨by omega, by omega⟩))
        have HSZ := Lib.hid (Nat.le_trans hsz4 ha6.size)
        obtain ⟨av, cv, rfl⟩ := HK.out.shape
        have HR := Lib.hid hr
        obtain ⟨q0, q1, q2, q3, q4⟩ := HQ3.out.five
        clear hone hb4 hsz4 hr hk6 ha6 hf HK HB HQC HQ3
        go_wp2_with (at_builtin; refine wpList_append_run (.tmp 19) (.tmp 21) 23 23 rfl rfl rfl rfl HR.out ?_)
        go_roundg (l.length - (k + 1))
        case measure => omega
        case rel => exact ⟨k + 1, by omega, by go_num, HK6, HB6, HSZ.out⟩
      · have hp2 : (!isO x) = false := by simpa using hp
        rw [hp2]
        have hfe : (l.take (k + 1)).filter (fun x => !isO x) = L := by rw [HTF.out, List.filter_cons_of_neg (by simpa using hp), List.filter_nil, List.append_nil]
        have HK6 := HK
        rw [← hfe] at HK6
        clear hfe
        have HSZ := Lib.hid (show N ≤ w3.heap.size by have := HS3.out; have := HGN.out; omega)
        clear HK HQC HQ3
        go_wp2_with fail
        go_roundg (l.length - (k + 1))
        case measure => omega
        case rel => exact ⟨k + 1, by omega, by go_num, HK6, HB, HSZ.out⟩
    · have t1 : ¬ ((k : Int) < l.length) := by omega
      have hkl : l.take k = l := List.take_of_length_le (by omega)
      rw [hkl] at HK
      clear hkl
      go_wp2_with fail
      go_ret
      exact ⟨_, rfl, by first | exact HK.out | (rw [hN]; exact HK.out), by first | exact HB.out | (rw [hN]; exact HB.out)⟩
theorem others_any {w : World} {hi : Nat} {u : Value} {l : List Rc} (h : SR w hi u l) (h1 : hi ≤ w.heap.size) (hl : l.length ≤ 900000) :
    Calls Tryz.prog 53 #[u] w (fun e w' => ∃ v, e = .returned v ∧ Kp w' w.heap.size v (noL l) ∧ Below w.heap.size w w') := by
  have H := Lib.hid (those_others h h1 hl)
  obtain ⟨a, c, rfl⟩ := Lst.shape h
  clear h
  go_enter Tryz.func53, Tryz.ntmps53
  go_wp2_with fail
  refine H.out.mono ?_; rintro e w1 ⟨v, rfl, hs, hb⟩
  have HS := Lib.hid hs
  have HB := Lib.hid hb
  clear hs hb
  go_wp2_with fail
  go_ret
  exact ⟨_, rfl, HS.out, HB.out⟩
end Go.Proofs.YteegekpanadmkaaGreat

/-
  The room behind copied records is as it was.
-/
namespace Go.Proofs.YteegekpanadmkaaGreat
open Go.RowKit Go.Shelf
set_option linter.unusedVariables false
set_option linter.unusedSimpArgs false
set_option maxRecDepth 100000

theorem CpR.spot {w : World} {B : Nat} {v : Value} {l : List Rc} (h : CpR w B v l) : ∃ g c, v = .slice (some ⟨g, 0, none⟩) l.length c ∧ l.length + 1 ≤ c ∧ w.cell? ⟨g, l.length * 5 + 1, none⟩ = some (.int .i64 7) := by
  obtain ⟨a, c, rfl, h1⟩ := h
  have hc := row_cap h1
  rw [List.length_append, List.length_singleton] at hc
  have hcells := fun g hg => World.ownsRow.cells h1 (g := g) hg
  rcases h1.2 with ⟨_, h0⟩ | ⟨g, cap, cur, h2, _⟩
  · simp at h0
  · injection h2 with h2 h3 h4
    subst h2
    refine ⟨g, c, rfl, hc, ?_⟩
    have := hcells g rfl (l.length * 5 + 1) (.int .i64 7) (by
      rw [acr_app, List.getElem?_append_right (by rw [acr_len]; omega), acr_len, Nat.add_sub_cancel_left]
      rfl)
    rw [WideShapes.add_plain, Nat.zero_add] at this
    exact this
theorem CpQ.spot {w : World} {B : Nat} {v : Value} {l : List Qn} (h : CpQ w B v l) : ∃ g c, v = .slice (some ⟨g, 0, none⟩) l.length c ∧ l.length + 1 ≤ c ∧ w.cell? ⟨g, l.length * 3 + 1, none⟩ = some (.int .i64 7) := by
  obtain ⟨a, c, rfl, h1⟩ := h
  have hc := row_cap h1
  rw [List.length_append, List.length_singleton] at hc
  have hcells := fun g hg => World.ownsRow.cells h1 (g := g) hg
  rcases h1.2 with ⟨_, h0⟩ | ⟨g, cap, cur, h2, _⟩
  · simp at h0
  · injection h2 with h2 h3 h4
    subst h2
    refine ⟨g, c, rfl, hc, ?_⟩
    have := hcells g rfl (l.length * 3 + 1) (.int .i64 7) (by
      rw [acq_app, List.getElem?_append_right (by rw [acq_len]; omega), acq_len, Nat.add_sub_cancel_left]
      rfl)
    rw [WideShapes.add_plain, Nat.zero_add] at this
    exact this

set_option maxHeartbeats 2000000 in
theorem keptR_any {w : World} {B : Nat} {v : Value} {l : List Rc} (h : CpR w B v l) (hl : l.length ≤ 900000) : Calls Tryz.prog 44 #[v] w fun e w' => e = .returned (.bool true) ∧ w = w' := by
  obtain ⟨g, c, rfl, hc, h7⟩ := h.spot
  obtain ⟨n, hn⟩ : ∃ n, l.length = n := ⟨_, rfl⟩
  rw [hn] at hc h7 hl ⊢
  clear h hn
  have hcut : ∀ wx, (Instr.slice 23 (.slice (some ⟨g, 0, none⟩) n c) none (some (.int .i64 ((n : Int) + 1))) none).run Tryz.prog wx = .ok (.slice (some ⟨g, 0, none⟩) (n + 1) c) wx := fun wx => by
    rw [show ((n : Int) + 1) = ((n + 1 : Nat) : Int) by omega]
    exact cut_rc _ n (n + 1) c hc wx
  have e1 : ((n + 1 : Nat) : Int) - 1 = n := by omega
  have e2 : ((n : Int) + 1) - 1 = n := by omega
  go_enter Tryz.func44, Tryz.ntmps44
  go_wp2
  go_ret
  exact ⟨rfl, rfl⟩
def CpM (w : World) (B : Nat) (v : Value) (m : Ms) : Prop := ∃ q a n r, v = .agg #[.int .i64 m.id, .int .i64 m.fl, q, a, n, r] ∧ CpQ w B q m.q ∧ CpR w B a m.an ∧ CpR w B n m.ns ∧ CpR w B r m.ar
theorem CpM.below {w w' : World} {B : Nat} {v : Value} {m : Ms} (h : CpM w B v m) (hb : Below w.heap.size w w') : CpM w' B v m := by
  obtain ⟨q, a, n, r, rfl, h1, h2, h3, h4⟩ := h
  exact ⟨q, a, n, r, rfl, h1.below hb, h2.below hb, h3.below hb, h4.below hb⟩
theorem CpM.mg {w : World} {B : Nat} {v : Value} {m : Ms} (h : CpM w B v m) (hl : m.q.length + m.an.length + m.ns.length + m.ar.length ≤ 900000) : Mg w w.heap.size v m := by
  obtain ⟨q, a, n, r, rfl, h1, h2, h3, h4⟩ := h
  exact ⟨q, a, n, r, rfl, h1.sq (by omega), h2.sr (by omega), h3.sr (by omega), h4.sr (by omega)⟩

set_option maxHeartbeats 4000000 in
theorem keptM_any {w : World} {B hi : Nat} {u v : Value} {m : Ms} (h : CpM w B u m) (h2 : Mg w hi v m) (h1 : hi ≤ w.heap.size) (hl : m.q.length + m.an.length + m.ns.length + m.ar.length ≤ 900000) :
    Calls Tryz.prog 16 #[u, v] w (Tells w (.bool true)) := by
  have HMG := Lib.hid (h.mg hl)
  have HM2 := Lib.hid (h2.wide h1)
  obtain ⟨q, a, n, r, rfl, cq, ca, cn, cr⟩ := h
  obtain ⟨q', a', n', r', rfl, hq, ha, hn, hr⟩ := h2
  obtain ⟨qa, qc, rfl⟩ := Lst.shape hq
  obtain ⟨aa, ac, rfl⟩ := Lst.shape ha
  obtain ⟨na, nc, rfl⟩ := Lst.shape hn
  obtain ⟨ra, rc, rfl⟩ := Lst.shape hr
  have HCA := Lib.hid (fun wx (hb : Below w.heap.size w wx) => keptR_any (ca.below hb) (by omega))
  have HCN := Lib.hid (fun wx (hb : Below w.heap.size w wx) => keptR_any (cn.below hb) (by omega))
  have HCR := Lib.hid (fun wx (hb : Below w.heap.size w wx) => keptR_any (cr.below hb) (by omega))
  obtain ⟨g, c, rfl, hc, h7⟩ := cq.spot
  obtain ⟨a1, c1, rfl, _⟩ := ca
  obtain ⟨a2, c2, rfl, _⟩ := cn
  obtain ⟨a3, c3, rfl, _⟩ := cr
  obtain ⟨i0, hi0⟩ : ∃ i, m.id = i := ⟨_, rfl⟩
  obtain ⟨f0, hf0⟩ : ∃ i, m.fl = i := ⟨_, rfl⟩
  obtain ⟨lq, hlq⟩ : ∃ i, m.q.length = i := ⟨_, rfl⟩
  obtain ⟨la, hla⟩ : ∃ i, m.an.length = i := ⟨_, rfl⟩
  obtain ⟨ln, hln⟩ : ∃ i, m.ns.length = i := ⟨_, rfl⟩
  obtain ⟨lr, hlr⟩ : ∃ i, m.ar.length = i := ⟨_, rfl⟩
  rw [hi0, hf0, hlq, hla, hln, hlr] at HMG HM2
  rw [hi0, hf0, hlq, hla, hln, hlr]
  rw [hlq] at hc h7
  rw [hla] at HCA
  rw [hln] at HCN
  rw [hlr] at HCR
  rw [hlq, hla, hln, hlr] at hl
  have hcut : ∀ wx, (Instr.slice 22 (.slice (some ⟨g, 0, none⟩) lq c) none (some (.int .i64 ((lq : Int) + 1))) none).run Tryz.prog wx = .ok (.slice (some ⟨g, 0, none⟩) (lq + 1) c) wx := fun wx => by
    rw [show ((lq : Int) + 1) = ((lq + 1 : Nat) : Int) by omega]
    exact cut_qn _ lq (lq + 1) c hc wx
  have e1 : ((lq + 1 : Nat) : Int) - 1 = lq := by omega
  have e2 : ((lq : Int) + 1) - 1 = lq := by omega
  have hb0 : Below w.heap.size w ((w.alloc (.cells #[.int .i64 i0, .int .i64 f0, .slice (some ⟨g, 0, none⟩) lq c, .slice a1 la c1, .slice a2 ln c2, .slice a3 lr c3] 25)).alloc (.cells #[.int .i64 i0, .int .i64 f0, .slice qa lq qc, .slice aa la ac, .slice na ln nc, .slice ra lr rc] 25)) := ((Below.refl _ _).alloc (Nat.le_refl _) _).alloc (by simp) _
  obtain ⟨N, hN⟩ : ∃ N, w.heap.size = N := ⟨_, rfl⟩
  have hx := (cel_new6 w (.int .i64 i0) (.int .i64 f0) (.slice (some ⟨g, 0, none⟩) lq c) (.slice a1 la c1) (.slice a2 ln c2) (.slice a3 lr c3) 25).below (by simp) ((Below.refl _ _).alloc (Nat.le_refl _) (.cells #[.int .i64 i0, .int .i64 f0, .slice qa lq qc, .slice aa la ac, .slice na ln nc, .slice ra lr rc] 25))
  rw [hN] at hx
  have hgl : g < w.heap.size := World.block_lt_of_cell? w _ h7
  have HX := Lib.hid hx
  have HB := Lib.hid hb0
  have H7 := Lib.hid h7
  have HGL := Lib.hid hgl
  replace HMG := Lib.hid (HMG.out.later hb0)
  replace HM2 := Lib.hid (HM2.out.later hb0)
  clear hx hb0 h7 hgl hq ha hn hr h1 cq hi0 hf0 hlq hla hln hlr
  go_enter Tryz.func16, Tryz.ntmps16
  go_wp2_with fail
  refine (sameM_yes HMG.out HM2.out (Nat.le_refl _) (Nat.le_refl _)).mono ?_; rintro e w1 ⟨rfl, hb⟩
  replace HB := Lib.hid (bel_call HB.out hb)
  replace HX := Lib.hid (HX.out.below (by simp) hb)
  have k7 : w1.cell? ⟨g, lq * 3 + 1, none⟩ = some (.int .i64 7) := (HB.out.cell (p := ⟨g, lq * 3 + 1, none⟩) HGL.out).trans H7.out
  obtain ⟨c0, d1, d2, d3, d4, d5⟩ := HX.out.six
  clear hb
  go_wp2_with fail
  refine (HCA.out _ HB.out).mono ?_; rintro e w2 ⟨rfl, rfl⟩
  go_wp2_with fail
  refine (HCN.out _ HB.out).mono ?_; rintro e w2 ⟨rfl, rfl⟩
  go_wp2_with fail
  refine (HCR.out _ HB.out).mono ?_; rintro e w2 ⟨rfl, rfl⟩
  go_wp2_with fail
  go_ret
  exact ⟨rfl, HB.out⟩
end Go.Proofs.YteegekpanadmkaaGreat

/-
  A region whose loads are fixed by what holds till its last operation, a store, comes up.
-/
namespace Go.Proofs.YteegekpanadmkaaGreat
open Go.RowKit Go.Shelf
set_option linter.unusedVariables false
set_option linter.unusedSimpArgs false

section
variable {P : Program} {md : Region.Mode} {ops : Array Oper} {Q : Exit → Act → World → Prop} {S : World → Prop} {k : Nat}

def Till (P : Program) (md : Region.Mode) (ops : Array Oper) (Q : Exit → Act → World → Prop) (S : World → Prop) (k : Nat) (n : Nat) (l : Array Bool) (a : Act) (w : World) : Prop :=
  match n with
  | 0 => Region.ready md ops l = [] ∧ Q .normal a w
  | n + 1 => (Region.ready md ops l = [] → Q .normal a w) ∧ ∀ i, i ∈ Region.ready md ops l → wpOp P ops Q i (fun a' w' => (i ≠ k → S w') ∧ Till P md ops Q S k n (l.setIfInBounds i true) a' w') a w

theorem Till.any (n : Nat) : ∀ (l : Array Bool) (a : Act) (w : World), Till P md ops Q S k n l a w → wpAny P md ops Q n l a w := by
  induction n with
  | zero => exact fun _ _ _ h => h
  | succ n ih => exact fun l a w h => ⟨h.1, fun i hi => wpOp_mono (fun a' w' hh => ih _ a' w' hh.2) (h.2 i hi)⟩

theorem not_ready {i j : Nat} {l : Array Bool} (hi : i ∈ Region.ready md ops l) {o : Oper} (ho : ops[j]? = some o) (hj : j ∈ Region.ready md ops l) {e : Edge} (he : e ∈ o.after) (hb : Region.binds md e = true) : e.on ≠ i := by
  rintro rfl
  obtain ⟨_, o', ho', hall⟩ := mem_ready.1 hj
  obtain rfl : o = o' := by rw [ho] at ho'; exact Option.some.inj ho'
  have h1 := hall e he hb
  have h0 := (mem_ready.1 hi).1
  by_cases hs : e.on < l.size
  · simp only [Array.getD, hs, dite_true] at h0 h1
    rw [h0] at h1
    cases h1
  · simp only [Array.getD, hs, dite_false] at h1
    cases h1

theorem till_first {i : Nat} {oi ok : Oper} {v : Value} (hi : ops[i]? = some oi) (hk : ops[k]? = some ok) {e : Edge} (he : e ∈ ok.after) (hbe : Region.binds md e = true) (hei : e.on = i) (hns : Region.noSelect ops = true)
    (hQ : ∀ c a w, Q (.panic c) (a.put oi.dst v) w → Q (.panic c) a w) (n : Nat) : ∀ (l : Array Bool) (a : Act) (w : World),
      (∀ j oj, ops[j]? = some oj → j ≠ i → l.getD j true = false → (∀ e ∈ oj.after, Region.binds md e = true → e.on ≠ i) → oi.apart ops oj = true) →
      i ∈ Region.ready md ops l → YieldsIf P ops S oi v a → S w → Till P md ops Q S k n (l.setIfInBounds i true) (a.put oi.dst v) w → Till P md ops Q S k (n + 1) l a w := by
  have hsel := Region.noSelect_spec hns
  induction n with
  | zero =>
    intro l a w _ hr hy hS H
    refine ⟨fun h => absurd (h ▸ hr) (by simp), fun j hj => ?_⟩
    rcases Nat.decEq j i with hji | rfl
    · have hm := ready_mono hj hji
      rw [H.1] at hm
      exact absurd hm (by simp)
    · exact hy.wpOp hi hS ⟨fun _ => hS, H⟩
  | succ n ih =>
    intro l a w hf hr hy hS H
    refine ⟨fun h => absurd (h ▸ hr) (by simp), fun j hj => ?_⟩
    rcases Nat.decEq j i with hji | rfl
    · obtain ⟨hun, oj, hoj, _⟩ := mem_ready.1 hj
      have hjk : j ≠ k := by
        rintro rfl
        exact not_ready hr hk hj he hbe hei
      have hap := hf j oj hoj hji hun fun e' he' hb' => not_ready hr hoj hj he' hb'
      refine wpOp_mono ?_ (wpOp_putIf hoj hap (fun cs b => hsel i oi cs b hi) (fun cs b => hsel j oj cs b hoj) hQ hy (H.2 j (ready_mono hj hji)))
      rintro a' w' ⟨hy', hS', hT⟩
      refine ⟨hS', ih _ a' w' (fun m om hm hmi hmu hmn => hf m om hm hmi ?_ hmn) (ready_mono hr (Ne.symm hji)) hy' (hS' hjk) ?_⟩
      · rcases Nat.decEq j m with hjm | rfl
        · rwa [getD_set_ne true hjm] at hmu
        · exact hun
      · rw [Array.setIfInBounds_comm _ _ hji]
        exact hT
    · exact hy.wpOp hi hS ⟨fun _ => hS, H⟩

def waitsB (md : Region.Mode) (ops : Array Oper) (k i : Nat) : Bool := match ops[k]? with
  | some o => o.after.any fun e => Region.binds md e && e.on == i
  | none => false

theorem till_take {i : Nat} {oi : Oper} {v : Value} {n : Nat} {l : Array Bool} {a : Act} {w : World} (hi : ops[i]? = some oi) (hs : Region.noSelect ops = true) (hf : Region.free md ops l i = true)
    (hr : (Region.ready md ops l).contains i = true) (hQ : ∀ c a w, Q (.panic c) (a.put oi.dst v) w → Q (.panic c) a w) (hy : YieldsIf P ops S oi v a) (hS : S w)
    (h : Till P md ops Q S k n (l.setIfInBounds i true) (a.put oi.dst v) w) (hw : waitsB md ops k i = true := by kernel_rfl) : Till P md ops Q S k (n + 1) l a w := by
  unfold waitsB at hw
  split at hw
  · rename_i ok hk
    obtain ⟨e, he, hbe⟩ := Array.any_eq_true'.mp hw
    rw [Bool.and_eq_true] at hbe
    exact till_first hi hk he hbe.1 (by simpa using hbe.2) hs hQ n l a w (Region.free_spec hi hf) (by simpa using hr) hy hS h
  · cases hw

def TillAll (P : Program) (md : Region.Mode) (ops : Array Oper) (Q : Exit → Act → World → Prop) (S : World → Prop) (k : Nat) (n : Nat) (l : Array Bool) (a : Act) (w : World) (rs : List Nat) : Prop :=
  ∀ i, i ∈ rs → wpOp P ops Q i (fun a' w' => (i ≠ k → S w') ∧ Till P md ops Q S k n (l.setIfInBounds i true) a' w') a w
theorem TillAll.nil {n : Nat} {l : Array Bool} {a : Act} {w : World} : TillAll P md ops Q S k n l a w [] := fun _ h => by cases h
theorem TillAll.cons {n : Nat} {l : Array Bool} {a : Act} {w : World} {i : Nat} {o : Oper} {rs : List Nat} (ho : ops[i]? = some o)
    (h : ∀ K' : Act → World → Prop, Shut (∀ a w, S w → (S w → Till P md ops Q S k n (l.setIfInBounds i true) a w) → K' a w) → if Region.wanted o (yielded ops a.tmps) = true then Oper.wp P o a w K' Q else K' (a.put o.dst undef) w)
    (hs : TillAll P md ops Q S k n l a w rs) (hik : i ≠ k := by decide) : TillAll P md ops Q S k n l a w (i :: rs) := fun j hj => by
  rcases List.mem_cons.1 hj with rfl | hj
  · exact wpOp_step ho fun K' hK => h K' fun a w hS hW => hK a w ⟨fun _ => hS, hW hS⟩
  · exact hs j hj
theorem TillAll.last {n : Nat} {l : Array Bool} {a : Act} {w : World} {o : Oper} {rs : List Nat} (ho : ops[k]? = some o)
    (h : ∀ K' : Act → World → Prop, Shut (∀ a w, True → (True → Till P md ops Q S k n (l.setIfInBounds k true) a w) → K' a w) → if Region.wanted o (yielded ops a.tmps) = true then Oper.wp P o a w K' Q else K' (a.put o.dst undef) w)
    (hs : TillAll P md ops Q S k n l a w rs) : TillAll P md ops Q S k n l a w (k :: rs) := fun j hj => by
  rcases List.mem_cons.1 hj with rfl | hj
  · exact wpOp_step ho fun K' hK => h K' fun a w _ hW => hK a w ⟨fun hk => absurd rfl hk, hW trivial⟩
  · exact hs j hj
theorem till_ready {rs : List Nat} {n : Nat} {l : Array Bool} {a : Act} {w : World} (hr : Region.ready md ops l = rs) (hne : rs ≠ []) (h : TillAll P md ops Q S k n l a w rs) : Till P md ops Q S k (n + 1) l a w :=
  ⟨fun h0 => absurd (hr ▸ h0) hne, hr ▸ h⟩
theorem till_done {l : Array Bool} {a : Act} {w : World} (hr : Region.ready md ops l = []) (h : Q .normal a w) (n : Nat) : Till P md ops Q S k n l a w := by
  cases n with
  | zero => exact ⟨hr, h⟩
  | succ n => exact ⟨fun _ => h, fun i hi => by rw [hr] at hi; cases hi⟩
theorem wp_region_till {id : Nat} {a : Act} {w : World} (k : Nat) (hm : P.follows .mixedOrders = true) (hS : S w.drew)
    (h : S w.drew → Till P .any ops Q S k ops.size (Array.replicate ops.size false) a w.drew) : (Code.region id ops true).wp P Q a w :=
  wp_region_any hm (Till.any _ _ _ _ (h hS))
end
end Go.Proofs.YteegekpanadmkaaGreat

/-
  A region whose loads are fixed by what holds till the first of some last operations, stores, comes up.
-/
namespace Go.Proofs.YteegekpanadmkaaGreat
open Go.RowKit Go.Shelf
set_option linter.unusedVariables false
set_option linter.unusedSimpArgs false

section
variable {P : Program} {md : Region.Mode} {ops : Array Oper} {Q : Exit → Act → World → Prop} {S : World → Prop} {ks : List Nat}

def Tilk (P : Program) (md : Region.Mode) (ops : Array Oper) (Q : Exit → Act → World → Prop) (S : World → Prop) (ks : List Nat) (n : Nat) (l : Array Bool) (a : Act) (w : World) : Prop :=
  match n with
  | 0 => Region.ready md ops l = [] ∧ Q .normal a w
  | n + 1 => (Region.ready md ops l = [] → Q .normal a w) ∧ ∀ i, i ∈ Region.ready md ops l → wpOp P ops Q i (fun a' w' => (i ∉ ks → S w') ∧ Tilk P md ops Q S ks n (l.setIfInBounds i true) a' w') a w

theorem Tilk.any (n : Nat) : ∀ (l : Array Bool) (a : Act) (w : World), Tilk P md ops Q S ks n l a w → wpAny P md ops Q n l a w := by
  induction n with
  | zero => exact fun _ _ _ h => h
  | succ n ih => exact fun l a w h => ⟨h.1, fun i hi => wpOp_mono (fun a' w' hh => ih _ a' w' hh.2) (h.2 i hi)⟩

theorem tilk_first {i : Nat} {oi : Oper} {v : Value} (hi : ops[i]? = some oi) (hw : ∀ k ∈ ks, waitsB md ops k i = true) (hns : Region.noSelect ops = true)
    (hQ : ∀ c a w, Q (.panic c) (a.put oi.dst v) w → Q (.panic c) a w) (n : Nat) : ∀ (l : Array Bool) (a : Act) (w : World),
      (∀ j oj, ops[j]? = some oj → j ≠ i → l.getD j true = false → (∀ e ∈ oj.after, Region.binds md e = true → e.on ≠ i) → oi.apart ops oj = true) →
      i ∈ Region.ready md ops l → YieldsIf P ops S oi v a → S w → Tilk P md ops Q S ks n (l.setIfInBounds i true) (a.put oi.dst v) w → Tilk P md ops Q S ks (n + 1) l a w := by
  have hsel := Region.noSelect_spec hns
  induction n with
  | zero =>
    intro l a w _ hr hy hS H
    refine ⟨fun h => absurd (h ▸ hr) (by simp), fun j hj => ?_⟩
    rcases Nat.decEq j i with hji | rfl
    · have hm := ready_mono hj hji
      rw [H.1] at hm
      exact absurd hm (by simp)
    · exact hy.wpOp hi hS ⟨fun _ => hS, H⟩
  | succ n ih =>
    intro l a w hf hr hy hS H
    refine ⟨fun h => absurd (h ▸ hr) (by simp), fun j hj => ?_⟩
    rcases Nat.decEq j i with hji | rfl
    · obtain ⟨hun, oj, hoj, _⟩ := mem_ready.1 hj
      have hjk : j ∉ ks := by
        intro hjk
        have hwj := hw j hjk
        unfold waitsB at hwj
        rw [hoj] at hwj
        obtain ⟨e, he, hbe⟩ := Array.any_eq_true'.mp hwj
        rw [Bool.and_eq_true] at hbe
        exact not_ready hr hoj hj he hbe.1 (by simpa using hbe.2)
      have hap := hf j oj hoj hji hun fun e' he' hb' => not_ready hr hoj hj he' hb'
      refine wpOp_mono ?_ (wpOp_putIf hoj hap (fun cs b => hsel i oi cs b hi) (fun cs b => hsel j oj cs b hoj) hQ hy (H.2 j (ready_mono hj hji)))
      rintro a' w' ⟨hy', hS', hT⟩
      refine ⟨hS', ih _ a' w' (fun m om hm hmi hmu hmn => hf m om hm hmi ?_ hmn) (ready_mono hr (Ne.symm hji)) hy' (hS' hjk) ?_⟩
      · rcases Nat.decEq j m with hjm | rfl
        · rwa [getD_set_ne true hjm] at hmu
        · exact hun
      · rw [Array.setIfInBounds_comm _ _ hji]
        exact hT
    · exact hy.wpOp hi hS ⟨fun _ => hS, H⟩

theorem tilk_take {i : Nat} {oi : Oper} {v : Value} {n : Nat} {l : Array Bool} {a : Act} {w : World} (hi : ops[i]? = some oi) (hs : Region.noSelect ops = true) (hf : Region.free md ops l i = true)
    (hr : (Region.ready md ops l).contains i = true) (hQ : ∀ c a w, Q (.panic c) (a.put oi.dst v) w → Q (.panic c) a w) (hy : YieldsIf P ops S oi v a) (hS : S w)
    (h : Tilk P md ops Q S ks n (l.setIfInBounds i true) (a.put oi.dst v) w) (hw : (ks.all fun k => waitsB md ops k i) = true := by kernel_rfl) : Tilk P md ops Q S ks (n + 1) l a w :=
  tilk_first hi (List.all_eq_true.mp hw) hs hQ n l a w (Region.free_spec hi hf) (by simpa using hr) hy hS h

def TilkAll (P : Program) (md : Region.Mode) (ops : Array Oper) (Q : Exit → Act → World → Prop) (S : World → Prop) (ks : List Nat) (n : Nat) (l : Array Bool) (a : Act) (w : World) (rs : List Nat) : Prop :=
  ∀ i, i ∈ rs → wpOp P ops Q i (fun a' w' => (i ∉ ks → S w') ∧ Tilk P md ops Q S ks n (l.setIfInBounds i true) a' w') a w
theorem TilkAll.nil {n : Nat} {l : Array Bool} {a : Act} {w : World} : TilkAll P md ops Q S ks n l a w [] := fun _ h => by cases h
theorem TilkAll.cons {n : Nat} {l : Array Bool} {a : Act} {w : World} {i : Nat} {o : Oper} {rs : List Nat} (ho : ops[i]? = some o)
    (h : ∀ K' : Act → World → Prop, Shut (∀ a w, S w → (S w → Tilk P md ops Q S ks n (l.setIfInBounds i true) a w) → K' a w) → if Region.wanted o (yielded ops a.tmps) = true then Oper.wp P o a w K' Q else K' (a.put o.dst undef) w)
    (hs : TilkAll P md ops Q S ks n l a w rs) (hik : i ∉ ks := by decide) : TilkAll P md ops Q S ks n l a w (i :: rs) := fun j hj => by
  rcases List.mem_cons.1 hj with rfl | hj
  · exact wpOp_step ho fun K' hK => h K' fun a w hS hW => hK a w ⟨fun _ => hS, hW hS⟩
  · exact hs j hj
theorem TilkAll.last {i : Nat} {n : Nat} {l : Array Bool} {a : Act} {w : World} {o : Oper} {rs : List Nat} (ho : ops[i]? = some o)
    (h : ∀ K' : Act → World → Prop, Shut (∀ a w, True → (True → Tilk P md ops Q S ks n (l.setIfInBounds i true) a w) → K' a w) → if Region.wanted o (yielded ops a.tmps) = true then Oper.wp P o a w K' Q else K' (a.put o.dst undef) w)
    (hs : TilkAll P md ops Q S ks n l a w rs) (hik : i ∈ ks := by decide) : TilkAll P md ops Q S ks n l a w (i :: rs) := fun j hj => by
  rcases List.mem_cons.1 hj with rfl | hj
  · exact wpOp_step ho fun K' hK => h K' fun a w _ hW => hK a w ⟨fun hk => absurd hik hk, hW trivial⟩
  · exact hs j hj
theorem tilk_ready {rs : List Nat} {n : Nat} {l : Array Bool} {a : Act} {w : World} (hr : Region.ready md ops l = rs) (hne : rs ≠ []) (h : TilkAll P md ops Q S ks n l a w rs) : Tilk P md ops Q S ks (n + 1) l a w :=
  ⟨fun h0 => absurd (hr ▸ h0) hne, hr ▸ h⟩
theorem tilk_done {l : Array Bool} {a : Act} {w : World} (hr : Region.ready md ops l = []) (h : Q .normal a w) (n : Nat) : Tilk P md ops Q S ks n l a w := by
  cases n with
  | zero => exact ⟨hr, h⟩
  | succ n => exact ⟨fun _ => h, fun i hi => by rw [hr] at hi; cases hi⟩
theorem wp_region_tilk {id : Nat} {a : Act} {w : World} (ks : List Nat) (hm : P.follows .mixedOrders = true) (hS : S w.drew)
    (h : S w.drew → Tilk P .any ops Q S ks ops.size (Array.replicate ops.size false) a w.drew) : (Code.region id ops true).wp P Q a w :=
  wp_region_any hm (Tilk.any _ _ _ _ (h hS))
end
end Go.Proofs.YteegekpanadmkaaGreat

/-
  The records of a list in memory of their own: copied.
-/
namespace Go.Proofs.YteegekpanadmkaaGreat
open Go.RowKit Go.Shelf
set_option linter.unusedVariables false
set_option linter.unusedSimpArgs false
set_option maxRecDepth 100000

structure Cpd (w wr : World) (N g : Nat) (v : Value) (L : List Rc) (x : Rc) : Prop where
  bel : Below N w wr
  own : OwnRc wr N v L
  cel : Cel wr g [.string (bs x.n), .int .i64 x.t, .int .i64 x.c, .int .i64 x.l, .string (bs x.d)]
  ge : N ≤ g
  ne : ∀ j, v.ownBlock = some j → j ≠ g
section
variable {w wr w' : World} {N g : Nat} {v : Value} {L : List Rc} {x : Rc}
theorem Cpd.lt (h : Cpd w wr N g v L x) : g < wr.heap.size := h.cel.lt (by simp)
theorem Cpd.later (h : Cpd w wr N g v L x) (hb : Below wr.heap.size wr w') : Cpd w w' N g v L x :=
  ⟨below_aside h.bel (Aside.of_all hb : Aside (fun _ => False) wr w') (fun k hk => ⟨by have := h.lt; have := h.ge; omega, id⟩), row_below h.own hb, h.cel.below (by simp) hb, h.ge, h.ne⟩
theorem Cpd.put0 (h : Cpd w wr N g v L x) : Cpd w (wr.setCell ⟨g, 0, none⟩ (.string (bs x.n))) N g v L x := by
  have hst : Aside (fun k => k = g) wr (wr.setCell ⟨g, 0, none⟩ (.string (bs x.n))) := Aside.setCell wr (p := ⟨g, 0, none⟩) _ rfl
  exact ⟨below_aside h.bel hst (fun k hk => ⟨by have := h.lt; have := h.ge; omega, by have := h.ge; omega⟩), row_aside h.own hst h.ne, h.cel.set (o := 0) (by simp) _, h.ge, h.ne⟩
theorem Cpd.put4 (h : Cpd w wr N g v L x) : Cpd w (wr.setCell ⟨g, 4, none⟩ (.string (bs x.d))) N g v L x := by
  have hst : Aside (fun k => k = g) wr (wr.setCell ⟨g, 4, none⟩ (.string (bs x.d))) := Aside.setCell wr (p := ⟨g, 4, none⟩) _ rfl
  exact ⟨below_aside h.bel hst (fun k hk => ⟨by have := h.lt; have := h.ge; omega, by have := h.ge; omega⟩), row_aside h.own hst h.ne, h.cel.set (o := 4) (by simp) _, h.ge, h.ne⟩
end

set_option maxHeartbeats 2000000 in
theorem copied_any {w : World} {hi : Nat} {u : Value} {l : List Rc} (h : SR w hi u l) (h1 : hi ≤ w.heap.size) (hl : l.length ≤ 900000) (hb : ∀ x ∈ l, x.n.length ≤ 1000000 ∧ x.d.length ≤ 1000000) :
    Calls Tryz.prog 77 #[u] w (fun e w' => ∃ v, e = .returned v ∧ OwnRc w' w.heap.size v l ∧ Below w.heap.size w w') := by
  have HX := Lib.hid h
  have HN := Lib.hid (Lst.len h)
  have HL := Lib.hid hl
  have HBD := Lib.hid hb
  obtain ⟨a, c, rfl⟩ := Lst.shape h
  obtain ⟨N, hN⟩ : ∃ N, w.heap.size = N := ⟨_, rfl⟩
  have HK0 := Lib.hid (show OwnRc w N (.slice none 0 0) [] from World.ownsRow_nil _ _ _ _)
  have HB0 := Lib.hid (show Below N w w from Below.refl _ _)
  have HHI := Lib.hid (show hi ≤ N by omega)
  clear h h1 hl hb
  go_enter Tryz.func77, Tryz.ntmps77
  go_wp2_with fail
  go_loopg [3, 8] l.length (fun g v3 v8 wr => ∃ k : Nat, k + g = l.length ∧ v8 = .int .i64 k ∧ Hid (OwnRc wr N v3 (l.take k)) ∧ Hid (Below N w wr) ∧ N ≤ wr.heap.size)
  case atStart => exact ⟨0, by omega, rfl, by simpa using HK0, HB0, by omega⟩
  case round =>
    clear HK0 HB0
    obtain ⟨k, hk, rfl, HK, HB, hsz⟩ := hrel
    have hlen := HN.out
    by_cases hlt : k < l.length
    · obtain ⟨b, off, c2, he, hb, hc⟩ := HX.out.at_ k hlt
      injection he with he hn3 hc3
      clear hn3 hc3
      subst he
      obtain ⟨c0, c1, c2, c3, c4⟩ := hc.keep fun o => HB.out.cell (p := ⟨b, o, none⟩) (Nat.lt_of_lt_of_le hb HHI.out)
      have HTK := Lib.hid (show l.take (k + 1) = l.take k ++ [l[k]] by rw [List.take_add_one, List.getElem?_eq_getElem hlt]; rfl)
      have HBX := Lib.hid (HBD.out l[k] (List.getElem_mem hlt))
      obtain ⟨x, hx⟩ : ∃ x, l[k] = x := ⟨_, rfl⟩
      rw [hx] at c0 c1 c2 c3 c4 HTK HBX
      have HCN := Lib.hid (fun wx => clone_any (bs x.n) (by rw [bs_size]; exact HBX.out.1) wx)
      have HCD := Lib.hid (fun wx => clone_any (bs x.d) (by rw [bs_size]; exact HBX.out.2) wx)
      obtain ⟨L, hL⟩ : ∃ L, l.take k = L := ⟨_, rfl⟩
      have HLL := Lib.hid (show L.length = k by rw [← hL, List.length_take]; omega)
      rw [hL] at HK HTK
      obtain ⟨g, hg⟩ : ∃ g, wr.heap.size = g := ⟨_, rfl⟩
      have hq : Cel (wr.alloc (.cells #[.string (bs x.n), .int .i64 x.t, .int .i64 x.c, .int .i64 x.l, .string (bs x.d)] 52)) g [.string (bs x.n), .int .i64 x.t, .int .i64 x.c, .int .i64 x.l, .string (bs x.d)] := by
        have := cel_new wr (.string (bs x.n)) (.int .i64 x.t) (.int .i64 x.c) (.int .i64 x.l) (.string (bs x.d)) 52
        rwa [hg] at this
      have hb1 : Below wr.heap.size wr (wr.alloc (.cells #[.string (bs x.n), .int .i64 x.t, .int .i64 x.c, .int .i64 x.l, .string (bs x.d)] 52)) := (Below.refl _ _).alloc (Nat.le_refl _) _
      have hcp : Cpd w (wr.alloc (.cells #[.string (bs x.n), .int .i64 x.t, .int .i64 x.c, .int .i64 x.l, .string (bs x.d)] 52)) N g _ L x :=
        ⟨HB.out.alloc hsz _, row_below HK.out hb1, hq, by omega, fun j hj => by have := (World.ownsRow.lt HK.out j hj).2; omega⟩
      have HC := Lib.hid (hcp.later (Below.refl _ _).drew)
      obtain ⟨av, cv, rfl⟩ := row_shape HK.out
      clear hc hx hb hb1 hsz hq hcp HK HB
      go_wp2_with fail
      refine wp_region_held_drew (S := (fun wx => Cel wx g [.string (bs x.n), .int .i64 x.t, .int .i64 x.c, .int .i64 x.l, .string (bs x.d)])) (by kernel_rfl) HC.out.cel (fun hHeld => ?_)
      refine wpAnyH_take (i := 0) (oi := { dst := some 12, op := Op.fieldAddr 52 (Operand.tmp 5) 0, type := 0, pos := "list.go:47", after := #[], guard := none }) (v := ?_) rfl (by kernel_rfl) (by kernel_rfl) (by kernel_rfl) (fun _ _ _ h => h) (Or.inl ⟨by rfl, ?_⟩) (by assumption) ?_
      rotate_left 1
      · intro w hSw; (try dsimp only at hSw); (try obtain ⟨r0, r1, r2, r3, r4⟩ := hSw.five); go_simp; try (with_reducible rfl)
      try simp only [Act.put, List.setIfInBounds_toArray, List.set_cons_zero, List.set_cons_succ]
      refine wpAnyH_take (i := 1) (oi := { dst := some 13, op := Op.load 9 (Operand.tmp 12), type := 9, pos := "list.go:47", after := #[{ on := 0, ground := Ground.data }], guard := none }) (v := ?_) rfl (by kernel_rfl) (by kernel_rfl) (by kernel_rfl) (fun _ _ _ h => h) (Or.inl ⟨by rfl, ?_⟩) (by assumption) ?_
      rotate_left 1
      · intro w hSw; (try dsimp only at hSw); (try obtain ⟨r0, r1, r2, r3, r4⟩ := hSw.five); go_simp; try (with_reducible rfl)
      try simp only [Act.put, List.setIfInBounds_toArray, List.set_cons_zero, List.set_cons_succ]
      refine wpAnyH_take (i := 3) (oi := { dst := some 15, op := Op.fieldAddr 52 (Operand.tmp 5) 4, type := 0, pos := "list.go:47", after := #[], guard := none }) (v := ?_) rfl (by kernel_rfl) (by kernel_rfl) (by kernel_rfl) (fun _ _ _ h => h) (Or.inl ⟨by rfl, ?_⟩) (by assumption) ?_
      rotate_left 1
      · intro w hSw; (try dsimp only at hSw); (try obtain ⟨r0, r1, r2, r3, r4⟩ := hSw.five); go_simp; try (with_reducible rfl)
      try simp only [Act.put, List.setIfInBounds_toArray, List.set_cons_zero, List.set_cons_succ]
      refine wpAnyH_take (i := 4) (oi := { dst := some 16, op := Op.load 9 (Operand.tmp 15), type := 9, pos := "list.go:47", after := #[{ on := 3, ground := Ground.data }], guard := none }) (v := ?_) rfl (by kernel_rfl) (by kernel_rfl) (by kernel_rfl) (fun _ _ _ h => h) (Or.inl ⟨by rfl, ?_⟩) (by assumption) ?_
      rotate_left 1
      · intro w hSw; (try dsimp only at hSw); (try obtain ⟨r0, r1, r2, r3, r4⟩ := hSw.five); go_simp; try (with_reducible rfl)
      try simp only [Act.put, List.setIfInBounds_toArray, List.set_cons_zero, List.set_cons_succ]
      refine wpAnyH_ready (rs := [2]) (by kernel_rfl) (by simp) ?_
      refine AllReadyH.cons (o := { dst := some 14, op := Op.call { callee := Callee.value (Operand.func 76), args := #[Operand.tmp 13], argTypes := #[9] }, type := 9, pos := "list.go:47", after := #[{ on := 1, ground := Ground.data }], guard := none }) rfl (fun K hK => ?_) (AllReadyH.nil)
      go_simp
      refine (HCN.out _).mono ?_; rintro e w1 ⟨rfl, hb⟩
      replace HC := Lib.hid (HC.out.later hb)
      clear hb
      try go_wp2_with fail
      refine hK.out _ _ HC.out.cel (fun hHeld => ?_)
      clear hK K
      try simp only [Act.put, List.setIfInBounds_toArray, List.set_cons_zero, List.set_cons_succ]
      refine wpAnyH_take (i := 6) (oi := { dst := some 18, op := Op.fieldAddr 52 (Operand.tmp 5) 0, type := 0, pos := "list.go:47", after := #[{ on := 0, ground := Ground.phase }, { on := 1, ground := Ground.phase }, { on := 2, ground := Ground.phase }, { on := 3, ground := Ground.phase }, { on := 4, ground := Ground.phase }, { on := 5, ground := Ground.textOnly Departure.lateStoresUnsure }], guard := none }) (v := ?_) rfl (by kernel_rfl) (by kernel_rfl) (by kernel_rfl) (fun _ _ _ h => h) (Or.inl ⟨by rfl, ?_⟩) (by assumption) ?_
      rotate_left 1
      · intro w hSw; (try dsimp only at hSw); (try obtain ⟨r0, r1, r2, r3, r4⟩ := hSw.five); go_simp; try (with_reducible rfl)
      try simp only [Act.put, List.setIfInBounds_toArray, List.set_cons_zero, List.set_cons_succ]
      refine wpAnyH_ready (rs := [5]) (by kernel_rfl) (by simp) ?_
      refine AllReadyH.cons (o := { dst := some 17, op := Op.call { callee := Callee.value (Operand.func 76), args := #[Operand.tmp 16], argTypes := #[9] }, type := 9, pos := "list.go:47", after := #[{ on := 4, ground := Ground.data }, { on := 2, ground := Ground.chain }], guard := none }) rfl (fun K hK => ?_) (AllReadyH.nil)
      go_simp
      refine (HCD.out _).mono ?_; rintro e w1 ⟨rfl, hb⟩
      replace HC := Lib.hid (HC.out.later hb)
      clear hb
      try go_wp2_with fail
      refine hK.out _ _ HC.out.cel (fun hHeld => ?_)
      clear hK K
      try simp only [Act.put, List.setIfInBounds_toArray, List.set_cons_zero, List.set_cons_succ]
      refine wpAnyH_ready (rs := [7]) (by kernel_rfl) (by simp) ?_
      refine AllReadyH.cons (o := { dst := none, op := Op.store 9 (Operand.tmp 18) (Operand.tmp 14), type := 0, pos := "list.go:47", after := #[{ on := 6, ground := Ground.data }, { on := 2, ground := Ground.data }, { on := 5, ground := Ground.chain }, { on := 0, ground := Ground.phase }, { on := 1, ground := Ground.phase }, { on := 2, ground := Ground.phase }, { on := 3, ground := Ground.phase }, { on := 4, ground := Ground.phase }, { on := 5, ground := Ground.textOnly Departure.lateStoresUnsure }], guard := none }) rfl (fun K hK => ?_) (AllReadyH.nil)
      obtain ⟨r0, r1, r2, r3, r4⟩ := HC.out.cel.five
      have fz := HC.out.cel.fz
      go_simp
      clear r0 r1 r2 r3 r4 fz
      replace HC := Lib.hid HC.out.put0
      refine hK.out _ _ HC.out.cel (fun hHeld => ?_)
      clear hK K
      try simp only [Act.put, List.setIfInBounds_toArray, List.set_cons_zero, List.set_cons_succ]
      refine wpAnyH_take (i := 8) (oi := { dst := some 19, op := Op.fieldAddr 52 (Operand.tmp 5) 4, type := 0, pos := "list.go:47", after := #[{ on := 0, ground := Ground.phase }, { on := 1, ground := Ground.phase }, { on := 2, ground := Ground.phase }, { on := 3, ground := Ground.phase }, { on := 4, ground := Ground.phase }, { on := 5, ground := Ground.phase }, { on := 6, ground := Ground.phase }, { on := 7, ground := Ground.phase }], guard := none }) (v := ?_) rfl (by kernel_rfl) (by kernel_rfl) (by kernel_rfl) (fun _ _ _ h => h) (Or.inl ⟨by rfl, ?_⟩) (by assumption) ?_
      rotate_left 1
      · intro w hSw; (try dsimp only at hSw); (try obtain ⟨r0, r1, r2, r3, r4⟩ := hSw.five); go_simp; try (with_reducible rfl)
      try simp only [Act.put, List.setIfInBounds_toArray, List.set_cons_zero, List.set_cons_succ]
      refine wpAnyH_ready (rs := [9]) (by kernel_rfl) (by simp) ?_
      refine AllReadyH.cons (o := { dst := none, op := Op.store 9 (Operand.tmp 19) (Operand.tmp 17), type := 0, pos := "list.go:47", after := #[{ on := 8, ground := Ground.data }, { on := 5, ground := Ground.data }, { on := 7, ground := Ground.chain }, { on := 0, ground := Ground.phase }, { on := 1, ground := Ground.phase }, { on := 2, ground := Ground.phase }, { on := 3, ground := Ground.phase }, { on := 4, ground := Ground.phase }, { on := 5, ground := Ground.phase }, { on := 6, ground := Ground.phase }, { on := 7, ground := Ground.phase }], guard := none }) rfl (fun K hK => ?_) (AllReadyH.nil)
      obtain ⟨r0, r1, r2, r3, r4⟩ := HC.out.cel.five
      have fz := HC.out.cel.fz
      go_simp
      clear r0 r1 r2 r3 r4 fz
      replace HC := Lib.hid HC.out.put4
      refine hK.out _ _ HC.out.cel (fun hHeld => ?_)
      clear hK K
      try simp only [Act.put, List.setIfInBounds_toArray, List.set_cons_zero, List.set_cons_succ]
      refine wpAnyH_done (by kernel_rfl) ?_ _
      clear hHeld
      obtain ⟨WE, hWE⟩ : ∃ X, (w1.setCell ⟨g, 0, none⟩ (.string (bs x.n))).setCell ⟨g, 4, none⟩ (.string (bs x.d)) = X := ⟨_, rfl⟩
      rw [hWE] at HC ⊢
      clear hWE
      have HT : Hid (l.take (k + 1) = L ++ [x]) := HTK
      have hone := sr_one WE x
      have hb4 : Below WE.heap.size WE (WE.alloc (.cells #[.string (bs x.n), .int .i64 x.t, .int .i64 x.c, .int .i64 x.l, .string (bs x.d)] 52)) := (Below.refl _ _).alloc (Nat.le_refl _) _
      have hc4 := HC.out.later hb4
      obtain ⟨a6, c6, w6, hr, hk6, ha6, _⟩ := run_appRc hc4.own hone (by have := HLL.out; have := HL.out; simp; omega) (by have := hc4.lt; have := hc4.ge; omega)
      rw [List.length_singleton] at hr hk6
      have HR := Lib.hid hr
      have hlo := World.ownsRow.lt hc4.own
      have HB6 := Lib.hid (below_aside hc4.bel ha6 (fun j hj => ⟨by have := hc4.lt; have := hc4.ge; omega, fun hg => by have := (hlo _ hg).1; omega⟩))
      have HSZ := Lib.hid (show N ≤ w6.heap.size by have := ha6.size; have := hc4.lt; have := hc4.ge; omega)
      have HK6 := Lib.hid (show OwnRc w6 N (.slice a6 (L.length + 1) c6) (l.take (k + 1)) by rw [HT.out]; exact hk6)
      obtain ⟨q0, q1, q2, q3, q4⟩ := HC.out.cel.five
      clear hone hb4 hc4 hr hk6 ha6 hlo HC HT
      go_wp2_with (at_builtin; refine wpList_append_run (.tmp 20) (.tmp 22) 23 23 rfl rfl rfl rfl HR.out ?_)
      go_roundg (l.length - (k + 1))
      case measure => omega
      case rel => exact ⟨k + 1, by omega, by go_num, HK6, HB6, HSZ.out⟩
    · have t1 : ¬ ((k : Int) < l.length) := by omega
      have hkl : l.take k = l := List.take_of_length_le (by omega)
      rw [hkl] at HK
      clear hkl
      go_wp2_with fail
      go_ret
      exact ⟨_, rfl, by first | exact HK.out | (rw [hN]; exact HK.out), by first | exact HB.out | (rw [hN]; exact HB.out)⟩
end Go.Proofs.YteegekpanadmkaaGreat
