/-
  What Read stands on: what is read so far, the deferred function.
-/
import Derived.Test.YtdikgjbpjdnodaaGreatT23
import Derived.Defers
namespace Go.Proofs.YtdikgjbpjdnodaaGreat
open Go.RowKit Go.Shelf
set_option linter.unusedVariables false
set_option linter.unusedSimpArgs false
set_option maxRecDepth 100000

def RD.app {α : Type} (l : List α) : RD α → RD α
  | .ok l' q => .ok (l ++ l') q
  | .bad e a => .bad e a
theorem RD.app_cons {α : Type} (l : List α) (x : α) (r : RD α) : RD.app l (r.cons x) = RD.app (l ++ [x]) r := by
  cases r <;> simp [RD.app, RD.cons]
theorem RD.app_nil {α : Type} (r : RD α) : RD.app [] r = r := by cases r <;> simp [RD.app]
theorem rdQs_step (b : List UInt8) (l : List Qn) (g p : Nat) : RD.app l (rdQs b (g + 1) p) = if (s3 b p).e ≠ 0 then .bad (s3 b p).e (s3 b p).p else RD.app (l ++ [quesR b p]) (rdQs b g (s3 b p).a.toNat) := by
  rw [rdQs]
  split
  · rfl
  · rw [RD.app_cons]
theorem rdRs_step (b : List UInt8) (l : List Rc) (g p : Nat) : RD.app l (rdRs b (g + 1) p) = if (s6 b p).e ≠ 0 then .bad (s6 b p).e (s6 b p).p else RD.app (l ++ [recR b p]) (rdRs b g (s6 b p).a.toNat) := by
  rw [rdRs]
  split
  · rfl
  · rw [RD.app_cons]

/-- What is read so far. -/
structure R0 (w wr : World) (M H B0 : Nat) (i0 i1 : Int) (hs : List Value) (v2 v3 v4 v5 : Value) (lq : List Qn) (la ln lr : List Rc) : Prop where
  x : Cel wr M [.int .i64 i0, .int .i64 i1, v2, v3, v4, v5]
  f : Cel wr (M + 1) [.int .i64 0, .int .i64 0]
  h : Cel wr H hs
  hl : 0 < hs.length
  q : OwnQn wr B0 v2 lq
  a : OwnRc wr B0 v3 la
  n : OwnRc wr B0 v4 ln
  r : OwnRc wr B0 v5 lr
  n34 : ∀ k, v3.ownBlock = some k → v4.ownBlock = some k → False
  n35 : ∀ k, v3.ownBlock = some k → v5.ownBlock = some k → False
  n45 : ∀ k, v4.ownBlock = some k → v5.ownBlock = some k → False
  bel : Below M w wr
  size : B0 ≤ wr.heap.size
  hH : M + 2 ≤ H
  hB : H < B0

section
variable {w wr w' : World} {M H B0 : Nat} {i0 i1 : Int} {hs : List Value} {v2 v3 v4 v5 : Value} {lq : List Qn} {la ln lr : List Rc}
theorem R0.later (h : R0 w wr M H B0 i0 i1 hs v2 v3 v4 v5 lq la ln lr) (hb : Below wr.heap.size wr w') : R0 w w' M H B0 i0 i1 hs v2 v3 v4 v5 lq la ln lr :=
  ⟨h.x.below (by simp) hb, h.f.below (by simp) hb, h.h.below h.hl hb, h.hl, row_below h.q hb, row_below h.a hb, row_below h.n hb, row_below h.r hb, h.n34, h.n35, h.n45, below_aside h.bel (Aside.of_all hb : Aside (fun _ => False) wr w') (fun k hk => ⟨by have := h.size; have := h.hB; have := h.hH; omega, id⟩), Nat.le_trans h.size hb.size, h.hH, h.hB⟩

/-- Other numbers of no fault are stored. -/
theorem R0.fault (h : R0 w wr M H B0 i0 i1 hs v2 v3 v4 v5 lq la ln lr) : R0 w ((wr.setCell ⟨M + 1, 0, none⟩ (.int .i64 0)).setCell ⟨M + 1, 1, none⟩ (.int .i64 0)) M H B0 i0 i1 hs v2 v3 v4 v5 lq la ln lr := by
  have hH := h.hH
  have hB := h.hB
  have hst : Aside (fun k => k = M + 1) wr ((wr.setCell ⟨M + 1, 0, none⟩ (.int .i64 0)).setCell ⟨M + 1, 1, none⟩ (.int .i64 0)) := by
    have g1 : Aside (fun k => k = M + 1) wr (wr.setCell ⟨M + 1, 0, none⟩ (.int .i64 0)) := Aside.setCell wr (p := ⟨M + 1, 0, none⟩) _ rfl
    have g2 : Aside (fun k => k = M + 1) (wr.setCell ⟨M + 1, 0, none⟩ (.int .i64 0)) ((wr.setCell ⟨M + 1, 0, none⟩ (.int .i64 0)).setCell ⟨M + 1, 1, none⟩ (.int .i64 0)) := Aside.setCell _ (p := ⟨M + 1, 1, none⟩) _ rfl
    exact g1.trans g2
  have ho : ∀ {v : Value} {k e : Nat} {xs : List Value} {n : Nat}, wr.ownsRow B0 e k v n xs → ∀ j, v.ownBlock = some j → ¬ j = M + 1 := fun hr j hj hg => by have := (World.ownsRow.lt hr j hj).1; omega
  refine ⟨h.x.aside (by simp) hst (by omega), ?_, h.h.aside h.hl hst (by omega), h.hl, row_aside h.q hst (ho h.q), row_aside h.a hst (ho h.a), row_aside h.n hst (ho h.n), row_aside h.r hst (ho h.r), h.n34, h.n35, h.n45, below_aside h.bel hst (fun k hk => ⟨by have := h.size; omega, by omega⟩), Nat.le_trans h.size hst.size, hH, hB⟩
  have := (h.f.set (o := 0) (by simp) (.int .i64 0)).set (o := 1) (by simp) (.int .i64 0)
  simpa using this

theorem R0.read0 (h : R0 w wr M H B0 i0 i1 hs v2 v3 v4 v5 lq la ln lr) {v' : Value} {x : Qn} (hx : Cel w' M ([.int .i64 i0, .int .i64 i1, v2, v3, v4, v5].set 2 v')) (ho : OwnQn w' B0 v' (lq ++ [x])) (ha : Aside (fun k => k = M ∨ v2.ownBlock = some k) wr w') (hk : v'.ownBlock = v2.ownBlock ∨ ∃ k, v'.ownBlock = some k ∧ wr.heap.size ≤ k) :
    R0 w w' M H B0 i0 i1 hs v' v3 v4 v5 (lq ++ [x]) (la) (ln) (lr) := by
  have hH := h.hH
  have hB := h.hB
  have hlt := World.ownsRow.lt h.q
  have hG : ∀ k, k < B0 → k ≠ M → ¬ (k = M ∨ v2.ownBlock = some k) := fun k hk1 hk2 hg => by
    rcases hg with rfl | hg
    · exact hk2 rfl
    · have := (hlt k hg).1; omega
  have hM : ∀ {v : Value} {k e : Nat} {xs : List Value} {n : Nat}, wr.ownsRow B0 e k v n xs → ∀ j, v.ownBlock = some j → j ≠ M := fun hr j hj hg => by have := (World.ownsRow.lt hr j hj).1; omega
  have o1 : ∀ j, v3.ownBlock = some j → ¬ (j = M ∨ v2.ownBlock = some j) := fun j hj hg => by
    rcases hg with rfl | hg
    · exact hM h.a _ hj rfl
    · exact row_apart h.a h.q (by decide) j hj hg
  have o2 : ∀ j, v4.ownBlock = some j → ¬ (j = M ∨ v2.ownBlock = some j) := fun j hj hg => by
    rcases hg with rfl | hg
    · exact hM h.n _ hj rfl
    · exact row_apart h.n h.q (by decide) j hj hg
  have o3 : ∀ j, v5.ownBlock = some j → ¬ (j = M ∨ v2.ownBlock = some j) := fun j hj hg => by
    rcases hg with rfl | hg
    · exact hM h.r _ hj rfl
    · exact row_apart h.r h.q (by decide) j hj hg
  refine ⟨by simpa using hx, h.f.aside (by simp) ha (hG _ (by omega) (by omega)), h.h.aside h.hl ha (hG _ hB (by omega)), h.hl, ho, row_aside h.a ha o1, row_aside h.n ha o2, row_aside h.r ha o3, ?_, ?_, ?_, below_aside h.bel ha (fun k hk => ⟨by have := h.size; omega, hG k (by omega) (by omega)⟩), Nat.le_trans h.size ha.size, hH, hB⟩
  · exact h.n34
  · exact h.n35
  · exact h.n45

theorem R0.read1 (h : R0 w wr M H B0 i0 i1 hs v2 v3 v4 v5 lq la ln lr) {v' : Value} {x : Rc} (hx : Cel w' M ([.int .i64 i0, .int .i64 i1, v2, v3, v4, v5].set 3 v')) (ho : OwnRc w' B0 v' (la ++ [x])) (ha : Aside (fun k => k = M ∨ v3.ownBlock = some k) wr w') (hk : v'.ownBlock = v3.ownBlock ∨ ∃ k, v'.ownBlock = some k ∧ wr.heap.size ≤ k) :
    R0 w w' M H B0 i0 i1 hs v2 v' v4 v5 (lq) (la ++ [x]) (ln) (lr) := by
  have hH := h.hH
  have hB := h.hB
  have hlt := World.ownsRow.lt h.a
  have hG : ∀ k, k < B0 → k ≠ M → ¬ (k = M ∨ v3.ownBlock = some k) := fun k hk1 hk2 hg => by
    rcases hg with rfl | hg
    · exact hk2 rfl
    · have := (hlt k hg).1; omega
  have hM : ∀ {v : Value} {k e : Nat} {xs : List Value} {n : Nat}, wr.ownsRow B0 e k v n xs → ∀ j, v.ownBlock = some j → j ≠ M := fun hr j hj hg => by have := (World.ownsRow.lt hr j hj).1; omega
  have o0 : ∀ j, v2.ownBlock = some j → ¬ (j = M ∨ v3.ownBlock = some j) := fun j hj hg => by
    rcases hg with rfl | hg
    · exact hM h.q _ hj rfl
    · exact row_apart h.q h.a (by decide) j hj hg
  have o2 : ∀ j, v4.ownBlock = some j → ¬ (j = M ∨ v3.ownBlock = some j) := fun j hj hg => by
    rcases hg with rfl | hg
    · exact hM h.n _ hj rfl
    · exact h.n34 j hg hj
  have o3 : ∀ j, v5.ownBlock = some j → ¬ (j = M ∨ v3.ownBlock = some j) := fun j hj hg => by
    rcases hg with rfl | hg
    · exact hM h.r _ hj rfl
    · exact h.n35 j hg hj
  refine ⟨by simpa using hx, h.f.aside (by simp) ha (hG _ (by omega) (by omega)), h.h.aside h.hl ha (hG _ hB (by omega)), h.hl, row_aside h.q ha o0, ho, row_aside h.n ha o2, row_aside h.r ha o3, ?_, ?_, ?_, below_aside h.bel ha (fun k hk => ⟨by have := h.size; omega, hG k (by omega) (by omega)⟩), Nat.le_trans h.size ha.size, hH, hB⟩
  · exact fun k h1 h2 => by
      rcases hk with hk | ⟨m, hk, hm⟩
      · exact h.n34 k (hk.symm.trans h1) h2
      · rw [hk] at h1
        injection h1 with h1
        have := (World.ownsRow.lt h.n k h2).2
        omega
  · exact fun k h1 h2 => by
      rcases hk with hk | ⟨m, hk, hm⟩
      · exact h.n35 k (hk.symm.trans h1) h2
      · rw [hk] at h1
        injection h1 with h1
        have := (World.ownsRow.lt h.r k h2).2
        omega
  · exact h.n45

theorem R0.read2 (h : R0 w wr M H B0 i0 i1 hs v2 v3 v4 v5 lq la ln lr) {v' : Value} {x : Rc} (hx : Cel w' M ([.int .i64 i0, .int .i64 i1, v2, v3, v4, v5].set 4 v')) (ho : OwnRc w' B0 v' (ln ++ [x])) (ha : Aside (fun k => k = M ∨ v4.ownBlock = some k) wr w') (hk : v'.ownBlock = v4.ownBlock ∨ ∃ k, v'.ownBlock = some k ∧ wr.heap.size ≤ k) :
    R0 w w' M H B0 i0 i1 hs v2 v3 v' v5 (lq) (la) (ln ++ [x]) (lr) := by
  have hH := h.hH
  have hB := h.hB
  have hlt := World.ownsRow.lt h.n
  have hG : ∀ k, k < B0 → k ≠ M → ¬ (k = M ∨ v4.ownBlock = some k) := fun k hk1 hk2 hg => by
    rcases hg with rfl | hg
    · exact hk2 rfl
    · have := (hlt k hg).1; omega
  have hM : ∀ {v : Value} {k e : Nat} {xs : List Value} {n : Nat}, wr.ownsRow B0 e k v n xs → ∀ j, v.ownBlock = some j → j ≠ M := fun hr j hj hg => by have := (World.ownsRow.lt hr j hj).1; omega
  have o0 : ∀ j, v2.ownBlock = some j → ¬ (j = M ∨ v4.ownBlock = some j) := fun j hj hg => by
    rcases hg with rfl | hg
    · exact hM h.q _ hj rfl
    · exact row_apart h.q h.n (by decide) j hj hg
  have o1 : ∀ j, v3.ownBlock = some j → ¬ (j = M ∨ v4.ownBlock = some j) := fun j hj hg => by
    rcases hg with rfl | hg
    · exact hM h.a _ hj rfl
    · exact h.n34 j hj hg
  have o3 : ∀ j, v5.ownBlock = some j → ¬ (j = M ∨ v4.ownBlock = some j) := fun j hj hg => by
    rcases hg with rfl | hg
    · exact hM h.r _ hj rfl
    · exact h.n45 j hg hj
  refine ⟨by simpa using hx, h.f.aside (by simp) ha (hG _ (by omega) (by omega)), h.h.aside h.hl ha (hG _ hB (by omega)), h.hl, row_aside h.q ha o0, row_aside h.a ha o1, ho, row_aside h.r ha o3, ?_, ?_, ?_, below_aside h.bel ha (fun k hk => ⟨by have := h.size; omega, hG k (by omega) (by omega)⟩), Nat.le_trans h.size ha.size, hH, hB⟩
  · exact fun k h1 h2 => by
      rcases hk with hk | ⟨m, hk, hm⟩
      · exact h.n34 k h1 (hk.symm.trans h2)
      · rw [hk] at h2
        injection h2 with h2
        have := (World.ownsRow.lt h.a k h1).2
        omega
  · exact h.n35
  · exact fun k h1 h2 => by
      rcases hk with hk | ⟨m, hk, hm⟩
      · exact h.n45 k (hk.symm.trans h1) h2
      · rw [hk] at h1
        injection h1 with h1
        have := (World.ownsRow.lt h.r k h2).2
        omega

theorem R0.read3 (h : R0 w wr M H B0 i0 i1 hs v2 v3 v4 v5 lq la ln lr) {v' : Value} {x : Rc} (hx : Cel w' M ([.int .i64 i0, .int .i64 i1, v2, v3, v4, v5].set 5 v')) (ho : OwnRc w' B0 v' (lr ++ [x])) (ha : Aside (fun k => k = M ∨ v5.ownBlock = some k) wr w') (hk : v'.ownBlock = v5.ownBlock ∨ ∃ k, v'.ownBlock = some k ∧ wr.heap.size ≤ k) :
    R0 w w' M H B0 i0 i1 hs v2 v3 v4 v' (lq) (la) (ln) (lr ++ [x]) := by
  have hH := h.hH
  have hB := h.hB
  have hlt := World.ownsRow.lt h.r
  have hG : ∀ k, k < B0 → k ≠ M → ¬ (k = M ∨ v5.ownBlock = some k) := fun k hk1 hk2 hg => by
    rcases hg with rfl | hg
    · exact hk2 rfl
    · have := (hlt k hg).1; omega
  have hM : ∀ {v : Value} {k e : Nat} {xs : List Value} {n : Nat}, wr.ownsRow B0 e k v n xs → ∀ j, v.ownBlock = some j → j ≠ M := fun hr j hj hg => by have := (World.ownsRow.lt hr j hj).1; omega
  have o0 : ∀ j, v2.ownBlock = some j → ¬ (j = M ∨ v5.ownBlock = some j) := fun j hj hg => by
    rcases hg with rfl | hg
    · exact hM h.q _ hj rfl
    · exact row_apart h.q h.r (by decide) j hj hg
  have o1 : ∀ j, v3.ownBlock = some j → ¬ (j = M ∨ v5.ownBlock = some j) := fun j hj hg => by
    rcases hg with rfl | hg
    · exact hM h.a _ hj rfl
    · exact h.n35 j hj hg
  have o2 : ∀ j, v4.ownBlock = some j → ¬ (j = M ∨ v5.ownBlock = some j) := fun j hj hg => by
    rcases hg with rfl | hg
    · exact hM h.n _ hj rfl
    · exact h.n45 j hj hg
  refine ⟨by simpa using hx, h.f.aside (by simp) ha (hG _ (by omega) (by omega)), h.h.aside h.hl ha (hG _ hB (by omega)), h.hl, row_aside h.q ha o0, row_aside h.a ha o1, row_aside h.n ha o2, ho, ?_, ?_, ?_, below_aside h.bel ha (fun k hk => ⟨by have := h.size; omega, hG k (by omega) (by omega)⟩), Nat.le_trans h.size ha.size, hH, hB⟩
  · exact h.n34
  · exact fun k h1 h2 => by
      rcases hk with hk | ⟨m, hk, hm⟩
      · exact h.n35 k h1 (hk.symm.trans h2)
      · rw [hk] at h2
        injection h2 with h2
        have := (World.ownsRow.lt h.a k h1).2
        omega
  · exact fun k h1 h2 => by
      rcases hk with hk | ⟨m, hk, hm⟩
      · exact h.n45 k h1 (hk.symm.trans h2)
      · rw [hk] at h2
        injection h2 with h2
        have := (World.ownsRow.lt h.n k h1).2
        omega
end

/-- A message of nothing. -/
def zeroM : Value := .agg #[.int .i64 0, .int .i64 0, .slice none 0 0, .slice none 0 0, .slice none 0 0, .slice none 0 0]

theorem rend_ok (g h : Nat) (w : World) (hp : w.cell? ⟨g, 0, none⟩ = some (.int .i64 0)) :
    CallsD Tryz.prog 52 #[.pointer (some ⟨g, 0, none⟩), .pointer (some ⟨h, 0, none⟩)] .returning w fun e u' w' => u' = .returning ∧ (e = .returned (.tuple #[]) ∧ w = w') := by
  refine callsD_of_wp Tryz.func52 rfl ?_
  simp only [Tryz.ntmps52, List.size_toArray, List.length_cons, List.length_nil, Nat.reduceAdd, Nat.reduceSub, Array.replicate_succ, Array.replicate_zero, List.push_toArray, List.append_toArray, List.nil_append, List.cons_append]
  go_wp2
  exact ⟨rfl, .tuple #[], by simp [results, Tryz.results52], rfl, rfl⟩
theorem rend_bad (g h : Nat) (E : Int) (a b c d e f : Value) (hE : E ≠ 0) (w : World) (hp : w.cell? ⟨g, 0, none⟩ = some (.int .i64 E)) (hq : Cel w h [a, b, c, d, e, f]) :
    CallsD Tryz.prog 52 #[.pointer (some ⟨g, 0, none⟩), .pointer (some ⟨h, 0, none⟩)] .returning w fun x u' w' => u' = .returning ∧ (x = .returned (.tuple #[]) ∧ Cel w' h [.int .i64 0, .int .i64 0, .slice none 0 0, .slice none 0 0, .slice none 0 0, .slice none 0 0] ∧ Aside (fun k => k = h) w w') := by
  have tE : (E != 0) = true := by simpa using hE
  obtain ⟨c0, c1, c2, c3, c4, c5⟩ := hq.six
  have fz := hq.fz
  have HQ := Lib.hid hq
  clear hq
  refine callsD_of_wp Tryz.func52 rfl ?_
  simp only [Tryz.ntmps52, List.size_toArray, List.length_cons, List.length_nil, Nat.reduceAdd, Nat.reduceSub, Array.replicate_succ, Array.replicate_zero, List.push_toArray, List.append_toArray, List.nil_append, List.cons_append]
  go_wp2
  refine ⟨rfl, .tuple #[], by simp [results, Tryz.results52], rfl, ?_, ?_⟩
  · have := (((((HQ.out.set (o := 0) (by simp) (.int .i64 0)).set (o := 1) (by simp) (.int .i64 0)).set (o := 2) (by simp) (.slice none 0 0)).set (o := 3) (by simp) (.slice none 0 0)).set (o := 4) (by simp) (.slice none 0 0)).set (o := 5) (by simp) (.slice none 0 0)
    simpa using this
  · have st : ∀ (X : World) (o : Nat) (v : Value), Aside (fun k => k = h) X (X.setCell ⟨h, o, none⟩ v) := fun X o v => Aside.setCell X (p := ⟨h, o, none⟩) v rfl
    exact (((((st _ _ _).trans (st _ _ _)).trans (st _ _ _)).trans (st _ _ _)).trans (st _ _ _)).trans (st _ _ _)

end Go.Proofs.YtdikgjbpjdnodaaGreat
