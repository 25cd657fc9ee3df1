/-
  Entries in memory; a row of them grows.
-/
import Derived.Test.YteegekpanadmkaaGreatS09
import Derived.Test.YteegekpanadmkaaGreatS03
import Derived.Test.YteegekpanadmkaaGreatS12
import Derived.Defers
import Derived.Test.YteegekpanadmkaaGreatS00
import Derived.Laws.Bits128
import Derived.Test.YteegekpanadmkaaGreatS01
namespace Go.Proofs.YteegekpanadmkaaGreat
open Go.RowKit Go.Shelf
set_option linter.unusedVariables false
set_option linter.unusedSimpArgs false
set_option maxRecDepth 100000

/-- The cells of an entry, and of the mark that it is left out. -/
def ce (e : En) (o : Bool) : List Value := .int .i64 e.k :: (cq e.q ++ (cr e.x ++ [.bool o]))
def acE : List En → List Bool → List Value
  | e :: E, o :: O => ce e o ++ acE E O
  | _, _ => []
theorem ce_len (e : En) (o : Bool) : (ce e o).length = 10 := rfl
theorem acE_app : ∀ (E F : List En) (O Q : List Bool), O.length = E.length → acE (E ++ F) (O ++ Q) = acE E O ++ acE F Q
  | [], F, O, Q, h => by
    have : O = [] := List.length_eq_zero_iff.mp (by simpa using h)
    subst this; rfl
  | e :: E, F, [], Q, h => by simp at h
  | e :: E, F, o :: O, Q, h => by
    show ce e o ++ acE (E ++ F) (O ++ Q) = ce e o ++ acE E O ++ acE F Q
    rw [acE_app E F O Q (by simpa using h), List.append_assoc]
theorem ce_one (e : En) (o : Bool) : ∀ u ∈ ce e o, u.oneCell' = true := fun u hu => by
  simp only [ce, cq, cr, List.mem_cons, List.mem_append, List.mem_nil_iff, or_false] at hu
  rcases hu with rfl | (rfl | rfl | rfl) | (rfl | rfl | rfl | rfl | rfl) | rfl <;> rfl
theorem acE_at : ∀ (E : List En) (O : List Bool) (j : Nat) (hj : j < E.length) (o : Bool), O[j]? = some o → ∀ i, i < 10 → (acE E O)[j * 10 + i]? = (ce E[j] o)[i]?
  | [], O, j, hj, _, _, _, _ => by simp at hj
  | e :: E, [], j, hj, o, h, _, _ => by simp at h
  | e :: E, p :: O, 0, _, o, h, i, hi => by
    have h : p = o := by simpa using h
    subst h
    show (ce e p ++ acE E O)[0 * 10 + i]? = _
    rw [Nat.zero_mul, Nat.zero_add, List.getElem?_append_left (by rw [ce_len]; exact hi)]
    rfl
  | e :: E, p :: O, j + 1, hj, o, h, i, hi => by
    show (ce e p ++ acE E O)[(j + 1) * 10 + i]? = _
    rw [List.getElem?_append_right (by rw [ce_len]; omega), ce_len, show (j + 1) * 10 + i - 10 = j * 10 + i by omega]
    exact acE_at E O j (by simpa using hj) o (by simpa using h) i hi
theorem acE_set : ∀ (E : List En) (O : List Bool) (j : Nat) (hj : j < E.length) (b : Bool), O.length = E.length → (acE E O).set (j * 10 + 9) (.bool b) = acE E (O.set j b)
  | [], O, j, hj, _, _ => by simp at hj
  | e :: E, [], j, hj, _, h => by simp at h
  | e :: E, p :: O, 0, _, b, h => by
    show (ce e p ++ acE E O).set (0 * 10 + 9) (.bool b) = ce e b ++ acE E O
    rw [Nat.zero_mul, Nat.zero_add, List.set_append_left _ _ (by rw [ce_len]; decide)]
    rfl
  | e :: E, p :: O, j + 1, hj, b, h => by
    show (ce e p ++ acE E O).set ((j + 1) * 10 + 9) (.bool b) = ce e p ++ acE E (O.set j b)
    rw [List.set_append_right _ _ (by rw [ce_len]; omega), ce_len, show (j + 1) * 10 + 9 - 10 = j * 10 + 9 by omega, acE_set E O j (by simpa using hj) b (by simpa using h)]

theorem info_en : (Tryz.prog.info? 95).map (fun i => (i.zero, i.size, i.bytes)) = some (some (.agg #[.int .i64 0, .string ⟨#[]⟩, .int .i64 0, .int .i64 0, .string ⟨#[]⟩, .int .i64 0, .int .i64 0, .int .i64 0, .string ⟨#[]⟩, .bool false]), 10, 104) := by kernel_rfl
/-- v is a row of entries of the call's own, none left out yet. -/
def OwnEn (w : World) (B : Nat) (v : Value) (E : List En) (O : List Bool) : Prop := w.ownsRow B 95 10 v E.length (acE E O)
/-- append of an entry. -/
theorem run_appEn {w : World} {B : Nat} {v : Value} {E : List En} {O : List Bool} (h : OwnEn w B v E O) (hO : O.length = E.length) (e : En) (g : Nat) (hx : ∀ i u, (ce e false)[i]? = some u → w.cell? ⟨g, i, none⟩ = some u) (hn : E.length + 1 ≤ 1000000) (hB : B ≤ w.heap.size) :
    ∃ a c w', (Builtin.append_ #[60, 60] 60 #[v, .slice (some ⟨g, 0, none⟩) 1 1]).run Tryz.prog w = .ok (.slice a (E.length + 1) c) w' ∧ OwnEn w' B (.slice a (E.length + 1) c) (E ++ [e]) (O ++ [false]) ∧ Aside (fun b => v.ownBlock = some b) w w' := by
  obtain ⟨i0, hi, hz0, hz1, hz2⟩ := info_parts info_en
  have hl : Lst w (g + 1) (.slice (some ⟨g, 0, none⟩) 1 1) 1 (ce e false) := ⟨_, 1, rfl, by simp, fun h => by simp at h, fun _ => ⟨g, 0, rfl, by omega, fun i u hu => by rw [Nat.zero_add]; exact hx i u hu⟩⟩
  obtain ⟨a, c, w', h1, h2, h3, _⟩ := row_more (ty := 60) 104 Tryz.underlying60 hi hz0 hz1 hz2 rfl (by decide) (by decide) h hl (ce_len e false) (ce_one e false) hn hB
  refine ⟨a, c, w', h1, ?_, h3⟩
  unfold OwnEn
  rw [List.length_append, acE_app E [e] O [false] hO, show acE [e] [false] = ce e false by simp [acE]]
  exact h2

/-- A sheet while it is laid: the message's box, its own, the entries so far. -/
structure ShA (w wr : World) (N : Nat) (i f : Int) (q a n r : Value) (va : Value) (E : List En) : Prop where
  bel : Below N w wr
  x : Cel wr N [.int .i64 i, .int .i64 f, q, a, n, r]
  s : Cel wr (N + 1) [.int .i64 i, .int .i64 f, va, .slice none 0 0]
  own : OwnEn wr (N + 2) va E (List.replicate E.length false)
  size : N + 2 ≤ wr.heap.size
section
variable {w wr W : World} {N : Nat} {i f : Int} {q a n r va : Value} {E : List En}
theorem ShA.later (h : ShA w wr N i f q a n r va E) (hb : Below wr.heap.size wr W) : ShA w W N i f q a n r va E :=
  ⟨below_aside h.bel (Aside.of_all hb : Aside (fun _ => False) wr W) (fun k hk => ⟨by have := h.size; omega, id⟩), h.x.below (by simp) hb, h.s.below (by simp) hb, row_below h.own hb, Nat.le_trans h.size hb.size⟩
theorem ShA.shape (h : ShA w wr N i f q a n r va E) : ∃ b c, va = .slice b E.length c := row_shape h.own
/-- One entry more. -/
theorem ShA.app (h : ShA w wr N i f q a n r va E) (hW : Below wr.heap.size wr W) (e : En) (g : Nat) (hx : ∀ i u, (ce e false)[i]? = some u → W.cell? ⟨g, i, none⟩ = some u) (hn : E.length + 1 ≤ 1000000) :
    ∃ b c W2, (Builtin.append_ #[60, 60] 60 #[va, .slice (some ⟨g, 0, none⟩) 1 1]).run Tryz.prog W = .ok (.slice b (E.length + 1) c) W2 ∧
      W2.cell? ⟨N + 1, 2, none⟩ = some va ∧ (∀ j, W2.frozen? ⟨N + 1, j, none⟩ = false) ∧ ShA w (W2.setCell ⟨N + 1, 2, none⟩ (.slice b (E.length + 1) c)) N i f q a n r (.slice b (E.length + 1) c) (E ++ [e]) := by
  have hR := h.later hW
  obtain ⟨b, c, W2, hr, ho, ha⟩ := run_appEn hR.own (by simp) e g hx hn hR.size
  have hlt := World.ownsRow.lt hR.own
  have hG : ∀ k, k < N + 2 → ¬ va.ownBlock = some k := fun k hk hv => by have := (hlt k hv).1; omega
  have hs := hR.s.aside (by simp) ha (hG _ (by omega))
  have hx2 := hR.x.aside (by simp) ha (hG _ (by omega))
  have h2 : Aside (fun k => k = N + 1) W2 (W2.setCell ⟨N + 1, 2, none⟩ (.slice b (E.length + 1) c)) := Aside.setCell _ (p := ⟨N + 1, 2, none⟩) _ rfl
  have hb := below_aside hR.bel ha (fun k hk => ⟨by have := hR.size; omega, hG k (by omega)⟩)
  refine ⟨b, c, W2, hr, hs.c 2 (by simp), hs.fz, below_aside hb h2 (fun k hk => ⟨by have := hR.size; have := ha.size; omega, by omega⟩), hx2.other (a := ⟨N + 1, 2, none⟩) (by show N + 1 ≠ N; omega) _, ?_, ?_, Nat.le_trans hR.size (Nat.le_trans ha.size h2.size)⟩
  · exact hs.set (o := 2) (by simp) _
  · have e1 : List.replicate (E ++ [e]).length false = List.replicate E.length false ++ [false] := by rw [List.length_append, List.length_singleton, List.replicate_succ']
    unfold OwnEn
    rw [e1]
    unfold OwnEn at ho
    exact row_aside ho h2 (fun k hk hg => by have := (World.ownsRow.lt ho k hk).1; omega)
end

theorem info_pe : (Tryz.prog.info? 97).map (fun i => (i.zero, i.size, i.bytes)) = some (some (.pointer none), 1, 8) := by kernel_rfl
/-- A sheet while its order is laid. -/
structure ShO (w wr : World) (N : Nat) (i f : Int) (va vo : Value) (E : List En) (b : Nat) (l : List Nat) : Prop where
  bel : Below N w wr
  s : Cel wr (N + 1) [.int .i64 i, .int .i64 f, va, vo]
  own : OwnEn wr (N + 2) va E (List.replicate E.length false)
  row : wr.ownsRow (N + 2) 97 1 vo l.length (l.map (pe b))
  size : N + 2 ≤ wr.heap.size
section
variable {w wr W : World} {N b : Nat} {i f : Int} {va vo : Value} {E : List En} {l : List Nat}
theorem ShO.later (h : ShO w wr N i f va vo E b l) (hb : Below wr.heap.size wr W) : ShO w W N i f va vo E b l :=
  ⟨below_aside h.bel (Aside.of_all hb : Aside (fun _ => False) wr W) (fun k hk => ⟨by have := h.size; omega, id⟩), h.s.below (by simp) hb, row_below h.own hb, row_below h.row hb, Nat.le_trans h.size hb.size⟩
theorem ShO.shape (h : ShO w wr N i f va vo E b l) : ∃ d c, vo = .slice d l.length c := row_shape h.row
theorem ShO.app (h : ShO w wr N i f va vo E b l) (hW : Below wr.heap.size wr W) (x g : Nat) (hx : W.cell? ⟨g, 0, none⟩ = some (pe b x)) (hn : l.length + 1 ≤ 1000000) :
    ∃ d c W2, (Builtin.append_ #[61, 61] 61 #[vo, .slice (some ⟨g, 0, none⟩) 1 1]).run Tryz.prog W = .ok (.slice d (l.length + 1) c) W2 ∧
      W2.cell? ⟨N + 1, 3, none⟩ = some vo ∧ W2.frozen? ⟨N + 1, 3, none⟩ = false ∧ ShO w (W2.setCell ⟨N + 1, 3, none⟩ (.slice d (l.length + 1) c)) N i f va (.slice d (l.length + 1) c) E b (l ++ [x]) := by
  have hR := h.later hW
  obtain ⟨i0, hi, hz0, hz1, hz2⟩ := info_parts info_pe
  have hl : Lst W (g + 1) (.slice (some ⟨g, 0, none⟩) 1 1) 1 [pe b x] := ⟨_, 1, rfl, by simp, fun h => by simp at h, fun _ => ⟨g, 0, rfl, by omega, fun i u hu => by
    match i, hu with
    | 0, hu => rw [Nat.zero_add]; rw [hx]; simpa using hu
    | i + 1, hu => simp at hu⟩⟩
  obtain ⟨d, c, W2, hr, ho, ha, _⟩ := row_more (ty := 61) 8 Tryz.underlying61 hi hz0 hz1 hz2 rfl (by decide) (by decide) hR.row hl rfl (fun u hu => by obtain rfl := List.mem_singleton.mp hu; rfl) hn hR.size
  have hlt := World.ownsRow.lt hR.row
  have hG : ∀ k, k < N + 2 → ¬ vo.ownBlock = some k := fun k hk hv => by have := (hlt k hv).1; omega
  have hs := hR.s.aside (by simp) ha (hG _ (by omega))
  have hown : OwnEn W2 (N + 2) va E (List.replicate E.length false) := row_aside hR.own ha (fun k hk hg => row_apart hR.own hR.row (by decide) k hk hg)
  have h2 : Aside (fun k => k = N + 1) W2 (W2.setCell ⟨N + 1, 3, none⟩ (.slice d (l.length + 1) c)) := Aside.setCell _ (p := ⟨N + 1, 3, none⟩) _ rfl
  have hb := below_aside hR.bel ha (fun k hk => ⟨by have := hR.size; omega, hG k (by omega)⟩)
  refine ⟨d, c, W2, hr, hs.c 3 (by simp), hs.fz 3, below_aside hb h2 (fun k hk => ⟨by have := hR.size; have := ha.size; omega, by omega⟩), hs.set (o := 3) (by simp) _, row_aside hown h2 (fun k hk hg => by have := (World.ownsRow.lt hown k hk).1; omega), ?_, Nat.le_trans hR.size (Nat.le_trans ha.size h2.size)⟩
  rw [List.length_append, List.length_singleton, List.map_append]
  exact row_aside ho h2 (fun k hk hg => by have := (World.ownsRow.lt ho k hk).1; omega)
end
theorem OwnEn.at_ {w : World} {B b c : Nat} {E : List En} {O : List Bool} (h : OwnEn w B (.slice (some ⟨b, 0, none⟩) E.length c) E O) (j : Nat) (hj : j < E.length) (o : Bool) (ho : O[j]? = some o) (i : Nat) (hi : i < 10) : w.cell? ⟨b, j * 10 + i, none⟩ = (ce E[j] o)[i]? := by
  rw [World.ownsRow.cellAt h _ (by omega)]
  exact acE_at E O j hj o ho i hi
theorem OwnEn.kn {w : World} {B b c : Nat} {E : List En} {O : List Bool} (h : OwnEn w B (.slice (some ⟨b, 0, none⟩) E.length c) E O) (hO : O.length = E.length) : Kn w b E.length (kOf E) := fun i hi => by
  have := h.at_ i hi O[i] (List.getElem?_eq_getElem (by omega)) 0 (by omega)
  rw [Nat.add_zero] at this
  rw [this, kOf_at hi]
  rfl
end Go.Proofs.YteegekpanadmkaaGreat

/-
  What Read stands on: what is read so far, the deferred function.
-/
namespace Go.Proofs.YteegekpanadmkaaGreat
open Go.RowKit Go.Shelf
set_option linter.unusedVariables false
set_option linter.unusedSimpArgs false
set_option maxRecDepth 100000

def RD.app {α : Type} (l : List α) : RD α → RD α
  | .ok l' q => .ok (l ++ l') q
  | .bad e a => .bad e a
theorem RD.app_cons {α : Type} (l : List α) (x : α) (r : RD α) : RD.app l (r.cons x) = RD.app (l ++ [x]) r := by
  cases r <;> simp [RD.app, RD.cons]
theorem RD.app_nil {α : Type} (r : RD α) : RD.app [] r = r := by cases r <;> simp [RD.app]
theorem rdQs_step (b : List UInt8) (l : List Qn) (g p : Nat) : RD.app l (rdQs b (g + 1) p) = if (s3 b p).e ≠ 0 then .bad (s3 b p).e (s3 b p).p else RD.app (l ++ [quesR b p]) (rdQs b g (s3 b p).a.toNat) := by
  rw [rdQs]
  split
  · rfl
  · rw [RD.app_cons]
theorem rdRs_step (b : List UInt8) (l : List Rc) (g p : Nat) : RD.app l (rdRs b (g + 1) p) = if (s6 b p).e ≠ 0 then .bad (s6 b p).e (s6 b p).p else RD.app (l ++ [recR b p]) (rdRs b g (s6 b p).a.toNat) := by
  rw [rdRs]
  split
  · rfl
  · rw [RD.app_cons]

/-- What is read so far. -/
structure R0 (w wr : World) (M H B0 : Nat) (i0 i1 : Int) (hs : List Value) (v2 v3 v4 v5 : Value) (lq : List Qn) (la ln lr : List Rc) : Prop where
  x : Cel wr M [.int .i64 i0, .int .i64 i1, v2, v3, v4, v5]
  f : Cel wr (M + 1) [.int .i64 0, .int .i64 0]
  h : Cel wr H hs
  hl : 0 < hs.length
  q : OwnQn wr B0 v2 lq
  a : OwnRc wr B0 v3 la
  n : OwnRc wr B0 v4 ln
  r : OwnRc wr B0 v5 lr
  n34 : ∀ k, v3.ownBlock = some k → v4.ownBlock = some k → False
  n35 : ∀ k, v3.ownBlock = some k → v5.ownBlock = some k → False
  n45 : ∀ k, v4.ownBlock = some k → v5.ownBlock = some k → False
  bel : Below M w wr
  size : B0 ≤ wr.heap.size
  hH : M + 2 ≤ H
  hB : H < B0

section
variable {w wr w' : World} {M H B0 : Nat} {i0 i1 : Int} {hs : List Value} {v2 v3 v4 v5 : Value} {lq : List Qn} {la ln lr : List Rc}
theorem R0.later (h : R0 w wr M H B0 i0 i1 hs v2 v3 v4 v5 lq la ln lr) (hb : Below wr.heap.size wr w') : R0 w w' M H B0 i0 i1 hs v2 v3 v4 v5 lq la ln lr :=
  ⟨h.x.below (by simp) hb, h.f.below (by simp) hb, h.h.below h.hl hb, h.hl, row_below h.q hb, row_below h.a hb, row_below h.n hb, row_below h.r hb, h.n34, h.n35, h.n45, below_aside h.bel (Aside.of_all hb : Aside (fun _ => False) wr w') (fun k hk => ⟨by have := h.size; have := h.hB; have := h.hH; omega, id⟩), Nat.le_trans h.size hb.size, h.hH, h.hB⟩

/-- Other numbers of no fault are stored. -/
theorem R0.fault (h : R0 w wr M H B0 i0 i1 hs v2 v3 v4 v5 lq la ln lr) : R0 w ((wr.setCell ⟨M + 1, 0, none⟩ (.int .i64 0)).setCell ⟨M + 1, 1, none⟩ (.int .i64 0)) M H B0 i0 i1 hs v2 v3 v4 v5 lq la ln lr := by
  have hH := h.hH
  have hB := h.hB
  have hst : Aside (fun k => k = M + 1) wr ((wr.setCell ⟨M + 1, 0, none⟩ (.int .i64 0)).setCell ⟨M + 1, 1, none⟩ (.int .i64 0)) := by
    have g1 : Aside (fun k => k = M + 1) wr (wr.setCell ⟨M + 1, 0, none⟩ (.int .i64 0)) := Aside.setCell wr (p := ⟨M + 1, 0, none⟩) _ rfl
    have g2 : Aside (fun k => k = M + 1) (wr.setCell ⟨M + 1, 0, none⟩ (.int .i64 0)) ((wr.setCell ⟨M + 1, 0, none⟩ (.int .i64 0)).setCell ⟨M + 1, 1, none⟩ (.int .i64 0)) := Aside.setCell _ (p := ⟨M + 1, 1, none⟩) _ rfl
    exact g1.trans g2
  have ho : ∀ {v : Value} {k e : Nat} {xs : List Value} {n : Nat}, wr.ownsRow B0 e k v n xs → ∀ j, v.ownBlock = some j → ¬ j = M + 1 := fun hr j hj hg => by have := (World.ownsRow.lt hr j hj).1; omega
  refine ⟨h.x.aside (by simp) hst (by omega), ?_, h.h.aside h.hl hst (by omega), h.hl, row_aside h.q hst (ho h.q), row_aside h.a hst (ho h.a), row_aside h.n hst (ho h.n), row_aside h.r hst (ho h.r), h.n34, h.n35, h.n45, below_aside h.bel hst (fun k hk => ⟨by have := h.size; omega, by omega⟩), Nat.le_trans h.size hst.size, hH, hB⟩
  have := (h.f.set (o := 0) (by simp) (.int .i64 0)).set (o := 1) (by simp) (.int .i64 0)
  simpa using this

theorem R0.read0 (h : R0 w wr M H B0 i0 i1 hs v2 v3 v4 v5 lq la ln lr) {v' : Value} {x : Qn} (hx : Cel w' M ([.int .i64 i0, .int .i64 i1, v2, v3, v4, v5].set 2 v')) (ho : OwnQn w' B0 v' (lq ++ [x])) (ha : Aside (fun k => k = M ∨ v2.ownBlock = some k) wr w') (hk : v'.ownBlock = v2.ownBlock ∨ ∃ k, v'.ownBlock = some k ∧ wr.heap.size ≤ k) :
    R0 w w' M H B0 i0 i1 hs v' v3 v4 v5 (lq ++ [x]) (la) (ln) (lr) := by
  have hH := h.hH
  have hB := h.hB
  have hlt := World.ownsRow.lt h.q
  have hG : ∀ k, k < B0 → k ≠ M → ¬ (k = M ∨ v2.ownBlock = some k) := fun k hk1 hk2 hg => by
    rcases hg with rfl | hg
    · exact hk2 rfl
    · have := (hlt k hg).1; omega
  have hM : ∀ {v : Value} {k e : Nat} {xs : List Value} {n : Nat}, wr.ownsRow B0 e k v n xs → ∀ j, v.ownBlock = some j → j ≠ M := fun hr j hj hg => by have := (World.ownsRow.lt hr j hj).1; omega
  have o1 : ∀ j, v3.ownBlock = some j → ¬ (j = M ∨ v2.ownBlock = some j) := fun j hj hg => by
    rcases hg with rfl | hg
    · exact hM h.a _ hj rfl
    · exact row_apart h.a h.q (by decide) j hj hg
  have o2 : ∀ j, v4.ownBlock = some j → ¬ (j = M ∨ v2.ownBlock = some j) := fun j hj hg => by
    rcases hg with rfl | hg
    · exact hM h.n _ hj rfl
    · exact row_apart h.n h.q (by decide) j hj hg
  have o3 : ∀ j, v5.ownBlock = some j → ¬ (j = M ∨ v2.ownBlock = some j) := fun j hj hg => by
    rcases hg with rfl | hg
    · exact hM h.r _ hj rfl
    · exact row_apart h.r h.q (by decide) j hj hg
  refine ⟨by simpa using hx, h.f.aside (by simp) ha (hG _ (by omega) (by omega)), h.h.aside h.hl ha (hG _ hB (by omega)), h.hl, ho, row_aside h.a ha o1, row_aside h.n ha o2, row_aside h.r ha o3, ?_, ?_, ?_, below_aside h.bel ha (fun k hk => ⟨by have := h.size; omega, hG k (by omega) (by omega)⟩), Nat.le_trans h.size ha.size, hH, hB⟩
  · exact h.n34
  · exact h.n35
  · exact h.n45

theorem R0.read1 (h : R0 w wr M H B0 i0 i1 hs v2 v3 v4 v5 lq la ln lr) {v' : Value} {x : Rc} (hx : Cel w' M ([.int .i64 i0, .int .i64 i1, v2, v3, v4, v5].set 3 v')) (ho : OwnRc w' B0 v' (la ++ [x])) (ha : Aside (fun k => k = M ∨ v3.ownBlock = some k) wr w') (hk : v'.ownBlock = v3.ownBlock ∨ ∃ k, v'.ownBlock = some k ∧ wr.heap.size ≤ k) :
    R0 w w' M H B0 i0 i1 hs v2 v' v4 v5 (lq) (la ++ [x]) (ln) (lr) := by
  have hH := h.hH
  have hB := h.hB
  have hlt := World.ownsRow.lt h.a
  have hG : ∀ k, k < B0 → k ≠ M → ¬ (k = M ∨ v3.ownBlock = some k) := fun k hk1 hk2 hg => by
    rcases hg with rfl | hg
    · exact hk2 rfl
    · have := (hlt k hg).1; omega
  have hM : ∀ {v : Value} {k e : Nat} {xs : List Value} {n : Nat}, wr.ownsRow B0 e k v n xs → ∀ j, v.ownBlock = some j → j ≠ M := fun hr j hj hg => by have := (World.ownsRow.lt hr j hj).1; omega
  have o0 : ∀ j, v2.ownBlock = some j → ¬ (j = M ∨ v3.ownBlock = some j) := fun j hj hg => by
    rcases hg with rfl | hg
    · exact hM h.q _ hj rfl
    · exact row_apart h.q h.a (by decide) j hj hg
  have o2 : ∀ j, v4.ownBlock = some j → ¬ (j = M ∨ v3.ownBlock = some j) := fun j hj hg => by
    rcases hg with rfl | hg
    · exact hM h.n _ hj rfl
    · exact h.n34 j hg hj
  have o3 : ∀ j, v5.ownBlock = some j → ¬ (j = M ∨ v3.ownBlock = some j) := fun j hj hg => by
    rcases hg with rfl | hg
    · exact hM h.r _ hj rfl
    · exact h.n35 j hg hj
  refine ⟨by simpa using hx, h.f.aside (by simp) ha (hG _ (by omega) (by omega)), h.h.aside h.hl ha (hG _ hB (by omega)), h.hl, row_aside h.q ha o0, ho, row_aside h.n ha o2, row_aside h.r ha o3, ?_, ?_, ?_, below_aside h.bel ha (fun k hk => ⟨by have := h.size; omega, hG k (by omega) (by omega)⟩), Nat.le_trans h.size ha.size, hH, hB⟩
  · exact fun k h1 h2 => by
      rcases hk with hk | ⟨m, hk, hm⟩
      · exact h.n34 k (hk.symm.trans h1) h2
      · rw [hk] at h1
        injection h1 with h1
        have := (World.ownsRow.lt h.n k h2).2
        omega
  · exact fun k h1 h2 => by
      rcases hk with hk | ⟨m, hk, hm⟩
      · exact h.n35 k (hk.symm.trans h1) h2
      · rw [hk] at h1
        injection h1 with h1
        have := (World.ownsRow.lt h.r k h2).2
        omega
  · exact h.n45

theorem R0.read2 (h : R0 w wr M H B0 i0 i1 hs v2 v3 v4 v5 lq la ln lr) {v' : Value} {x : Rc} (hx : Cel w' M ([.int .i64 i0, .int .i64 i1, v2, v3, v4, v5].set 4 v')) (ho : OwnRc w' B0 v' (ln ++ [x])) (ha : Aside (fun k => k = M ∨ v4.ownBlock = some k) wr w') (hk : v'.ownBlock = v4.ownBlock ∨ ∃ k, v'.ownBlock = some k ∧ wr.heap.size ≤ k) :
    R0 w w' M H B0 i0 i1 hs v2 v3 v' v5 (lq) (la) (ln ++ [x]) (lr) := by
  have hH := h.hH
  have hB := h.hB
  have hlt := World.ownsRow.lt h.n
  have hG : ∀ k, k < B0 → k ≠ M → ¬ (k = M ∨ v4.ownBlock = some k) := fun k hk1 hk2 hg => by
    rcases hg with rfl | hg
    · exact hk2 rfl
    · have := (hlt k hg).1; omega
  have hM : ∀ {v : Value} {k e : Nat} {xs : List Value} {n : Nat}, wr.ownsRow B0 e k v n xs → ∀ j, v.ownBlock = some j → j ≠ M := fun hr j hj hg => by have := (World.ownsRow.lt hr j hj).1; omega
  have o0 : ∀ j, v2.ownBlock = some j → ¬ (j = M ∨ v4.ownBlock = some j) := fun j hj hg => by
    rcases hg with rfl | hg
    · exact hM h.q _ hj rfl
    · exact row_apart h.q h.n (by decide) j hj hg
  have o1 : ∀ j, v3.ownBlock = some j → ¬ (j = M ∨ v4.ownBlock = some j) := fun j hj hg => by
    rcases hg with rfl | hg
    · exact hM h.a _ hj rfl
    · exact h.n34 j hj hg
  have o3 : ∀ j, v5.ownBlock = some j → ¬ (j = M ∨ v4.ownBlock = some j) := fun j hj hg => by
    rcases hg with rfl | hg
    · exact hM h.r _ hj rfl
    · exact h.n45 j hg hj
  refine ⟨by simpa using hx, h.f.aside (by simp) ha (hG _ (by omega) (by omega)), h.h.aside h.hl ha (hG _ hB (by omega)), h.hl, row_aside h.q ha o0, row_aside h.a ha o1, ho, row_aside h.r ha o3, ?_, ?_, ?_, below_aside h.bel ha (fun k hk => ⟨by have := h.size; omega, hG k (by omega) (by omega)⟩), Nat.le_trans h.size ha.size, hH, hB⟩
  · exact fun k h1 h2 => by
      rcases hk with hk | ⟨m, hk, hm⟩
      · exact h.n34 k h1 (hk.symm.trans h2)
      · rw [hk] at h2
        injection h2 with h2
        have := (World.ownsRow.lt h.a k h1).2
        omega
  · exact h.n35
  · exact fun k h1 h2 => by
      rcases hk with hk | ⟨m, hk, hm⟩
      · exact h.n45 k (hk.symm.trans h1) h2
      · rw [hk] at h1
        injection h1 with h1
        have := (World.ownsRow.lt h.r k h2).2
        omega

theorem R0.read3 (h : R0 w wr M H B0 i0 i1 hs v2 v3 v4 v5 lq la ln lr) {v' : Value} {x : Rc} (hx : Cel w' M ([.int .i64 i0, .int .i64 i1, v2, v3, v4, v5].set 5 v')) (ho : OwnRc w' B0 v' (lr ++ [x])) (ha : Aside (fun k => k = M ∨ v5.ownBlock = some k) wr w') (hk : v'.ownBlock = v5.ownBlock ∨ ∃ k, v'.ownBlock = some k ∧ wr.heap.size ≤ k) :
    R0 w w' M H B0 i0 i1 hs v2 v3 v4 v' (lq) (la) (ln) (lr ++ [x]) := by
  have hH := h.hH
  have hB := h.hB
  have hlt := World.ownsRow.lt h.r
  have hG : ∀ k, k < B0 → k ≠ M → ¬ (k = M ∨ v5.ownBlock = some k) := fun k hk1 hk2 hg => by
    rcases hg with rfl | hg
    · exact hk2 rfl
    · have := (hlt k hg).1; omega
  have hM : ∀ {v : Value} {k e : Nat} {xs : List Value} {n : Nat}, wr.ownsRow B0 e k v n xs → ∀ j, v.ownBlock = some j → j ≠ M := fun hr j hj hg => by have := (World.ownsRow.lt hr j hj).1; omega
  have o0 : ∀ j, v2.ownBlock = some j → ¬ (j = M ∨ v5.ownBlock = some j) := fun j hj hg => by
    rcases hg with rfl | hg
    · exact hM h.q _ hj rfl
    · exact row_apart h.q h.r (by decide) j hj hg
  have o1 : ∀ j, v3.ownBlock = some j → ¬ (j = M ∨ v5.ownBlock = some j) := fun j hj hg => by
    rcases hg with rfl | hg
    · exact hM h.a _ hj rfl
    · exact h.n35 j hj hg
  have o2 : ∀ j, v4.ownBlock = some j → ¬ (j = M ∨ v5.ownBlock = some j) := fun j hj hg => by
    rcases hg with rfl | hg
    · exact hM h.n _ hj rfl
    · exact h.n45 j hj hg
  refine ⟨by simpa using hx, h.f.aside (by simp) ha (hG _ (by omega) (by omega)), h.h.aside h.hl ha (hG _ hB (by omega)), h.hl, row_aside h.q ha o0, row_aside h.a ha o1, row_aside h.n ha o2, ho, ?_, ?_, ?_, below_aside h.bel ha (fun k hk => ⟨by have := h.size; omega, hG k (by omega) (by omega)⟩), Nat.le_trans h.size ha.size, hH, hB⟩
  · exact h.n34
  · exact fun k h1 h2 => by
      rcases hk with hk | ⟨m, hk, hm⟩
      · exact h.n35 k h1 (hk.symm.trans h2)
      · rw [hk] at h2
        injection h2 with h2
        have := (World.ownsRow.lt h.a k h1).2
        omega
  · exact fun k h1 h2 => by
      rcases hk with hk | ⟨m, hk, hm⟩
      · exact h.n45 k h1 (hk.symm.trans h2)
      · rw [hk] at h2
        injection h2 with h2
        have := (World.ownsRow.lt h.n k h1).2
        omega
end

/-- A message of nothing. -/
def zeroM : Value := .agg #[.int .i64 0, .int .i64 0, .slice none 0 0, .slice none 0 0, .slice none 0 0, .slice none 0 0]

theorem rend_ok (g h : Nat) (w : World) (hp : w.cell? ⟨g, 0, none⟩ = some (.int .i64 0)) :
    CallsD Tryz.prog 47 #[.pointer (some ⟨g, 0, none⟩), .pointer (some ⟨h, 0, none⟩)] .returning w fun e u' w' => u' = .returning ∧ (e = .returned (.tuple #[]) ∧ w = w') := by
  refine callsD_of_wp Tryz.func47 rfl ?_
  simp only [Tryz.ntmps47, List.size_toArray, List.length_cons, List.length_nil, Nat.reduceAdd, Nat.reduceSub, Array.replicate_succ, Array.replicate_zero, List.push_toArray, List.append_toArray, List.nil_append, List.cons_append]
  go_wp2
  exact ⟨rfl, .tuple #[], by simp [results, Tryz.results47], rfl, rfl⟩
theorem rend_bad (g h : Nat) (E : Int) (a b c d e f : Value) (hE : E ≠ 0) (w : World) (hp : w.cell? ⟨g, 0, none⟩ = some (.int .i64 E)) (hq : Cel w h [a, b, c, d, e, f]) :
    CallsD Tryz.prog 47 #[.pointer (some ⟨g, 0, none⟩), .pointer (some ⟨h, 0, none⟩)] .returning w fun x u' w' => u' = .returning ∧ (x = .returned (.tuple #[]) ∧ Cel w' h [.int .i64 0, .int .i64 0, .slice none 0 0, .slice none 0 0, .slice none 0 0, .slice none 0 0] ∧ Aside (fun k => k = h) w w') := by
  have tE : (E != 0) = true := by simpa using hE
  obtain ⟨c0, c1, c2, c3, c4, c5⟩ := hq.six
  have fz := hq.fz
  have HQ := Lib.hid hq
  clear hq
  refine callsD_of_wp Tryz.func47 rfl ?_
  simp only [Tryz.ntmps47, List.size_toArray, List.length_cons, List.length_nil, Nat.reduceAdd, Nat.reduceSub, Array.replicate_succ, Array.replicate_zero, List.push_toArray, List.append_toArray, List.nil_append, List.cons_append]
  go_wp2
  refine ⟨rfl, .tuple #[], by simp [results, Tryz.results47], rfl, ?_, ?_⟩
  · have := (((((HQ.out.set (o := 0) (by simp) (.int .i64 0)).set (o := 1) (by simp) (.int .i64 0)).set (o := 2) (by simp) (.slice none 0 0)).set (o := 3) (by simp) (.slice none 0 0)).set (o := 4) (by simp) (.slice none 0 0)).set (o := 5) (by simp) (.slice none 0 0)
    simpa using this
  · have st : ∀ (X : World) (o : Nat) (v : Value), Aside (fun k => k = h) X (X.setCell ⟨h, o, none⟩ v) := fun X o v => Aside.setCell X (p := ⟨h, o, none⟩) v rfl
    exact (((((st _ _ _).trans (st _ _ _)).trans (st _ _ _)).trans (st _ _ _)).trans (st _ _ _)).trans (st _ _ _)

end Go.Proofs.YteegekpanadmkaaGreat

/-
  The message that bytes are: Read.
-/
namespace Go.Proofs.YteegekpanadmkaaGreat
open Go.RowKit Go.Shelf
set_option linter.unusedVariables false
set_option linter.unusedSimpArgs false
set_option maxRecDepth 100000

/-- What Read tells. -/
def RMPost (w : World) (R : RM) (x : Ending) (w' : World) : Prop :=
  match R with
  | .ok m => ∃ v, x = .returned (.tuple #[v, .agg #[.int .i64 0, .int .i64 0]]) ∧ Mg w' w'.heap.size v m ∧ Below w.heap.size w w'
  | .bad e a => x = .returned (.tuple #[zeroM, .agg #[.int .i64 e, .int .i64 a]]) ∧ Below w.heap.size w w'

theorem m_readQ (M : Nat) (w : World) : (method 313 117 (.agg #[.pointer (some ⟨M, 2, none⟩)]) "ostiary/msg.read").run Tryz.prog w = .ok (120, .agg #[.pointer (some ⟨M, 2, none⟩)]) w := by kernel_rfl
theorem m_readR (M o : Nat) (w : World) : (method 313 120 (.agg #[.pointer (some ⟨M, o, none⟩)]) "ostiary/msg.read").run Tryz.prog w = .ok (153, .agg #[.pointer (some ⟨M, o, none⟩)]) w := by kernel_rfl

/-- A fault: what is left. -/
theorem rd_leave_bad {w X : World} {M : Nat} {tmps : Array Value} {F A : Int} {a b c d e f : Value} (hM : w.heap.size = M) (hF : F ≠ 0) (q2 : Cel X M [a, b, c, d, e, f]) (q3 : Cel X (M + 1) [.int .i64 F, .int .i64 A]) (hb : Below M w X)
    (t2 : tmps.getD 2 undef = .pointer (some ⟨M, 0, none⟩)) (t3 : tmps.getD 3 undef = .pointer (some ⟨M + 1, 0, none⟩)) :
    Leaves Tryz.prog Tryz.f20 tmps (RMPost w (.bad F A)) [{ target := .fn (.func 47) #[.pointer (some ⟨M + 1, 0, none⟩), .pointer (some ⟨M, 0, none⟩)], args := #[] }] .returning X := by
  refine leaves_cons (f := 47) (args := #[.pointer (some ⟨M + 1, 0, none⟩), .pointer (some ⟨M, 0, none⟩)]) (by simp) (by simp [go_sem]) ?_
  refine (rend_bad (M + 1) M F a b c d e f hF X (q3.c 0 (by simp)) q2).mono ?_
  rintro e0 u' w9 ⟨rfl, rfl, z, ha⟩
  obtain ⟨m0, m1, m2, m3, m4, m5⟩ := z.six
  have q4 := q3.aside (by simp) ha (by omega)
  have k0 := q4.c 0 (by simp)
  have k1 := q4.c 1 (by simp)
  simp only [List.getElem_cons_zero, List.getElem_cons_succ] at k0 k1
  simp [Leaves, settle, results, Tryz.results20, go_sem, -Array.getD_eq_getD_getElem?, t2, t3, m0, m1, m2, m3, m4, m5, k0, k1]
  refine ⟨rfl, ?_⟩
  rw [hM]
  exact below_aside hb ha fun k hk => ⟨Nat.lt_of_lt_of_le hk (by have := hb.size; omega), by omega⟩
/-- No fault: what is left. -/
theorem rd_leave_ok {w X : World} {M : Nat} {tmps : Array Value} {m : Ms} {a b c d e f : Value} (hM : w.heap.size = M) (q2 : Cel X M [a, b, c, d, e, f]) (q3 : Cel X (M + 1) [.int .i64 0, .int .i64 0]) (hb : Below M w X) (hm : Mg X X.heap.size (.agg #[a, b, c, d, e, f]) m)
    (t2 : tmps.getD 2 undef = .pointer (some ⟨M, 0, none⟩)) (t3 : tmps.getD 3 undef = .pointer (some ⟨M + 1, 0, none⟩)) :
    Leaves Tryz.prog Tryz.f20 tmps (RMPost w (.ok m)) [{ target := .fn (.func 47) #[.pointer (some ⟨M + 1, 0, none⟩), .pointer (some ⟨M, 0, none⟩)], args := #[] }] .returning X := by
  refine leaves_cons (f := 47) (args := #[.pointer (some ⟨M + 1, 0, none⟩), .pointer (some ⟨M, 0, none⟩)]) (by simp) (by simp [go_sem]) ?_
  refine (rend_ok (M + 1) M X (q3.c 0 (by simp))).mono ?_
  rintro e0 u' w9 ⟨rfl, rfl, rfl⟩
  obtain ⟨m0, m1, m2, m3, m4, m5⟩ := q2.six
  have k0 := q3.c 0 (by simp)
  have k1 := q3.c 1 (by simp)
  simp only [List.getElem_cons_zero, List.getElem_cons_succ] at k0 k1
  simp [Leaves, settle, results, Tryz.results20, go_sem, -Array.getD_eq_getD_getElem?, t2, t3, m0, m1, m2, m3, m4, m5, k0, k1]
  exact ⟨_, rfl, hm, by rw [hM]; exact hb⟩

theorem rd_put {w X : World} {M : Nat} {a b c d e f : Value} {F A F0 A0 : Int} (q2 : Cel X M [a, b, c, d, e, f]) (q3 : Cel X (M + 1) [.int .i64 F0, .int .i64 A0]) (hb : Below M w X) :
    Cel ((((((((X.setCell ⟨M, 0, none⟩ a).setCell ⟨M, 1, none⟩ b).setCell ⟨M, 2, none⟩ c).setCell ⟨M, 3, none⟩ d).setCell ⟨M, 4, none⟩ e).setCell ⟨M, 5, none⟩ f).setCell ⟨M + 1, 0, none⟩ (.int .i64 F)).setCell ⟨M + 1, 1, none⟩ (.int .i64 A)) M [a, b, c, d, e, f] ∧ Cel ((((((((X.setCell ⟨M, 0, none⟩ a).setCell ⟨M, 1, none⟩ b).setCell ⟨M, 2, none⟩ c).setCell ⟨M, 3, none⟩ d).setCell ⟨M, 4, none⟩ e).setCell ⟨M, 5, none⟩ f).setCell ⟨M + 1, 0, none⟩ (.int .i64 F)).setCell ⟨M + 1, 1, none⟩ (.int .i64 A)) (M + 1) [.int .i64 F, .int .i64 A] ∧ Below M w ((((((((X.setCell ⟨M, 0, none⟩ a).setCell ⟨M, 1, none⟩ b).setCell ⟨M, 2, none⟩ c).setCell ⟨M, 3, none⟩ d).setCell ⟨M, 4, none⟩ e).setCell ⟨M, 5, none⟩ f).setCell ⟨M + 1, 0, none⟩ (.int .i64 F)).setCell ⟨M + 1, 1, none⟩ (.int .i64 A)) := by
  refine ⟨?_, ?_, ?_⟩
  · have := (((((((q2.set (o := 0) (by simp) a).set (o := 1) (by simp) b).set (o := 2) (by simp) c).set (o := 3) (by simp) d).set (o := 4) (by simp) e).set (o := 5) (by simp) f).other (a := ⟨M + 1, 0, none⟩) (by simp) (.int .i64 F)).other (a := ⟨M + 1, 1, none⟩) (by simp) (.int .i64 A)
    simpa using this
  · have := (((((((q3.other (a := ⟨M, 0, none⟩) (by simp) a).other (a := ⟨M, 1, none⟩) (by simp) b).other (a := ⟨M, 2, none⟩) (by simp) c).other (a := ⟨M, 3, none⟩) (by simp) d).other (a := ⟨M, 4, none⟩) (by simp) e).other (a := ⟨M, 5, none⟩) (by simp) f).set (o := 0) (by simp) (.int .i64 F)).set (o := 1) (by simp) (.int .i64 A)
    simpa using this
  · exact (((((((hb.setCell (by show M ≤ M; omega) _).setCell (by show M ≤ M; omega) _).setCell (by show M ≤ M; omega) _).setCell (by show M ≤ M; omega) _).setCell (by show M ≤ M; omega) _).setCell (by show M ≤ M; omega) _).setCell (by show M ≤ M + 1; omega) _).setCell (by show M ≤ M + 1; omega) _
theorem cel_drew {w : World} {q : Nat} {l : List Value} (h : Cel w q l) : Cel w.drew q l := ⟨h.c, h.fz⟩

/-- How Read begins. -/
theorem rd_start {w : World} {M : Nat} (hM : w.heap.size = M) : ∃ W1 W2, w.alloc (.cells #[.int .i64 0, .int .i64 0, .slice none 0 0, .slice none 0 0, .slice none 0 0, .slice none 0 0] 25) = W1 ∧ W1.alloc (.cells #[.int .i64 0, .int .i64 0] 42) = W2 ∧
    W1.heap.size = M + 1 ∧ W2.heap.size = M + 2 ∧ Below M w W2 ∧ Cel W2 M [.int .i64 0, .int .i64 0, .slice none 0 0, .slice none 0 0, .slice none 0 0, .slice none 0 0] ∧ Cel W2 (M + 1) [.int .i64 0, .int .i64 0] := by
  refine ⟨_, _, rfl, rfl, by simp [hM], by simp [hM], ?_, ?_, ?_⟩
  · rw [← hM]; exact ((Below.refl _ _).alloc (Nat.le_refl _) _).alloc (by simp) _
  · have hx := cel_new6 w (.int .i64 0) (.int .i64 0) (.slice none 0 0) (.slice none 0 0) (.slice none 0 0) (.slice none 0 0) 25
    rw [hM] at hx
    exact hx.below (by simp) ((Below.refl _ _).alloc (Nat.le_refl _) _)
  · have hy := cel_new2 (w.alloc (.cells #[.int .i64 0, .int .i64 0, .slice none 0 0, .slice none 0 0, .slice none 0 0, .slice none 0 0] 25)) (.int .i64 0) (.int .i64 0) 42
    simp only [World.size_alloc, hM] at hy
    exact hy

set_option maxHeartbeats 8000000 in
/-- More bytes than a message has. -/
theorem readM_long {w : World} {av : Option Addr} {n cv : Nat} (hn : 65535 < n) (hn2 : n ≤ 140737488351232) : Calls Tryz.prog 20 #[.slice av n cv] w (RMPost w (.bad 3 0)) := by
  obtain ⟨M, hM⟩ : ∃ M, w.heap.size = M := ⟨_, rfl⟩
  obtain ⟨W1, W2, hW1, hW2, s1, s2, hb, hx, hy⟩ := rd_start hM
  have hmf : ∀ (fn : Fn) (first cap : Array Value) (w : World), (Instr.makeFunc fn first cap).run Tryz.prog w = .ok (.func fn first cap) w := fun _ _ _ _ => rfl
  have tL : decide ((65535 : Int) < n) = true := by simp; omega
  obtain ⟨c0, c1, c2, c3, c4, c5⟩ := hx.six
  have fx := hx.fz
  have y0 := hy.c 0 (by simp)
  have y1 := hy.c 1 (by simp)
  simp only [List.getElem_cons_zero, List.getElem_cons_succ] at y0 y1
  have fy := hy.fz
  have HX := Lib.hid hx
  have HY := Lib.hid hy
  have HB := Lib.hid hb
  have HM := Lib.hid hM
  clear hx hy hb hn
  go_enter_defers Tryz.func20, Tryz.ntmps20
  go_wp2_with fail
  obtain ⟨z2, z3, zb⟩ := rd_put (F := 3) (A := 0) HX.out HY.out HB.out
  exact rd_leave_bad HM.out (by decide) z2 z3 zb rfl rfl

set_option maxHeartbeats 8000000 in
/-- Fewer bytes than a head has. -/
theorem readM_short {w : World} {lo hi cv : Nat} {av : Option Addr} {b : List UInt8} (hS : Sl w lo hi (.slice av b.length cv) (iz b)) (hhi : hi ≤ w.heap.size) (hn : b.length < 12) : Calls Tryz.prog 20 #[.slice av b.length cv] w (RMPost w (.bad 4 b.length)) := by
  obtain ⟨M, hM⟩ : ∃ M, w.heap.size = M := ⟨_, rfl⟩
  obtain ⟨W1, W2, hW1, hW2, s1, s2, hb, hx, hy⟩ := rd_start hM
  have hmf : ∀ (fn : Fn) (first cap : Array Value) (w : World), (Instr.makeFunc fn first cap).run Tryz.prog w = .ok (.func fn first cap) w := fun _ _ _ _ => rfl
  have hc := nums_any (hS.below (hM ▸ hb) (by omega)) (show hi ≤ W2.heap.size by omega) (by omega)
  unfold numsV at hc
  rw [if_neg (by omega)] at hc
  obtain ⟨n, hnn⟩ : ∃ n, b.length = n := ⟨_, rfl⟩
  rw [hnn] at hc hn ⊢
  have tL : decide ((65535 : Int) < n) = false := by simp; omega
  have HX := Lib.hid hx
  have HY := Lib.hid hy
  have HB := Lib.hid hb
  have HM := Lib.hid hM
  have HC := Lib.hid hc
  clear hx hy hb hn hc hS hnn
  go_enter_defers Tryz.func20, Tryz.ntmps20
  go_wp2_with fail
  refine HC.out.mono ?_; rintro e w1 ⟨rfl, hb⟩
  have hb2 := bel_alloc hb (.cells #[.int .i64 0, .int .i64 0, .int .i64 0, .int .i64 0, .int .i64 0, .int .i64 0] 84)
  replace HX := Lib.hid (HX.out.below (by simp) hb2)
  replace HY := Lib.hid (HY.out.below (by simp) hb2)
  replace HB := Lib.hid (below_aside HB.out (Aside.of_all hb2 : Aside (fun _ => False) W2 (w1.alloc (.cells #[.int .i64 0, .int .i64 0, .int .i64 0, .int .i64 0, .int .i64 0, .int .i64 0] 84))) (fun k hk => ⟨by omega, id⟩))
  have y0 := HY.out.c 0 (by simp)
  have y1 := HY.out.c 1 (by simp)
  simp only [List.getElem_cons_zero, List.getElem_cons_succ] at y0 y1
  have fy := HY.out.fz
  obtain ⟨c0, c1, c2, c3, c4, c5⟩ := HX.out.six
  have fx := HX.out.fz
  clear hb hb2
  go_wp2_with fail
  have p2 := (HX.out.other (a := ⟨M + 1, 0, none⟩) (by simp) (.int .i64 4)).other (a := ⟨M + 1, 1, none⟩) (by simp) (.int .i64 n)
  have p3 := (HY.out.set (o := 0) (by simp) (.int .i64 4)).set (o := 1) (by simp) (.int .i64 n)
  have pb := (HB.out.setCell (p := ⟨M + 1, 0, none⟩) (by show M ≤ M + 1; omega) (.int .i64 4)).setCell (p := ⟨M + 1, 1, none⟩) (by show M ≤ M + 1; omega) (.int .i64 n)
  simp only [List.set_cons_zero, List.set_cons_succ] at p3
  obtain ⟨Y, hY⟩ : ∃ Y, ((w1.alloc (.cells #[.int .i64 0, .int .i64 0, .int .i64 0, .int .i64 0, .int .i64 0, .int .i64 0] 84)).setCell ⟨M + 1, 0, none⟩ (.int .i64 4)).setCell ⟨M + 1, 1, none⟩ (.int .i64 n) = Y := ⟨_, rfl⟩
  rw [hY] at p2 p3 pb ⊢
  clear c0 c1 c2 c3 c4 c5 fx y0 y1 fy hY
  obtain ⟨c0, c1, c2, c3, c4, c5⟩ := p2.six
  have fx := p2.fz
  have y0 := p3.c 0 (by simp)
  have y1 := p3.c 1 (by simp)
  simp only [List.getElem_cons_zero, List.getElem_cons_succ] at y0 y1
  have fy := p3.fz
  have P2 := Lib.hid p2
  have P3 := Lib.hid p3
  have PB := Lib.hid pb
  clear p2 p3 pb
  go_region
  go_wp2_with fail
  obtain ⟨z2, z3, zb⟩ := rd_put (F := 4) (A := n) P2.out P3.out PB.out
  exact rd_leave_bad HM.out (by decide) (cel_drew z2) (cel_drew z3) zb.drew rfl rfl

theorem R0.start {w W : World} {M H : Nat} {hs : List Value} (hx : Cel W M [.int .i64 0, .int .i64 0, .slice none 0 0, .slice none 0 0, .slice none 0 0, .slice none 0 0]) (hf : Cel W (M + 1) [.int .i64 0, .int .i64 0]) (hh : Cel W H hs) (hl : 0 < hs.length) (hb : Below M w W) (hs2 : H + 1 ≤ W.heap.size) (hH : M + 2 ≤ H) :
    R0 w W M H (H + 1) 0 0 hs (.slice none 0 0) (.slice none 0 0) (.slice none 0 0) (.slice none 0 0) [] [] [] [] :=
  ⟨hx, hf, hh, hl, World.ownsRow_nil _ _ _ _, World.ownsRow_nil _ _ _ _, World.ownsRow_nil _ _ _ _, World.ownsRow_nil _ _ _ _, fun k h => by simp [Value.ownBlock] at h, fun k h => by simp [Value.ownBlock] at h, fun k h => by simp [Value.ownBlock] at h, hb, hs2, hH, by omega⟩

section
variable {w wr w' : World} {M H B0 : Nat} {i0 i1 : Int} {hs : List Value} {v2 v3 v4 v5 : Value} {lq : List Qn} {la ln lr : List Rc}
/-- The message's and the fault's cells alone have turned. -/
theorem R0.turn {j0 j1 F A : Int} (h : R0 w wr M H B0 i0 i1 hs v2 v3 v4 v5 lq la ln lr) (ha : Aside (fun k => k = M ∨ k = M + 1) wr w') (hx : Cel w' M [.int .i64 j0, .int .i64 j1, v2, v3, v4, v5]) (hf : Cel w' (M + 1) [.int .i64 0, .int .i64 0]) : R0 w w' M H B0 j0 j1 hs v2 v3 v4 v5 lq la ln lr := by
  have hH := h.hH
  have hB := h.hB
  have ho : ∀ {v : Value} {k e : Nat} {xs : List Value} {n : Nat}, wr.ownsRow B0 e k v n xs → ∀ j, v.ownBlock = some j → ¬ (j = M ∨ j = M + 1) := fun hr j hj hg => by have := (World.ownsRow.lt hr j hj).1; omega
  exact ⟨hx, hf, h.h.aside h.hl ha (by omega), h.hl, row_aside h.q ha (ho h.q), row_aside h.a ha (ho h.a), row_aside h.n ha (ho h.n), row_aside h.r ha (ho h.r), h.n34, h.n35, h.n45, below_aside h.bel ha (fun k hk => ⟨by have := h.size; omega, by omega⟩), Nat.le_trans h.size ha.size, hH, hB⟩
theorem R0.ids (h : R0 w wr M H B0 i0 i1 hs v2 v3 v4 v5 lq la ln lr) (j0 j1 : Int) : R0 w ((wr.setCell ⟨M, 0, none⟩ (.int .i64 j0)).setCell ⟨M, 1, none⟩ (.int .i64 j1)) M H B0 j0 j1 hs v2 v3 v4 v5 lq la ln lr := by
  have st : ∀ (X : World) (o : Nat) (v : Value), Aside (fun k => k = M ∨ k = M + 1) X (X.setCell ⟨M, o, none⟩ v) := fun X o v => Aside.setCell X (p := ⟨M, o, none⟩) v (.inl rfl)
  refine h.turn (F := 0) (A := 0) ((st _ _ _).trans (st _ _ _)) ?_ ((h.f.other (by simp) _).other (by simp) _)
  have := (h.x.set (o := 0) (by simp) (.int .i64 j0)).set (o := 1) (by simp) (.int .i64 j1)
  simpa using this
theorem R0.drew (h : R0 w wr M H B0 i0 i1 hs v2 v3 v4 v5 lq la ln lr) : R0 w wr.drew M H B0 i0 i1 hs v2 v3 v4 v5 lq la ln lr := h.later (Below.refl _ _).drew
theorem R0.undrew (h : R0 w wr M H B0 i0 i1 hs v2 v3 v4 v5 lq la ln lr) {F A : Int} : Cel ((wr.setCell ⟨M + 1, 0, none⟩ (.int .i64 F)).setCell ⟨M + 1, 1, none⟩ (.int .i64 A)) M [.int .i64 i0, .int .i64 i1, v2, v3, v4, v5] ∧ Cel ((wr.setCell ⟨M + 1, 0, none⟩ (.int .i64 F)).setCell ⟨M + 1, 1, none⟩ (.int .i64 A)) (M + 1) [.int .i64 F, .int .i64 A] ∧ Below M w ((wr.setCell ⟨M + 1, 0, none⟩ (.int .i64 F)).setCell ⟨M + 1, 1, none⟩ (.int .i64 A)) := by
  refine ⟨(h.x.other (by simp) _).other (by simp) _, ?_, (h.bel.setCell (by show M ≤ M + 1; omega) _).setCell (by show M ≤ M + 1; omega) _⟩
  have := (h.f.set (o := 0) (by simp) (.int .i64 F)).set (o := 1) (by simp) (.int .i64 A)
  simpa using this
/-- What is read is the message. -/
theorem R0.mg (h : R0 w wr M H B0 i0 i1 hs v2 v3 v4 v5 lq la ln lr) (k0 : lq.length ≤ 65535) (k1 : la.length ≤ 65535) (k2 : ln.length ≤ 65535) (k3 : lr.length ≤ 65535) : Mg wr wr.heap.size (.agg #[.int .i64 i0, .int .i64 i1, v2, v3, v4, v5]) ⟨i0, i1, lq, la, ln, lr⟩ :=
  ⟨v2, v3, v4, v5, rfl, Lst.own h.q (by show lq.length ≤ 1000000; omega), Lst.own h.a (by show la.length ≤ 1000000; omega), Lst.own h.n (by show ln.length ≤ 1000000; omega), Lst.own h.r (by show lr.length ≤ 1000000; omega)⟩
theorem R0.same (h : R0 w wr M H B0 i0 i1 hs v2 v3 v4 v5 lq la ln lr) : R0 w ((((((((wr.setCell ⟨M, 0, none⟩ (.int .i64 i0)).setCell ⟨M, 1, none⟩ (.int .i64 i1)).setCell ⟨M, 2, none⟩ v2).setCell ⟨M, 3, none⟩ v3).setCell ⟨M, 4, none⟩ v4).setCell ⟨M, 5, none⟩ v5).setCell ⟨M + 1, 0, none⟩ (.int .i64 0)).setCell ⟨M + 1, 1, none⟩ (.int .i64 0)) M H B0 i0 i1 hs v2 v3 v4 v5 lq la ln lr := by
  obtain ⟨z2, z3, _⟩ := rd_put (F := 0) (A := 0) h.x h.f h.bel
  have st : ∀ (X : World) (o : Nat) (v : Value), Aside (fun k => k = M ∨ k = M + 1) X (X.setCell ⟨M, o, none⟩ v) := fun X o v => Aside.setCell X (p := ⟨M, o, none⟩) v (.inl rfl)
  have st1 : ∀ (X : World) (o : Nat) (v : Value), Aside (fun k => k = M ∨ k = M + 1) X (X.setCell ⟨M + 1, o, none⟩ v) := fun X o v => Aside.setCell X (p := ⟨M + 1, o, none⟩) v (.inr rfl)
  exact h.turn (F := 0) (A := 0) ((((((((st _ _ _).trans (st _ _ _)).trans (st _ _ _)).trans (st _ _ _)).trans (st _ _ _)).trans (st _ _ _)).trans (st1 _ _ _)).trans (st1 _ _ _)) z2 z3
end

theorem quesV_ok {b : List UInt8} {a : Int} (h : (s3 b a).e = 0) : quesV b a = .tuple #[.agg #[.string (bs (rN b a)), .int .i64 (rT b a), .int .i64 (rC b a)], .int .i64 (s3 b a).a, .agg #[.int .i64 0, .int .i64 0]] := by unfold quesV; rw [if_pos h]
theorem quesV_bad {b : List UInt8} {a : Int} (h : (s3 b a).e ≠ 0) : quesV b a = .tuple #[.agg #[.string (bs []), .int .i64 0, .int .i64 0], .int .i64 0, .agg #[.int .i64 (s3 b a).e, .int .i64 (s3 b a).p]] := by unfold quesV; rw [if_neg h]; rfl
theorem recV_ok {b : List UInt8} {a : Int} (h : (s6 b a).e = 0) : recV b a = .tuple #[.agg #[.string (bs (rN b a)), .int .i64 (rT b a), .int .i64 (rC b a), .int .i64 (ttlR (rL b a)), .string (bs (rD b a))], .int .i64 (s6 b a).a, .agg #[.int .i64 0, .int .i64 0]] := by unfold recV; rw [if_pos h]
theorem recV_bad {b : List UInt8} {a : Int} (h : (s6 b a).e ≠ 0) : recV b a = .tuple #[.agg #[.string (bs []), .int .i64 0, .int .i64 0, .int .i64 0, .string (bs [])], .int .i64 0, .agg #[.int .i64 (s6 b a).e, .int .i64 (s6 b a).p]] := by unfold recV; rw [if_neg h]; rfl

set_option maxHeartbeats 16000000 in
theorem readM_mid {w : World} {lo hi cv : Nat} {av : Option Addr} {b : List UInt8} (hS : Sl w lo hi (.slice av b.length cv) (iz b)) (hhi : hi ≤ w.heap.size) (h12 : 12 ≤ b.length) (h16 : b.length ≤ 65535) :
    Calls Tryz.prog 20 #[.slice av b.length cv] w (RMPost w (rdM1 b (rdQs b (hd b 2).toNat 12))) := by
  obtain ⟨M, hM⟩ : ∃ M, w.heap.size = M := ⟨_, rfl⟩
  obtain ⟨W1, W2, hW1, hW2, s1, s2, hb, hx, hy⟩ := rd_start hM
  have hmf : ∀ (fn : Fn) (first cap : Array Value) (w : World), (Instr.makeFunc fn first cap).run Tryz.prog w = .ok (.func fn first cap) w := fun _ _ _ _ => rfl
  have hc := nums_any (hS.below (hM ▸ hb) (by omega)) (show hi ≤ W2.heap.size by omega) (by omega)
  unfold numsV at hc
  rw [if_pos h12] at hc
  have HQA := Lib.hid (fun wx (hb : Below w.heap.size w wx) (a : Int) => question_any (hS.below hb hhi) (Nat.le_trans hhi hb.size) (by omega) a)
  have HRA := Lib.hid (fun wx (hb : Below w.heap.size w wx) (a : Int) => readC_any (hS.below hb hhi) (Nat.le_trans hhi hb.size) (by omega) a)
  have g2 := hd_lt b 2
  have g3 := hd_lt b 3
  have g4 := hd_lt b 4
  have g5 := hd_lt b 5
  obtain ⟨h0, e0⟩ : ∃ x, hd b 0 = x := ⟨_, rfl⟩
  obtain ⟨h1, e1⟩ : ∃ x, hd b 1 = x := ⟨_, rfl⟩
  obtain ⟨n2, e2⟩ : ∃ x : Nat, hd b 2 = x := ⟨(hd b 2).toNat, by omega⟩
  obtain ⟨n3, e3⟩ : ∃ x : Nat, hd b 3 = x := ⟨(hd b 3).toNat, by omega⟩
  obtain ⟨n4, e4⟩ : ∃ x : Nat, hd b 4 = x := ⟨(hd b 4).toNat, by omega⟩
  obtain ⟨n5, e5⟩ : ∃ x : Nat, hd b 5 = x := ⟨(hd b 5).toNat, by omega⟩
  rw [e2] at g2
  rw [e3] at g3
  rw [e4] at g4
  rw [e5] at g5
  rw [e0, e1, e2, e3, e4, e5] at hc
  obtain ⟨R, hR⟩ : ∃ R, rdM1 b (rdQs b (hd b 2).toNat 12) = R := ⟨_, rfl⟩
  rw [hR]
  rw [e2, Int.toNat_natCast, ← RD.app_nil (rdQs b n2 12)] at hR
  have HR := Lib.hid hR
  have HE := Lib.hid (show hd b 0 = h0 ∧ hd b 1 = h1 ∧ hd b 3 = n3 ∧ hd b 4 = n4 ∧ hd b 5 = n5 from ⟨e0, e1, e3, e4, e5⟩)
  obtain ⟨n, hnn⟩ : ∃ n, b.length = n := ⟨_, rfl⟩
  have HNN := Lib.hid hnn
  have HmQ := fun M w => m_readQ M w
  have HmR := fun M o w => m_readR M o w
  have Hx0 := fun M w => ix_l0 M w
  have Hx1 := fun M w => ix_l1 M w
  have Hx2 := fun M w => ix_l2 M w
  have Hx3 := fun M w => ix_l3 M w
  rw [hnn] at hc h12 h16 HQA HRA ⊢
  have tL : decide ((65535 : Int) < n) = false := by simp; omega
  have HX := Lib.hid hx
  have HY := Lib.hid hy
  have HB := Lib.hid hb
  have HM := Lib.hid hM
  have HC := Lib.hid hc
  clear hx hy hb hc hS hnn hR e0 e1 e2 e3 e4 e5
  go_enter_defers Tryz.func20, Tryz.ntmps20
  go_wp2_with fail
  refine HC.out.mono ?_; rintro e w1 ⟨rfl, hb⟩
  obtain ⟨H, hH⟩ : ∃ H, w1.heap.size = H := ⟨_, rfl⟩
  obtain ⟨W4, hW4⟩ : ∃ X, w1.alloc (.cells #[.int .i64 h0, .int .i64 h1, .int .i64 n2, .int .i64 n3, .int .i64 n4, .int .i64 n5] 84) = X := ⟨_, rfl⟩
  have hh4 := cel_new6 w1 (.int .i64 h0) (.int .i64 h1) (.int .i64 n2) (.int .i64 n3) (.int .i64 n4) (.int .i64 n5) 84
  rw [hW4, hH] at hh4
  have hb2 : Below W2.heap.size W2 W4 := by rw [← hW4]; exact bel_alloc hb _
  have hs4 : W4.heap.size = H + 1 := by rw [← hW4, World.size_alloc, hH]
  have hHM : M + 2 ≤ H := by have := hb.size; omega
  have HR0 := Lib.hid (R0.start (HX.out.below (by simp) hb2) (HY.out.below (by simp) hb2) hh4 (by simp) (below_aside HB.out (Aside.of_all hb2 : Aside (fun _ => False) W2 W4) (fun k hk => ⟨by omega, id⟩)) (by omega) hHM)
  have y0 := HR0.out.f.c 0 (by simp)
  have y1 := HR0.out.f.c 1 (by simp)
  simp only [List.getElem_cons_zero, List.getElem_cons_succ] at y0 y1
  have fy := HR0.out.f.fz
  obtain ⟨X1, hX1⟩ : ∃ X, (W4.setCell ⟨M + 1, 0, none⟩ (.int .i64 0)).setCell ⟨M + 1, 1, none⟩ (.int .i64 0) = X := ⟨_, rfl⟩
  replace HR0 := Lib.hid (hX1 ▸ HR0.out.fault)
  have x0 := HR0.out.f.c 0 (by simp)
  simp only [List.getElem_cons_zero] at x0
  obtain ⟨d0, d1, d2, d3, d4, d5⟩ := HR0.out.h.six
  obtain ⟨c0, c1, c2, c3, c4, c5⟩ := HR0.out.x.six
  have fx := HR0.out.x.fz
  clear hb hb2 hh4 HX HY HB
  go_wp2_with fail
  clear hX1 hW4
  go_region
  go_wp2_with fail
  obtain ⟨X2, hX2⟩ : ∃ X, (((X1.setCell ⟨M, 0, none⟩ (.int .i64 h0)).setCell ⟨M, 1, none⟩ (.int .i64 h1))).drew = X := ⟨_, rfl⟩
  replace HR0 := Lib.hid (hX2 ▸ (HR0.out.ids h0 h1).drew)
  rw [hX2]
  clear hX2 x0 y0 y1 fy d0 d1 d2 d3 d4 d5 c0 c1 c2 c3 c4 c5 fx
  refine (lists_any M X2 (HR0.out.x.lt (by simp))).mono ?_; rintro e w2 ⟨rfl, hb⟩
  replace HR0 := Lib.hid (HR0.out.later hb)
  clear hb
  unfold lall lq lr
  go_wp2_with fail
  refine wp_loop_rounds 5 ?_
  rw [rounds_succ]
  obtain ⟨d0, d1, d2, d3, d4, d5⟩ := HR0.out.h.six
  go_wp2_with fail
  clear d0 d1 d2 d3 d4 d5
  go_loopg [5, 40] n2 (fun g v5 v40 wr => ∃ j p : Nat, j + g = n2 ∧ v40 = .int .i64 j ∧ v5 = .int .i64 p ∧ p ≤ b.length ∧ ∃ (v : Value) (l : List Qn), l.length = j ∧ Hid (R0 w wr M H (H + 1) h0 h1 [.int .i64 h0, .int .i64 h1, .int .i64 n2, .int .i64 n3, .int .i64 n4, .int .i64 n5] v (.slice none 0 0) (.slice none 0 0) (.slice none 0 0) l [] [] []) ∧ Hid (rdM1 b (RD.app l (rdQs b (n2 - j) p)) = R))
  case atStart => exact ⟨0, 12, by omega, rfl, rfl, by rw [HNN.out]; omega, _, [], rfl, HR0, HR⟩
  case round =>
    clear HR0 HR 
    obtain ⟨j, p, hj, rfl, rfl, hpl, v, l, hlj, HR0, HR⟩ := hrel
    by_cases hlt : j < n2
    · have hst := HR.out
      rw [show n2 - j = (n2 - (j + 1)) + 1 by omega, rdQs_step] at hst
      by_cases hE : (s3 b p).e = 0
      · rw [if_neg (by simpa using hE)] at hst
        obtain ⟨q', e1, e2, e3, _⟩ := ques_fine hpl hE
        rw [e1, Int.toNat_natCast] at hst
        have HRD := Lib.hid (readQ_gen (o := 2) (v := v) (l := l) (B := H + 1) (p : Int) (quesR b p) (s3 b p).a 0 0 HR0.out.x (by simp) rfl HR0.out.q (by have := HR0.out.hH; omega) HR0.out.size (by omega) (fun wy hb => by
          have := HQA.out wy (bel_call (by rw [HM.out]; exact HR0.out.bel) hb) p
          rw [quesV_ok hE] at this
          exact this))
        rw [e1] at HRD
        have HR2 := Lib.hid hst
        clear hst HR e1 hE
        go_wp2_with fail
        refine HRD.out.mono ?_; rintro e w3 ⟨v', rfl, hx, ho, ha, hk⟩
        replace HR0 := Lib.hid (HR0.out.read0 hx ho ha hk)
        have y0 := HR0.out.f.c 0 (by simp)
        have y1 := HR0.out.f.c 1 (by simp)
        simp only [List.getElem_cons_zero, List.getElem_cons_succ] at y0 y1
        have fy := HR0.out.f.fz
        clear hx ho ha hk HRD
        obtain ⟨X, hX⟩ : ∃ X, (w3.setCell ⟨M + 1, 0, none⟩ (.int .i64 0)).setCell ⟨M + 1, 1, none⟩ (.int .i64 0) = X := ⟨_, rfl⟩
        replace HR0 := Lib.hid (hX ▸ HR0.out.fault)
        have x0 := HR0.out.f.c 0 (by simp)
        simp only [List.getElem_cons_zero] at x0
        go_wp2_with fail
        go_roundg (n2 - (j + 1))
        case measure => omega
        case rel => exact ⟨j + 1, q', by omega, by go_num, rfl, e3, v', l ++ [quesR b p], by simp [hlj], HR0, HR2⟩
      · rw [if_pos hE] at hst
        have HRD := Lib.hid (readQ_gen (o := 2) (v := v) (l := l) (B := H + 1) (p : Int) ⟨[], 0, 0⟩ 0 (s3 b p).e (s3 b p).p HR0.out.x (by simp) rfl HR0.out.q (by have := HR0.out.hH; omega) HR0.out.size (by omega) (fun wy hb => by
          have := HQA.out wy (bel_call (by rw [HM.out]; exact HR0.out.bel) hb) p
          rw [quesV_bad hE] at this
          exact this))
        obtain ⟨F, hF⟩ : ∃ F, (s3 b p).e = F := ⟨_, rfl⟩
        obtain ⟨A, hA⟩ : ∃ A, (s3 b p).p = A := ⟨_, rfl⟩
        rw [hF, hA] at HRD hst
        rw [hF] at hE
        have tF : (F != 0) = true := by simpa using hE
        have hst2 : RM.bad F A = R := hst
        rw [← hst2]
        clear hst HR hF hA hst2
        go_wp2_with fail
        refine HRD.out.mono ?_; rintro e w3 ⟨v', rfl, hx, ho, ha, hk⟩
        replace HR0 := Lib.hid (HR0.out.read0 hx ho ha hk)
        have y0 := HR0.out.f.c 0 (by simp)
        have y1 := HR0.out.f.c 1 (by simp)
        simp only [List.getElem_cons_zero, List.getElem_cons_succ] at y0 y1
        have fy := HR0.out.f.fz
        clear hx ho ha hk HRD
        obtain ⟨sa', sc', hv'⟩ := row_shape HR0.out.q
        obtain ⟨z', hz'⟩ : ∃ z, (l ++ [(⟨[], 0, 0⟩ : Qn)]).length = z := ⟨_, rfl⟩
        rw [hz'] at hv'
        clear hz'
        subst hv'
        obtain ⟨p2, p3, pb⟩ := HR0.out.undrew (F := F) (A := A)
        obtain ⟨Y, hY⟩ : ∃ Y, (w3.setCell ⟨M + 1, 0, none⟩ (.int .i64 F)).setCell ⟨M + 1, 1, none⟩ (.int .i64 A) = Y := ⟨_, rfl⟩
        rw [hY] at p2 p3 pb
        obtain ⟨c0, c1, c2, c3, c4, c5⟩ := p2.six
        have fx := p2.fz
        have z0 := p3.c 0 (by simp)
        have z1 := p3.c 1 (by simp)
        simp only [List.getElem_cons_zero, List.getElem_cons_succ] at z0 z1
        have fz := p3.fz
        have P2 := Lib.hid p2
        have P3 := Lib.hid p3
        have PB := Lib.hid pb
        clear p2 p3 pb HR0
        go_wp2_with fail
        clear y0 y1 fy hY
        go_region
        go_wp2_with fail
        obtain ⟨z2, z3, zb⟩ := rd_put (F := F) (A := A) P2.out P3.out PB.out
        exact rd_leave_bad HM.out hE (cel_drew z2) (cel_drew z3) zb.drew rfl rfl
    have hjn : j = n2 := by omega
    have t1 : ¬ ((j : Int) < n2) := by omega
    have hst := HR.out
    rw [show n2 - j = 0 by omega] at hst
    have hst : rdM2 b l (rdRs b (hd b 3).toNat p) = R := by rw [rdQs, RD.app, List.append_nil] at hst; exact hst
    rw [HE.out.2.2.1, Int.toNat_natCast, ← RD.app_nil (rdRs b n3 p)] at hst
    clear HR
    have HR := Lib.hid hst
    clear hst
    obtain ⟨lq, hlq⟩ : ∃ x, l = x := ⟨_, rfl⟩
    rw [hlq] at HR HR0 hlj
    obtain ⟨sa0, sc0, rfl⟩ := row_shape HR0.out.q
    have HL0 := Lib.hid (show lq.length = n2 by omega)
    clear hlq hlj hj hjn
    go_wp2_with fail
    rw [rounds_succ]
    obtain ⟨d0, d1, d2, d3, d4, d5⟩ := HR0.out.h.six
    go_wp2_with fail
    clear d0 d1 d2 d3 d4 d5
    go_loopg [5, 40] n3 (fun g v5 v40 wr => ∃ j p : Nat, j + g = n3 ∧ v40 = .int .i64 j ∧ v5 = .int .i64 p ∧ p ≤ b.length ∧ ∃ (v : Value) (l : List Rc), l.length = j ∧ Hid (R0 w wr M H (H + 1) h0 h1 [.int .i64 h0, .int .i64 h1, .int .i64 n2, .int .i64 n3, .int .i64 n4, .int .i64 n5] (.slice sa0 lq.length sc0) v (.slice none 0 0) (.slice none 0 0) lq l [] []) ∧ Hid (rdM2 b lq (RD.app l (rdRs b (n3 - j) p)) = R))
    case atStart => exact ⟨0, p, by omega, rfl, rfl, hpl, _, [], rfl, HR0, HR⟩
    case round =>
      clear HR0 HR hpl
      obtain ⟨j, p, hj, rfl, rfl, hpl, v, l, hlj, HR0, HR⟩ := hrel
      by_cases hlt : j < n3
      · have hst := HR.out
        rw [show n3 - j = (n3 - (j + 1)) + 1 by omega, rdRs_step] at hst
        by_cases hE : (s6 b p).e = 0
        · rw [if_neg (by simpa using hE)] at hst
          obtain ⟨q', e1, e2, e3⟩ := rec_end hpl (by rw [HNN.out]; omega) hE
          rw [e1, Int.toNat_natCast] at hst
          have HRD := Lib.hid (readR_gen (o := 3) (v := v) (l := l) (B := H + 1) (p : Int) (recR b p) (s6 b p).a 0 0 HR0.out.x (by simp) rfl HR0.out.a (by have := HR0.out.hH; omega) HR0.out.size (by omega) (fun wy hb => by
            have := HRA.out wy (bel_call (by rw [HM.out]; exact HR0.out.bel) hb) p
            rw [recV_ok hE] at this
            exact this))
          rw [e1] at HRD
          have HR2 := Lib.hid hst
          clear hst HR e1 hE
          go_wp2_with fail
          refine HRD.out.mono ?_; rintro e w3 ⟨v', rfl, hx, ho, ha, hk⟩
          replace HR0 := Lib.hid (HR0.out.read1 hx ho ha hk)
          have y0 := HR0.out.f.c 0 (by simp)
          have y1 := HR0.out.f.c 1 (by simp)
          simp only [List.getElem_cons_zero, List.getElem_cons_succ] at y0 y1
          have fy := HR0.out.f.fz
          clear hx ho ha hk HRD
          obtain ⟨X, hX⟩ : ∃ X, (w3.setCell ⟨M + 1, 0, none⟩ (.int .i64 0)).setCell ⟨M + 1, 1, none⟩ (.int .i64 0) = X := ⟨_, rfl⟩
          replace HR0 := Lib.hid (hX ▸ HR0.out.fault)
          have x0 := HR0.out.f.c 0 (by simp)
          simp only [List.getElem_cons_zero] at x0
          go_wp2_with fail
          go_roundg (n3 - (j + 1))
          case measure => omega
          case rel => exact ⟨j + 1, q', by omega, by go_num, rfl, e3, v', l ++ [recR b p], by simp [hlj], HR0, HR2⟩
        · rw [if_pos hE] at hst
          have HRD := Lib.hid (readR_gen (o := 3) (v := v) (l := l) (B := H + 1) (p : Int) ⟨[], 0, 0, 0, []⟩ 0 (s6 b p).e (s6 b p).p HR0.out.x (by simp) rfl HR0.out.a (by have := HR0.out.hH; omega) HR0.out.size (by omega) (fun wy hb => by
            have := HRA.out wy (bel_call (by rw [HM.out]; exact HR0.out.bel) hb) p
            rw [recV_bad hE] at this
            exact this))
          obtain ⟨F, hF⟩ : ∃ F, (s6 b p).e = F := ⟨_, rfl⟩
          obtain ⟨A, hA⟩ : ∃ A, (s6 b p).p = A := ⟨_, rfl⟩
          rw [hF, hA] at HRD hst
          rw [hF] at hE
          have tF : (F != 0) = true := by simpa using hE
          have hst2 : RM.bad F A = R := hst
          rw [← hst2]
          clear hst HR hF hA hst2
          go_wp2_with fail
          refine HRD.out.mono ?_; rintro e w3 ⟨v', rfl, hx, ho, ha, hk⟩
          replace HR0 := Lib.hid (HR0.out.read1 hx ho ha hk)
          have y0 := HR0.out.f.c 0 (by simp)
          have y1 := HR0.out.f.c 1 (by simp)
          simp only [List.getElem_cons_zero, List.getElem_cons_succ] at y0 y1
          have fy := HR0.out.f.fz
          clear hx ho ha hk HRD
          obtain ⟨sa', sc', hv'⟩ := row_shape HR0.out.a
          obtain ⟨z', hz'⟩ : ∃ z, (l ++ [(⟨[], 0, 0, 0, []⟩ : Rc)]).length = z := ⟨_, rfl⟩
          rw [hz'] at hv'
          clear hz'
          subst hv'
          obtain ⟨p2, p3, pb⟩ := HR0.out.undrew (F := F) (A := A)
          obtain ⟨Y, hY⟩ : ∃ Y, (w3.setCell ⟨M + 1, 0, none⟩ (.int .i64 F)).setCell ⟨M + 1, 1, none⟩ (.int .i64 A) = Y := ⟨_, rfl⟩
          rw [hY] at p2 p3 pb
          obtain ⟨c0, c1, c2, c3, c4, c5⟩ := p2.six
          have fx := p2.fz
          have z0 := p3.c 0 (by simp)
          have z1 := p3.c 1 (by simp)
          simp only [List.getElem_cons_zero, List.getElem_cons_succ] at z0 z1
          have fz := p3.fz
          have P2 := Lib.hid p2
          have P3 := Lib.hid p3
          have PB := Lib.hid pb
          clear p2 p3 pb HR0
          go_wp2_with fail
          clear y0 y1 fy hY
          go_region
          go_wp2_with fail
          obtain ⟨z2, z3, zb⟩ := rd_put (F := F) (A := A) P2.out P3.out PB.out
          exact rd_leave_bad HM.out hE (cel_drew z2) (cel_drew z3) zb.drew rfl rfl
      have hjn : j = n3 := by omega
      have t1 : ¬ ((j : Int) < n3) := by omega
      have hst := HR.out
      rw [show n3 - j = 0 by omega] at hst
      have hst : rdM3 b lq l (rdRs b (hd b 4).toNat p) = R := by rw [rdRs, RD.app, List.append_nil] at hst; exact hst
      rw [HE.out.2.2.2.1, Int.toNat_natCast, ← RD.app_nil (rdRs b n4 p)] at hst
      clear HR
      have HR := Lib.hid hst
      clear hst
      obtain ⟨la, hla⟩ : ∃ x, l = x := ⟨_, rfl⟩
      rw [hla] at HR HR0 hlj
      obtain ⟨sa1, sc1, rfl⟩ := row_shape HR0.out.a
      have HL1 := Lib.hid (show la.length = n3 by omega)
      clear hla hlj hj hjn
      go_wp2_with fail
      rw [rounds_succ]
      obtain ⟨d0, d1, d2, d3, d4, d5⟩ := HR0.out.h.six
      go_wp2_with fail
      clear d0 d1 d2 d3 d4 d5
      go_loopg [5, 40] n4 (fun g v5 v40 wr => ∃ j p : Nat, j + g = n4 ∧ v40 = .int .i64 j ∧ v5 = .int .i64 p ∧ p ≤ b.length ∧ ∃ (v : Value) (l : List Rc), l.length = j ∧ Hid (R0 w wr M H (H + 1) h0 h1 [.int .i64 h0, .int .i64 h1, .int .i64 n2, .int .i64 n3, .int .i64 n4, .int .i64 n5] (.slice sa0 lq.length sc0) (.slice sa1 la.length sc1) v (.slice none 0 0) lq la l []) ∧ Hid (rdM3 b lq la (RD.app l (rdRs b (n4 - j) p)) = R))
      case atStart => exact ⟨0, p, by omega, rfl, rfl, hpl, _, [], rfl, HR0, HR⟩
      case round =>
        clear HR0 HR hpl
        obtain ⟨j, p, hj, rfl, rfl, hpl, v, l, hlj, HR0, HR⟩ := hrel
        by_cases hlt : j < n4
        · have hst := HR.out
          rw [show n4 - j = (n4 - (j + 1)) + 1 by omega, rdRs_step] at hst
          by_cases hE : (s6 b p).e = 0
          · rw [if_neg (by simpa using hE)] at hst
            obtain ⟨q', e1, e2, e3⟩ := rec_end hpl (by rw [HNN.out]; omega) hE
            rw [e1, Int.toNat_natCast] at hst
            have HRD := Lib.hid (readR_gen (o := 4) (v := v) (l := l) (B := H + 1) (p : Int) (recR b p) (s6 b p).a 0 0 HR0.out.x (by simp) rfl HR0.out.n (by have := HR0.out.hH; omega) HR0.out.size (by omega) (fun wy hb => by
              have := HRA.out wy (bel_call (by rw [HM.out]; exact HR0.out.bel) hb) p
              rw [recV_ok hE] at this
              exact this))
            rw [e1] at HRD
            have HR2 := Lib.hid hst
            clear hst HR e1 hE
            go_wp2_with fail
            refine HRD.out.mono ?_; rintro e w3 ⟨v', rfl, hx, ho, ha, hk⟩
            replace HR0 := Lib.hid (HR0.out.read2 hx ho ha hk)
            have y0 := HR0.out.f.c 0 (by simp)
            have y1 := HR0.out.f.c 1 (by simp)
            simp only [List.getElem_cons_zero, List.getElem_cons_succ] at y0 y1
            have fy := HR0.out.f.fz
            clear hx ho ha hk HRD
            obtain ⟨X, hX⟩ : ∃ X, (w3.setCell ⟨M + 1, 0, none⟩ (.int .i64 0)).setCell ⟨M + 1, 1, none⟩ (.int .i64 0) = X := ⟨_, rfl⟩
            replace HR0 := Lib.hid (hX ▸ HR0.out.fault)
            have x0 := HR0.out.f.c 0 (by simp)
            simp only [List.getElem_cons_zero] at x0
            go_wp2_with fail
            go_roundg (n4 - (j + 1))
            case measure => omega
            case rel => exact ⟨j + 1, q', by omega, by go_num, rfl, e3, v', l ++ [recR b p], by simp [hlj], HR0, HR2⟩
          · rw [if_pos hE] at hst
            have HRD := Lib.hid (readR_gen (o := 4) (v := v) (l := l) (B := H + 1) (p : Int) ⟨[], 0, 0, 0, []⟩ 0 (s6 b p).e (s6 b p).p HR0.out.x (by simp) rfl HR0.out.n (by have := HR0.out.hH; omega) HR0.out.size (by omega) (fun wy hb => by
              have := HRA.out wy (bel_call (by rw [HM.out]; exact HR0.out.bel) hb) p
              rw [recV_bad hE] at this
              exact this))
            obtain ⟨F, hF⟩ : ∃ F, (s6 b p).e = F := ⟨_, rfl⟩
            obtain ⟨A, hA⟩ : ∃ A, (s6 b p).p = A := ⟨_, rfl⟩
            rw [hF, hA] at HRD hst
            rw [hF] at hE
            have tF : (F != 0) = true := by simpa using hE
            have hst2 : RM.bad F A = R := hst
            rw [← hst2]
            clear hst HR hF hA hst2
            go_wp2_with fail
            refine HRD.out.mono ?_; rintro e w3 ⟨v', rfl, hx, ho, ha, hk⟩
            replace HR0 := Lib.hid (HR0.out.read2 hx ho ha hk)
            have y0 := HR0.out.f.c 0 (by simp)
            have y1 := HR0.out.f.c 1 (by simp)
            simp only [List.getElem_cons_zero, List.getElem_cons_succ] at y0 y1
            have fy := HR0.out.f.fz
            clear hx ho ha hk HRD
            obtain ⟨sa', sc', hv'⟩ := row_shape HR0.out.n
            obtain ⟨z', hz'⟩ : ∃ z, (l ++ [(⟨[], 0, 0, 0, []⟩ : Rc)]).length = z := ⟨_, rfl⟩
            rw [hz'] at hv'
            clear hz'
            subst hv'
            obtain ⟨p2, p3, pb⟩ := HR0.out.undrew (F := F) (A := A)
            obtain ⟨Y, hY⟩ : ∃ Y, (w3.setCell ⟨M + 1, 0, none⟩ (.int .i64 F)).setCell ⟨M + 1, 1, none⟩ (.int .i64 A) = Y := ⟨_, rfl⟩
            rw [hY] at p2 p3 pb
            obtain ⟨c0, c1, c2, c3, c4, c5⟩ := p2.six
            have fx := p2.fz
            have z0 := p3.c 0 (by simp)
            have z1 := p3.c 1 (by simp)
            simp only [List.getElem_cons_zero, List.getElem_cons_succ] at z0 z1
            have fz := p3.fz
            have P2 := Lib.hid p2
            have P3 := Lib.hid p3
            have PB := Lib.hid pb
            clear p2 p3 pb HR0
            go_wp2_with fail
            clear y0 y1 fy hY
            go_region
            go_wp2_with fail
            obtain ⟨z2, z3, zb⟩ := rd_put (F := F) (A := A) P2.out P3.out PB.out
            exact rd_leave_bad HM.out hE (cel_drew z2) (cel_drew z3) zb.drew rfl rfl
        have hjn : j = n4 := by omega
        have t1 : ¬ ((j : Int) < n4) := by omega
        have hst := HR.out
        rw [show n4 - j = 0 by omega] at hst
        have hst : rdM4 b lq la l (rdRs b (hd b 5).toNat p) = R := by rw [rdRs, RD.app, List.append_nil] at hst; exact hst
        rw [HE.out.2.2.2.2, Int.toNat_natCast, ← RD.app_nil (rdRs b n5 p)] at hst
        clear HR
        have HR := Lib.hid hst
        clear hst
        obtain ⟨ln, hln⟩ : ∃ x, l = x := ⟨_, rfl⟩
        rw [hln] at HR HR0 hlj
        obtain ⟨sa2, sc2, rfl⟩ := row_shape HR0.out.n
        have HL2 := Lib.hid (show ln.length = n4 by omega)
        clear hln hlj hj hjn
        go_wp2_with fail
        rw [rounds_succ]
        obtain ⟨d0, d1, d2, d3, d4, d5⟩ := HR0.out.h.six
        go_wp2_with fail
        clear d0 d1 d2 d3 d4 d5
        go_loopg [5, 40] n5 (fun g v5 v40 wr => ∃ j p : Nat, j + g = n5 ∧ v40 = .int .i64 j ∧ v5 = .int .i64 p ∧ p ≤ b.length ∧ ∃ (v : Value) (l : List Rc), l.length = j ∧ Hid (R0 w wr M H (H + 1) h0 h1 [.int .i64 h0, .int .i64 h1, .int .i64 n2, .int .i64 n3, .int .i64 n4, .int .i64 n5] (.slice sa0 lq.length sc0) (.slice sa1 la.length sc1) (.slice sa2 ln.length sc2) v lq la ln l) ∧ Hid (rdM4 b lq la ln (RD.app l (rdRs b (n5 - j) p)) = R))
        case atStart => exact ⟨0, p, by omega, rfl, rfl, hpl, _, [], rfl, HR0, HR⟩
        case round =>
          clear HR0 HR hpl
          obtain ⟨j, p, hj, rfl, rfl, hpl, v, l, hlj, HR0, HR⟩ := hrel
          by_cases hlt : j < n5
          · have hst := HR.out
            rw [show n5 - j = (n5 - (j + 1)) + 1 by omega, rdRs_step] at hst
            by_cases hE : (s6 b p).e = 0
            · rw [if_neg (by simpa using hE)] at hst
              obtain ⟨q', e1, e2, e3⟩ := rec_end hpl (by rw [HNN.out]; omega) hE
              rw [e1, Int.toNat_natCast] at hst
              have HRD := Lib.hid (readR_gen (o := 5) (v := v) (l := l) (B := H + 1) (p : Int) (recR b p) (s6 b p).a 0 0 HR0.out.x (by simp) rfl HR0.out.r (by have := HR0.out.hH; omega) HR0.out.size (by omega) (fun wy hb => by
                have := HRA.out wy (bel_call (by rw [HM.out]; exact HR0.out.bel) hb) p
                rw [recV_ok hE] at this
                exact this))
              rw [e1] at HRD
              have HR2 := Lib.hid hst
              clear hst HR e1 hE
              go_wp2_with fail
              refine HRD.out.mono ?_; rintro e w3 ⟨v', rfl, hx, ho, ha, hk⟩
              replace HR0 := Lib.hid (HR0.out.read3 hx ho ha hk)
              have y0 := HR0.out.f.c 0 (by simp)
              have y1 := HR0.out.f.c 1 (by simp)
              simp only [List.getElem_cons_zero, List.getElem_cons_succ] at y0 y1
              have fy := HR0.out.f.fz
              clear hx ho ha hk HRD
              obtain ⟨X, hX⟩ : ∃ X, (w3.setCell ⟨M + 1, 0, none⟩ (.int .i64 0)).setCell ⟨M + 1, 1, none⟩ (.int .i64 0) = X := ⟨_, rfl⟩
              replace HR0 := Lib.hid (hX ▸ HR0.out.fault)
              have x0 := HR0.out.f.c 0 (by simp)
              simp only [List.getElem_cons_zero] at x0
              go_wp2_with fail
              go_roundg (n5 - (j + 1))
              case measure => omega
              case rel => exact ⟨j + 1, q', by omega, by go_num, rfl, e3, v', l ++ [recR b p], by simp [hlj], HR0, HR2⟩
            · rw [if_pos hE] at hst
              have HRD := Lib.hid (readR_gen (o := 5) (v := v) (l := l) (B := H + 1) (p : Int) ⟨[], 0, 0, 0, []⟩ 0 (s6 b p).e (s6 b p).p HR0.out.x (by simp) rfl HR0.out.r (by have := HR0.out.hH; omega) HR0.out.size (by omega) (fun wy hb => by
                have := HRA.out wy (bel_call (by rw [HM.out]; exact HR0.out.bel) hb) p
                rw [recV_bad hE] at this
                exact this))
              obtain ⟨F, hF⟩ : ∃ F, (s6 b p).e = F := ⟨_, rfl⟩
              obtain ⟨A, hA⟩ : ∃ A, (s6 b p).p = A := ⟨_, rfl⟩
              rw [hF, hA] at HRD hst
              rw [hF] at hE
              have tF : (F != 0) = true := by simpa using hE
              have hst2 : RM.bad F A = R := hst
              rw [← hst2]
              clear hst HR hF hA hst2
              go_wp2_with fail
              refine HRD.out.mono ?_; rintro e w3 ⟨v', rfl, hx, ho, ha, hk⟩
              replace HR0 := Lib.hid (HR0.out.read3 hx ho ha hk)
              have y0 := HR0.out.f.c 0 (by simp)
              have y1 := HR0.out.f.c 1 (by simp)
              simp only [List.getElem_cons_zero, List.getElem_cons_succ] at y0 y1
              have fy := HR0.out.f.fz
              clear hx ho ha hk HRD
              obtain ⟨sa', sc', hv'⟩ := row_shape HR0.out.r
              obtain ⟨z', hz'⟩ : ∃ z, (l ++ [(⟨[], 0, 0, 0, []⟩ : Rc)]).length = z := ⟨_, rfl⟩
              rw [hz'] at hv'
              clear hz'
              subst hv'
              obtain ⟨p2, p3, pb⟩ := HR0.out.undrew (F := F) (A := A)
              obtain ⟨Y, hY⟩ : ∃ Y, (w3.setCell ⟨M + 1, 0, none⟩ (.int .i64 F)).setCell ⟨M + 1, 1, none⟩ (.int .i64 A) = Y := ⟨_, rfl⟩
              rw [hY] at p2 p3 pb
              obtain ⟨c0, c1, c2, c3, c4, c5⟩ := p2.six
              have fx := p2.fz
              have z0 := p3.c 0 (by simp)
              have z1 := p3.c 1 (by simp)
              simp only [List.getElem_cons_zero, List.getElem_cons_succ] at z0 z1
              have fz := p3.fz
              have P2 := Lib.hid p2
              have P3 := Lib.hid p3
              have PB := Lib.hid pb
              clear p2 p3 pb HR0
              go_wp2_with fail
              clear y0 y1 fy hY
              go_region
              go_wp2_with fail
              obtain ⟨z2, z3, zb⟩ := rd_put (F := F) (A := A) P2.out P3.out PB.out
              exact rd_leave_bad HM.out hE (cel_drew z2) (cel_drew z3) zb.drew rfl rfl
          have hjn : j = n5 := by omega
          have t1 : ¬ ((j : Int) < n5) := by omega
          have hst := HR.out
          rw [show n5 - j = 0 by omega] at hst
          have hst : (if p < b.length then RM.bad 4 p else .ok ⟨h0, h1, lq, la, ln, l⟩) = R := by rw [rdRs, RD.app, List.append_nil, rdM4, HE.out.1, HE.out.2.1] at hst; exact hst
          clear HR
          have HR := Lib.hid hst
          clear hst
          obtain ⟨lr, hlr⟩ : ∃ x, l = x := ⟨_, rfl⟩
          rw [hlr] at HR HR0 hlj
          obtain ⟨sa3, sc3, rfl⟩ := row_shape HR0.out.r
          have HL3 := Lib.hid (show lr.length = n5 by omega)
          clear hlr hlj hj hjn
          go_wp2_with fail
          rw [rounds_succ]
          obtain ⟨c0, c1, c2, c3, c4, c5⟩ := HR0.out.x.six
          have fx := HR0.out.x.fz
          have y0 := HR0.out.f.c 0 (by simp)
          have y1 := HR0.out.f.c 1 (by simp)
          simp only [List.getElem_cons_zero, List.getElem_cons_succ] at y0 y1
          have fy := HR0.out.f.fz
          have hst := HR.out
          clear HR
          by_cases hpn : p < n
          · rw [if_pos (by rw [HNN.out]; exact hpn)] at hst
            have HST := Lib.hid hst
            clear hst
            have t2 : decide ((p : Int) < n) = true := by simp; omega
            go_wp2_with fail
            rw [← HST.out]
            obtain ⟨z2, z3, zb⟩ := rd_put (F := 4) (A := p) HR0.out.x HR0.out.f HR0.out.bel
            exact rd_leave_bad HM.out (by decide) z2 z3 zb rfl rfl
          · rw [if_neg (by rw [HNN.out]; exact hpn)] at hst
            have HST := Lib.hid hst
            clear hst
            have t2 : decide ((p : Int) < n) = false := by simp; omega
            go_wp2_with fail
            rw [← HST.out]
            have hs := HR0.out.same
            obtain ⟨z2, z3, zb⟩ := rd_put (F := 0) (A := 0) HR0.out.x HR0.out.f HR0.out.bel
            exact rd_leave_ok HM.out z2 z3 zb (hs.mg (by rw [HL0.out]; omega) (by rw [HL1.out]; omega) (by rw [HL2.out]; omega) (by rw [HL3.out]; omega)) rfl rfl

/-- The message that bytes are, or the fault. -/
theorem readM_any {w : World} {lo hi : Nat} {vb : Value} {b : List UInt8} (hS : Sl w lo hi vb (iz b)) (hhi : hi ≤ w.heap.size) (hl : b.length ≤ 1000000) : Calls Tryz.prog 20 #[vb] w (RMPost w (rdM b)) := by
  have hS2 := hS
  obtain ⟨av, cv, rfl, _⟩ := hS
  have hS : Sl w lo hi (.slice av b.length cv) (iz b) := by rw [iz_len] at hS2; exact hS2
  rw [iz_len]
  unfold rdM
  by_cases h1 : 65535 < b.length
  · rw [if_pos h1]; exact readM_long h1 (by omega)
  · rw [if_neg h1]
    by_cases h2 : b.length < 12
    · rw [if_pos h2]; exact readM_short hS hhi h2
    · rw [if_neg h2]; exact readM_mid hS hhi (by omega) (by omega)
end Go.Proofs.YteegekpanadmkaaGreat

/-
  The bare answer: Reply, and its flags.
-/
namespace Go.Proofs.YteegekpanadmkaaGreat
open Go.RowKit Go.Shelf
set_option linter.unusedVariables false
set_option linter.unusedSimpArgs false
set_option maxRecDepth 100000

/-- The answer while questions are being taken over. -/
structure Rp (w wr : World) (N : Nat) (i f : Int) (qv : Value) (l : List Qn) : Prop where
  bel : Below N w wr
  z : Cel wr (N + 1) [.int .i64 0, .int .i64 0, .slice none 0 0, .slice none 0 0, .slice none 0 0, .slice none 0 0]
  r : Cel wr (N + 2) [.int .i64 i, .int .i64 f, qv, .slice none 0 0, .slice none 0 0, .slice none 0 0]
  own : OwnQn wr (N + 3) qv l
  size : N + 3 ≤ wr.heap.size

section
variable {w wr w' : World} {N : Nat} {i f : Int} {qv : Value} {l : List Qn}
end

section
variable {w : World} {q : Nat} {a0 a1 a2 a3 a4 a5 : Value}
/-- Six cells stored one after another. -/
def put6 (w : World) (q : Nat) (b0 b1 b2 b3 b4 b5 : Value) : World :=
  (((((w.setCell ⟨q, 0, none⟩ b0).setCell ⟨q, 1, none⟩ b1).setCell ⟨q, 2, none⟩ b2).setCell ⟨q, 3, none⟩ b3).setCell ⟨q, 4, none⟩ b4).setCell ⟨q, 5, none⟩ b5
theorem cel_put6 (h : Cel w q [a0, a1, a2, a3, a4, a5]) (b0 b1 b2 b3 b4 b5 : Value) : Cel (put6 w q b0 b1 b2 b3 b4 b5) q [b0, b1, b2, b3, b4, b5] := by
  have := (((((h.set (o := 0) (by simp) b0).set (o := 1) (by simp) b1).set (o := 2) (by simp) b2).set (o := 3) (by simp) b3).set (o := 4) (by simp) b4).set (o := 5) (by simp) b5
  simp only [List.set_cons_zero, List.set_cons_succ] at this
  exact this
theorem aside_put6 (w : World) (q : Nat) (b0 b1 b2 b3 b4 b5 : Value) : Aside (fun k => k = q) w (put6 w q b0 b1 b2 b3 b4 b5) := by
  have st : ∀ (x : World) (o : Nat) (v : Value), Aside (fun k => k = q) x (x.setCell ⟨q, o, none⟩ v) := fun x o v => Aside.setCell x (p := ⟨q, o, none⟩) v rfl
  exact (((((st _ _ _).trans (st _ _ _)).trans (st _ _ _)).trans (st _ _ _)).trans (st _ _ _)).trans (st _ _ _)
end

theorem row_base {w : World} {B B' k n : Nat} {e : TypeId} {v : Value} {xs : List Value} (h : w.ownsRow B e k v n xs) (hB : B' ≤ B) : w.ownsRow B' e k v n xs := by
  refine ⟨h.1, ?_⟩
  rcases h.2 with h2 | ⟨g, cap, cur, h2⟩
  · exact .inl h2
  · exact .inr ⟨g, cap, cur, h2.1, Nat.le_trans hB h2.2.1, h2.2.2⟩

end Go.Proofs.YteegekpanadmkaaGreat
