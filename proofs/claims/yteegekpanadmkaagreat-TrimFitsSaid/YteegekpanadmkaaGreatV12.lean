/-
  Entries in memory; a row of them grows.
-/
import Derived.Test.YteegekpanadmkaaGreatV06
import Derived.Test.YteegekpanadmkaaGreatV03
import Derived.Test.YteegekpanadmkaaGreatV08
import Derived.Test.YteegekpanadmkaaGreatV10
import Derived.Test.YteegekpanadmkaaGreatV11
import Derived.Test.YteegekpanadmkaaGreatV05
import Derived.Test.YteegekpanadmkaaGreatV09
namespace Go.Proofs.YteegekpanadmkaaGreat
open Go.RowKit Go.Shelf
set_option linter.unusedVariables false
set_option linter.unusedSimpArgs false
set_option maxRecDepth 100000

def ce (e : En) (o : Bool) : List Value := .int .i64 e.k :: (cq e.q ++ (cr e.x ++ [.bool o]))
def acE : List En → List Bool → List Value
  | e :: E, o :: O => ce e o ++ acE E O
  | _, _ => []
theorem ce_len (e : En) (o : Bool) : (ce e o).length = 10 := rfl
theorem acE_app : ∀ (E F : List En) (O Q : List Bool), O.length = E.length → acE (E ++ F) (O ++ Q) = acE E O ++ acE F Q
  | [], F, O, Q, h => by
    have : O = [] := List.length_eq_zero_iff.mp (by simpa using h)
    subst this; rfl
  | e :: E, F, [], Q, h => by simp at h
  | e :: E, F, o :: O, Q, h => by
    show ce e o ++ acE (E ++ F) (O ++ Q) = ce e o ++ acE E O ++ acE F Q
    rw [acE_app E F O Q (by simpa using h), List.append_assoc]
theorem ce_one (e : En) (o : Bool) : ∀ u ∈ ce e o, u.oneCell' = true := fun u hu => by
  simp only [ce, cq, cr, List.mem_cons, List.mem_append, List.mem_nil_iff, or_false] at hu
  rcases hu with rfl | (rfl | rfl | rfl) | (rfl | rfl | rfl | rfl | rfl) | rfl <;> rfl
theorem acE_at : ∀ (E : List En) (O : List Bool) (j : Nat) (hj : j < E.length) (o : Bool), O[j]? = some o → ∀ i, i < 10 → (acE E O)[j * 10 + i]? = (ce E[j] o)[i]?
  | [], O, j, hj, _, _, _, _ => by simp at hj
  | e :: E, [], j, hj, o, h, _, _ => by simp at h
  | e :: E, p :: O, 0, _, o, h, i, hi => by
    have h : p = o := by simpa using h
    subst h
    show (ce e p ++ acE E O)[0 * 10 + i]? = _
    rw [Nat.zero_mul, Nat.zero_add, List.getElem?_append_left (by rw [ce_len]; exact hi)]
    rfl
  | e :: E, p :: O, j + 1, hj, o, h, i, hi => by
    show (ce e p ++ acE E O)[(j + 1) * 10 + i]? = _
    rw [List.getElem?_append_right (by rw [ce_len]; omega), ce_len, show (j + 1) * 10 + i - 10 = j * 10 + i by omega]
    exact acE_at E O j (by simpa using hj) o (by simpa using h) i hi
theorem acE_set : ∀ (E : List En) (O : List Bool) (j : Nat) (hj : j < E.length) (b : Bool), O.length = E.length → (acE E O).set (j * 10 + 9) (.bool b) = acE E (O.set j b)
  | [], O, j, hj, _, _ => by simp at hj
  | e :: E, [], j, hj, _, h => by simp at h
  | e :: E, p :: O, 0, _, b, h => by
    show (ce e p ++ acE E O).set (0 * 10 + 9) (.bool b) = ce e b ++ acE E O
    rw [Nat.zero_mul, Nat.zero_add, List.set_append_left _ _ (by rw [ce_len]; decide)]
    rfl
  | e :: E, p :: O, j + 1, hj, b, h => by
    show (ce e p ++ acE E O).set ((j + 1) * 10 + 9) (.bool b) = ce e p ++ acE E (O.set j b)
    rw [List.set_append_right _ _ (by rw [ce_len]; omega), ce_len, show (j + 1) * 10 + 9 - 10 = j * 10 + 9 by omega, acE_set E O j (by simpa using hj) b (by simpa using h)]

theorem info_en : (Tryz.prog.info? 95).map (fun i => (i.zero, i.size, i.bytes)) = some (some (.agg #[.int .i64 0, .string ⟨#[]⟩, .int .i64 0, .int .i64 0, .string ⟨#[]⟩, .int .i64 0, .int .i64 0, .int .i64 0, .string ⟨#[]⟩, .bool false]), 10, 104) := by kernel_rfl
def OwnEn (w : World) (B : Nat) (v : Value) (E : List En) (O : List Bool) : Prop := w.ownsRow B 95 10 v E.length (acE E O)
theorem run_appEn {w : World} {B : Nat} {v : Value} {E : List En} {O : List Bool} (h : OwnEn w B v E O) (hO : O.length = E.length) (e : En) (g : Nat) (hx : ∀ i u, (ce e false)[i]? = some u → w.cell? ⟨g, i, none⟩ = some u) (hn : E.length + 1 ≤ 1000000) (hB : B ≤ w.heap.size) :
    ∃ a c w', (Builtin.append_ #[60, 60] 60 #[v, .slice (some ⟨g, 0, none⟩) 1 1]).run Tryz.prog w = .ok (.slice a (E.length + 1) c) w' ∧ OwnEn w' B (.slice a (E.length + 1) c) (E ++ [e]) (O ++ [false]) ∧ Aside (fun b => v.ownBlock = some b) w w' := by
  obtain ⟨i0, hi, hz0, hz1, hz2⟩ := info_parts info_en
  have hl : Lst w (g + 1) (.slice (some ⟨g, 0, none⟩) 1 1) 1 (ce e false) := ⟨_, 1, rfl, by simp, fun h => by simp at h, fun _ => ⟨g, 0, rfl, by omega, fun i u hu => by rw [Nat.zero_add]; exact hx i u hu⟩⟩
  obtain ⟨a, c, w', h1, h2, h3, _⟩ := row_more (ty := 60) 104 Tryz.underlying60 hi hz0 hz1 hz2 rfl (by decide) (by decide) h hl (ce_len e false) (ce_one e false) hn hB
  refine ⟨a, c, w', h1, ?_, h3⟩
  unfold OwnEn
  rw [List.length_append, acE_app E [e] O [false] hO, show acE [e] [false] = ce e false by simp [acE]]
  exact h2

structure ShA (w wr : World) (N : Nat) (i f : Int) (q a n r : Value) (va : Value) (E : List En) : Prop where
  bel : Below N w wr
  x : Cel wr N [.int .i64 i, .int .i64 f, q, a, n, r]
  s : Cel wr (N + 1) [.int .i64 i, .int .i64 f, va, .slice none 0 0]
  own : OwnEn wr (N + 2) va E (List.replicate E.length false)
  size : N + 2 ≤ wr.heap.size
section
variable {w wr W : World} {N : Nat} {i f : Int} {q a n r va : Value} {E : List En}
theorem ShA.later (h : ShA w wr N i f q a n r va E) (hb : Below wr.heap.size wr W) : ShA w W N i f q a n r va E :=
  ⟨below_aside h.bel (Aside.of_all hb : Aside (fun _ => False) wr W) (fun k hk => ⟨by have := h.size; omega, id⟩), h.x.below (by simp) hb, h.s.below (by simp) hb, row_below h.own hb, Nat.le_trans h.size hb.size⟩
theorem ShA.shape (h : ShA w wr N i f q a n r va E) : ∃ b c, va = .slice b E.length c := row_shape h.own
theorem ShA.app (h : ShA w wr N i f q a n r va E) (hW : Below wr.heap.size wr W) (e : En) (g : Nat) (hx : ∀ i u, (ce e false)[i]? = some u → W.cell? ⟨g, i, none⟩ = some u) (hn : E.length + 1 ≤ 1000000) :
    ∃ b c W2, (Builtin.append_ #[60, 60] 60 #[va, .slice (some ⟨g, 0, none⟩) 1 1]).run Tryz.prog W = .ok (.slice b (E.length + 1) c) W2 ∧
      W2.cell? ⟨N + 1, 2, none⟩ = some va ∧ (∀ j, W2.frozen? ⟨N + 1, j, none⟩ = false) ∧ ShA w (W2.setCell ⟨N + 1, 2, none⟩ (.slice b (E.length + 1) c)) N i f q a n r (.slice b (E.length + 1) c) (E ++ [e]) := by
  have hR := h.later hW
  obtain ⟨b, c, W2, hr, ho, ha⟩ := run_appEn hR.own (by simp) e g hx hn hR.size
  have hlt := World.ownsRow.lt hR.own
  have hG : ∀ k, k < N + 2 → ¬ va.ownBlock = some k := fun k hk hv => by have := (hlt k hv).1; omega
  have hs := hR.s.aside (by simp) ha (hG _ (by omega))
  have hx2 := hR.x.aside (by simp) ha (hG _ (by omega))
  have h2 : Aside (fun k => k = N + 1) W2 (W2.setCell ⟨N + 1, 2, none⟩ (.slice b (E.length + 1) c)) := Aside.setCell _ (p := ⟨N + 1, 2, none⟩) _ rfl
  have hb := below_aside hR.bel ha (fun k hk => ⟨by have := hR.size; omega, hG k (by omega)⟩)
  refine ⟨b, c, W2, hr, hs.c 2 (by simp), hs.fz, below_aside hb h2 (fun k hk => ⟨by have := hR.size; have := ha.size; omega, by omega⟩), hx2.other (a := ⟨N + 1, 2, none⟩) (by show N + 1 ≠ N; omega) _, ?_, ?_, Nat.le_trans hR.size (Nat.le_trans ha.size h2.size)⟩
  · exact hs.set (o := 2) (by simp) _
  · have e1 : List.replicate (E ++ [e]).length false = List.replicate E.length false ++ [false] := by rw [List.length_append, List.length_singleton, List.replicate_succ']
    unfold OwnEn
    rw [e1]
    unfold OwnEn at ho
    exact row_aside ho h2 (fun k hk hg => by have := (World.ownsRow.lt ho k hk).1; omega)
end

theorem info_pe : (Tryz.prog.info? 97).map (fun i => (i.zero, i.size, i.bytes)) = some (some (.pointer none), 1, 8) := by kernel_rfl
structure ShO (w wr : World) (N : Nat) (i f : Int) (va vo : Value) (E : List En) (b : Nat) (l : List Nat) : Prop where
  bel : Below N w wr
  s : Cel wr (N + 1) [.int .i64 i, .int .i64 f, va, vo]
  own : OwnEn wr (N + 2) va E (List.replicate E.length false)
  row : wr.ownsRow (N + 2) 97 1 vo l.length (l.map (pe b))
  size : N + 2 ≤ wr.heap.size
section
variable {w wr W : World} {N b : Nat} {i f : Int} {va vo : Value} {E : List En} {l : List Nat}
theorem ShO.later (h : ShO w wr N i f va vo E b l) (hb : Below wr.heap.size wr W) : ShO w W N i f va vo E b l :=
  ⟨below_aside h.bel (Aside.of_all hb : Aside (fun _ => False) wr W) (fun k hk => ⟨by have := h.size; omega, id⟩), h.s.below (by simp) hb, row_below h.own hb, row_below h.row hb, Nat.le_trans h.size hb.size⟩
theorem ShO.shape (h : ShO w wr N i f va vo E b l) : ∃ d c, vo = .slice d l.length c := row_shape h.row
theorem ShO.app (h : ShO w wr N i f va vo E b l) (hW : Below wr.heap.size wr W) (x g : Nat) (hx : W.cell? ⟨g, 0, none⟩ = some (pe b x)) (hn : l.length + 1 ≤ 1000000) :
    ∃ d c W2, (Builtin.append_ #[61, 61] 61 #[vo, .slice (some ⟨g, 0, none⟩) 1 1]).run Tryz.prog W = .ok (.slice d (l.length + 1) c) W2 ∧
      W2.cell? ⟨N + 1, 3, none⟩ = some vo ∧ W2.frozen? ⟨N + 1, 3, none⟩ = false ∧ ShO w (W2.setCell ⟨N + 1, 3, none⟩ (.slice d (l.length + 1) c)) N i f va (.slice d (l.length + 1) c) E b (l ++ [x]) := by
  have hR := h.later hW
  obtain ⟨i0, hi, hz0, hz1, hz2⟩ := info_parts info_pe
  have hl : Lst W (g + 1) (.slice (some ⟨g, 0, none⟩) 1 1) 1 [pe b x] := ⟨_, 1, rfl, by simp, fun h => by simp at h, fun _ => ⟨g, 0, rfl, by omega, fun i u hu => by
    match i, hu with
    | 0, hu => rw [Nat.zero_add]; rw [hx]; simpa using hu
    | i + 1, hu => simp at hu⟩⟩
  obtain ⟨d, c, W2, hr, ho, ha, _⟩ := row_more (ty := 61) 8 Tryz.underlying61 hi hz0 hz1 hz2 rfl (by decide) (by decide) hR.row hl rfl (fun u hu => by obtain rfl := List.mem_singleton.mp hu; rfl) hn hR.size
  have hlt := World.ownsRow.lt hR.row
  have hG : ∀ k, k < N + 2 → ¬ vo.ownBlock = some k := fun k hk hv => by have := (hlt k hv).1; omega
  have hs := hR.s.aside (by simp) ha (hG _ (by omega))
  have hown : OwnEn W2 (N + 2) va E (List.replicate E.length false) := row_aside hR.own ha (fun k hk hg => row_apart hR.own hR.row (by decide) k hk hg)
  have h2 : Aside (fun k => k = N + 1) W2 (W2.setCell ⟨N + 1, 3, none⟩ (.slice d (l.length + 1) c)) := Aside.setCell _ (p := ⟨N + 1, 3, none⟩) _ rfl
  have hb := below_aside hR.bel ha (fun k hk => ⟨by have := hR.size; omega, hG k (by omega)⟩)
  refine ⟨d, c, W2, hr, hs.c 3 (by simp), hs.fz 3, below_aside hb h2 (fun k hk => ⟨by have := hR.size; have := ha.size; omega, by omega⟩), hs.set (o := 3) (by simp) _, row_aside hown h2 (fun k hk hg => by have := (World.ownsRow.lt hown k hk).1; omega), ?_, Nat.le_trans hR.size (Nat.le_trans ha.size h2.size)⟩
  rw [List.length_append, List.length_singleton, List.map_append]
  exact row_aside ho h2 (fun k hk hg => by have := (World.ownsRow.lt ho k hk).1; omega)
end
theorem OwnEn.at_ {w : World} {B b c : Nat} {E : List En} {O : List Bool} (h : OwnEn w B (.slice (some ⟨b, 0, none⟩) E.length c) E O) (j : Nat) (hj : j < E.length) (o : Bool) (ho : O[j]? = some o) (i : Nat) (hi : i < 10) : w.cell? ⟨b, j * 10 + i, none⟩ = (ce E[j] o)[i]? := by
  rw [World.ownsRow.cellAt h _ (by omega)]
  exact acE_at E O j hj o ho i hi
theorem OwnEn.kn {w : World} {B b c : Nat} {E : List En} {O : List Bool} (h : OwnEn w B (.slice (some ⟨b, 0, none⟩) E.length c) E O) (hO : O.length = E.length) : Kn w b E.length (kOf E) := fun i hi => by
  have := h.at_ i hi O[i] (List.getElem?_eq_getElem (by omega)) 0 (by omega)
  rw [Nat.add_zero] at this
  rw [this, kOf_at hi]
  rfl
end Go.Proofs.YteegekpanadmkaaGreat

/-
  An entry is put behind the others of its list.
-/
namespace Go.Proofs.YteegekpanadmkaaGreat
open Go.RowKit Go.Shelf
set_option linter.unusedVariables false
set_option linter.unusedSimpArgs false
set_option maxRecDepth 100000

def Dif (u v : Value) : Prop := ∀ k, u.ownBlock = some k → ¬ v.ownBlock = some k
theorem Dif.symm {u v : Value} (h : Dif u v) : Dif v u := fun k h1 h2 => h k h2 h1
theorem dif_nil (v : Value) : Dif (.slice none 0 0) v := fun k h => by simp [Value.ownBlock] at h
def OwnX (w : World) (B : Nat) (v : Value) (m : Ms) : Prop := ∃ q a n r, v = .agg #[.int .i64 m.id, .int .i64 m.fl, q, a, n, r] ∧ OwnQn w B q m.q ∧ OwnRc w B a m.an ∧ OwnRc w B n m.ns ∧ OwnRc w B r m.ar ∧ Dif a r ∧ Dif n r
structure Gat (w : World) (M B : Nat) (m : Ms) (q a n r : Value) : Prop where
  x : Cel w M [.int .i64 m.id, .int .i64 m.fl, q, a, n, r]
  oq : OwnQn w B q m.q
  oa : OwnRc w B a m.an
  on : OwnRc w B n m.ns
  or : OwnRc w B r m.ar
  an : Dif a n
  ar : Dif a r
  nr : Dif n r
  lt : M < B
  size : B ≤ w.heap.size
theorem Gat.later {w w' : World} {M B : Nat} {m : Ms} {q a n r : Value} (h : Gat w M B m q a n r) (hb : Below w.heap.size w w') : Gat w' M B m q a n r :=
  ⟨h.x.below (by simp) hb, row_below h.oq hb, row_below h.oa hb, row_below h.on hb, row_below h.or hb, h.an, h.ar, h.nr, h.lt, Nat.le_trans h.size hb.size⟩
theorem dif_new {w : World} {B : Nat} {u u' v : Value} {l : List Rc} (h : Dif u v) (hv : OwnRc w B v l) (hu : u'.ownBlock = u.ownBlock ∨ u'.ownBlock = some w.heap.size) : Dif u' v := fun k h1 h2 => by
  rcases hu with e | e
  · rw [e] at h1; exact h k h1 h2
  · rw [e] at h1
    injection h1 with h1
    have := (World.ownsRow.lt hv k h2).2
    omega
theorem Gat.app_q {w W : World} {M B hi : Nat} {m : Ms} {q a n r u : Value} (h : Gat w M B m q a n r) (hW : Below w.heap.size w W) (x : Qn) (hx : SQ W hi u [x]) (hn : m.q.length + 1 ≤ 1000000) :
    ∃ b c W2, (Builtin.append_ #[22, 22] 22 #[q, u]).run Tryz.prog W = .ok (.slice b (m.q.length + 1) c) W2 ∧
      W2.cell? ⟨M, 2, none⟩ = some q ∧ W2.frozen? ⟨M, 2, none⟩ = false ∧ Gat (W2.setCell ⟨M, 2, none⟩ (.slice b (m.q.length + 1) c)) M B { m with q := m.q ++ [x] } (.slice b (m.q.length + 1) c) a n r ∧ Below M w (W2.setCell ⟨M, 2, none⟩ (.slice b (m.q.length + 1) c)) := by
  have hR := h.later hW
  obtain ⟨b, c, W2, hr, ho, ha, hk⟩ := run_appQn hR.oq hx hn hR.size
  simp only [List.length_singleton] at hr ho hk
  have hlt := World.ownsRow.lt hR.oq
  have hG : ¬ q.ownBlock = some M := fun hv => by have := (hlt M hv).1; have := hR.lt; omega
  have hx := hR.x.aside (by simp) ha hG
  have h2 : Aside (fun k => k = M) W2 (W2.setCell ⟨M, 2, none⟩ (.slice b (m.q.length + 1) c)) := Aside.setCell _ (p := ⟨M, 2, none⟩) _ rfl
  have hM := hR.lt
  have hsz := hR.size
  have h0 := h.size
  refine ⟨b, c, W2, hr, hx.c 2 (by simp), hx.fz 2, ⟨hx.set (o := 2) (by simp) _, row_aside (show OwnQn W2 B _ (m.q ++ [x]) from ho) h2 (fun k hk hg => by have := (World.ownsRow.lt ho k hk).1; have := hR.lt; omega), row_aside (row_aside hR.oa ha (fun k hk hg => row_apart hR.oa hR.oq (by decide) k hk hg)) h2 (fun k hk hg => by have := (World.ownsRow.lt hR.oa k hk).1; have := hR.lt; omega), row_aside (row_aside hR.on ha (fun k hk hg => row_apart hR.on hR.oq (by decide) k hk hg)) h2 (fun k hk hg => by have := (World.ownsRow.lt hR.on k hk).1; have := hR.lt; omega), row_aside (row_aside hR.or ha (fun k hk hg => row_apart hR.or hR.oq (by decide) k hk hg)) h2 (fun k hk hg => by have := (World.ownsRow.lt hR.or k hk).1; have := hR.lt; omega), hR.an, hR.ar, hR.nr, hM, Nat.le_trans hsz (Nat.le_trans ha.size h2.size)⟩, ?_⟩
  refine below_aside (below_aside (hW.mono (by omega)) ha (fun k hk => ⟨by omega, fun hv => by have := (hlt k hv).1; omega⟩)) h2 (fun k hk => ⟨by have := ha.size; omega, by omega⟩)
theorem Gat.app_a {w W : World} {M B hi : Nat} {m : Ms} {q a n r u : Value} (h : Gat w M B m q a n r) (hW : Below w.heap.size w W) (x : Rc) (hx : SR W hi u [x]) (hn : m.an.length + 1 ≤ 1000000) :
    ∃ b c W2, (Builtin.append_ #[23, 23] 23 #[a, u]).run Tryz.prog W = .ok (.slice b (m.an.length + 1) c) W2 ∧
      W2.cell? ⟨M, 3, none⟩ = some a ∧ W2.frozen? ⟨M, 3, none⟩ = false ∧ Gat (W2.setCell ⟨M, 3, none⟩ (.slice b (m.an.length + 1) c)) M B { m with an := m.an ++ [x] } q (.slice b (m.an.length + 1) c) n r ∧ Below M w (W2.setCell ⟨M, 3, none⟩ (.slice b (m.an.length + 1) c)) := by
  have hR := h.later hW
  obtain ⟨b, c, W2, hr, ho, ha, hk⟩ := run_appRc hR.oa hx hn hR.size
  simp only [List.length_singleton] at hr ho hk
  have hlt := World.ownsRow.lt hR.oa
  have hG : ¬ a.ownBlock = some M := fun hv => by have := (hlt M hv).1; have := hR.lt; omega
  have hx := hR.x.aside (by simp) ha hG
  have h2 : Aside (fun k => k = M) W2 (W2.setCell ⟨M, 3, none⟩ (.slice b (m.an.length + 1) c)) := Aside.setCell _ (p := ⟨M, 3, none⟩) _ rfl
  have hM := hR.lt
  have hsz := hR.size
  have h0 := h.size
  refine ⟨b, c, W2, hr, hx.c 3 (by simp), hx.fz 3, ⟨hx.set (o := 3) (by simp) _, row_aside (row_aside hR.oq ha (fun k hk hg => row_apart hR.oq hR.oa (by decide) k hk hg)) h2 (fun k hk hg => by have := (World.ownsRow.lt hR.oq k hk).1; have := hR.lt; omega), row_aside (show OwnRc W2 B _ (m.an ++ [x]) from ho) h2 (fun k hk hg => by have := (World.ownsRow.lt ho k hk).1; have := hR.lt; omega), row_aside (row_aside hR.on ha hR.an.symm) h2 (fun k hk hg => by have := (World.ownsRow.lt hR.on k hk).1; have := hR.lt; omega), row_aside (row_aside hR.or ha hR.ar.symm) h2 (fun k hk hg => by have := (World.ownsRow.lt hR.or k hk).1; have := hR.lt; omega), dif_new hR.an hR.on hk, dif_new hR.ar hR.or hk, hR.nr, hM, Nat.le_trans hsz (Nat.le_trans ha.size h2.size)⟩, ?_⟩
  refine below_aside (below_aside (hW.mono (by omega)) ha (fun k hk => ⟨by omega, fun hv => by have := (hlt k hv).1; omega⟩)) h2 (fun k hk => ⟨by have := ha.size; omega, by omega⟩)
theorem Gat.app_n {w W : World} {M B hi : Nat} {m : Ms} {q a n r u : Value} (h : Gat w M B m q a n r) (hW : Below w.heap.size w W) (x : Rc) (hx : SR W hi u [x]) (hn : m.ns.length + 1 ≤ 1000000) :
    ∃ b c W2, (Builtin.append_ #[23, 23] 23 #[n, u]).run Tryz.prog W = .ok (.slice b (m.ns.length + 1) c) W2 ∧
      W2.cell? ⟨M, 4, none⟩ = some n ∧ W2.frozen? ⟨M, 4, none⟩ = false ∧ Gat (W2.setCell ⟨M, 4, none⟩ (.slice b (m.ns.length + 1) c)) M B { m with ns := m.ns ++ [x] } q a (.slice b (m.ns.length + 1) c) r ∧ Below M w (W2.setCell ⟨M, 4, none⟩ (.slice b (m.ns.length + 1) c)) := by
  have hR := h.later hW
  obtain ⟨b, c, W2, hr, ho, ha, hk⟩ := run_appRc hR.on hx hn hR.size
  simp only [List.length_singleton] at hr ho hk
  have hlt := World.ownsRow.lt hR.on
  have hG : ¬ n.ownBlock = some M := fun hv => by have := (hlt M hv).1; have := hR.lt; omega
  have hx := hR.x.aside (by simp) ha hG
  have h2 : Aside (fun k => k = M) W2 (W2.setCell ⟨M, 4, none⟩ (.slice b (m.ns.length + 1) c)) := Aside.setCell _ (p := ⟨M, 4, none⟩) _ rfl
  have hM := hR.lt
  have hsz := hR.size
  have h0 := h.size
  refine ⟨b, c, W2, hr, hx.c 4 (by simp), hx.fz 4, ⟨hx.set (o := 4) (by simp) _, row_aside (row_aside hR.oq ha (fun k hk hg => row_apart hR.oq hR.on (by decide) k hk hg)) h2 (fun k hk hg => by have := (World.ownsRow.lt hR.oq k hk).1; have := hR.lt; omega), row_aside (row_aside hR.oa ha hR.an) h2 (fun k hk hg => by have := (World.ownsRow.lt hR.oa k hk).1; have := hR.lt; omega), row_aside (show OwnRc W2 B _ (m.ns ++ [x]) from ho) h2 (fun k hk hg => by have := (World.ownsRow.lt ho k hk).1; have := hR.lt; omega), row_aside (row_aside hR.or ha hR.nr.symm) h2 (fun k hk hg => by have := (World.ownsRow.lt hR.or k hk).1; have := hR.lt; omega), (dif_new hR.an.symm hR.oa hk).symm, hR.ar, dif_new hR.nr hR.or hk, hM, Nat.le_trans hsz (Nat.le_trans ha.size h2.size)⟩, ?_⟩
  refine below_aside (below_aside (hW.mono (by omega)) ha (fun k hk => ⟨by omega, fun hv => by have := (hlt k hv).1; omega⟩)) h2 (fun k hk => ⟨by have := ha.size; omega, by omega⟩)
theorem Gat.app_r {w W : World} {M B hi : Nat} {m : Ms} {q a n r u : Value} (h : Gat w M B m q a n r) (hW : Below w.heap.size w W) (x : Rc) (hx : SR W hi u [x]) (hn : m.ar.length + 1 ≤ 1000000) :
    ∃ b c W2, (Builtin.append_ #[23, 23] 23 #[r, u]).run Tryz.prog W = .ok (.slice b (m.ar.length + 1) c) W2 ∧
      W2.cell? ⟨M, 5, none⟩ = some r ∧ W2.frozen? ⟨M, 5, none⟩ = false ∧ Gat (W2.setCell ⟨M, 5, none⟩ (.slice b (m.ar.length + 1) c)) M B { m with ar := m.ar ++ [x] } q a n (.slice b (m.ar.length + 1) c) ∧ Below M w (W2.setCell ⟨M, 5, none⟩ (.slice b (m.ar.length + 1) c)) := by
  have hR := h.later hW
  obtain ⟨b, c, W2, hr, ho, ha, hk⟩ := run_appRc hR.or hx hn hR.size
  simp only [List.length_singleton] at hr ho hk
  have hlt := World.ownsRow.lt hR.or
  have hG : ¬ r.ownBlock = some M := fun hv => by have := (hlt M hv).1; have := hR.lt; omega
  have hx := hR.x.aside (by simp) ha hG
  have h2 : Aside (fun k => k = M) W2 (W2.setCell ⟨M, 5, none⟩ (.slice b (m.ar.length + 1) c)) := Aside.setCell _ (p := ⟨M, 5, none⟩) _ rfl
  have hM := hR.lt
  have hsz := hR.size
  have h0 := h.size
  refine ⟨b, c, W2, hr, hx.c 5 (by simp), hx.fz 5, ⟨hx.set (o := 5) (by simp) _, row_aside (row_aside hR.oq ha (fun k hk hg => row_apart hR.oq hR.or (by decide) k hk hg)) h2 (fun k hk hg => by have := (World.ownsRow.lt hR.oq k hk).1; have := hR.lt; omega), row_aside (row_aside hR.oa ha hR.ar) h2 (fun k hk hg => by have := (World.ownsRow.lt hR.oa k hk).1; have := hR.lt; omega), row_aside (row_aside hR.on ha hR.nr) h2 (fun k hk hg => by have := (World.ownsRow.lt hR.on k hk).1; have := hR.lt; omega), row_aside (show OwnRc W2 B _ (m.ar ++ [x]) from ho) h2 (fun k hk hg => by have := (World.ownsRow.lt ho k hk).1; have := hR.lt; omega), hR.an, (dif_new hR.ar.symm hR.oa hk).symm, (dif_new hR.nr.symm hR.on hk).symm, hM, Nat.le_trans hsz (Nat.le_trans ha.size h2.size)⟩, ?_⟩
  refine below_aside (below_aside (hW.mono (by omega)) ha (fun k hk => ⟨by omega, fun hv => by have := (hlt k hv).1; omega⟩)) h2 (fun k hk => ⟨by have := ha.size; omega, by omega⟩)

def AtE (w : World) (b o : Nat) (e : En) : Prop := ∃ p : Bool, ∀ i u, (ce e p)[i]? = some u → w.cell? ⟨b, o + i, none⟩ = some u
def EnPost (w : World) (M B : Nat) (m : Ms) (e : En) (x : Ending) (w' : World) : Prop := x = .returned (.tuple #[]) ∧ (∃ q a n r, Gat w' M B (putEn m e) q a n r) ∧ Below M w w'

set_option maxHeartbeats 4000000 in
theorem putEn_any {w : World} {M B b o : Nat} {m : Ms} {q a n r : Value} {e : En} (h : Gat w M B m q a n r) (he : AtE w b o e) (hb : b < M) (hn : m.q.length + m.an.length + m.ns.length + m.ar.length ≤ 900000) :
    Calls Tryz.prog 61 #[.pointer (some ⟨b, o, none⟩), .pointer (some ⟨M, 0, none⟩)] w (EnPost w M B m e) := by
  obtain ⟨p, hc⟩ := he
  obtain ⟨k, ⟨q1, q2, q3⟩, ⟨x1, x2, x3, x4, x5⟩⟩ := e
  have c0 := hc 0 _ rfl
  have c1 := hc 1 _ rfl
  have c2 := hc 2 _ rfl
  have c3 := hc 3 _ rfl
  have c4 := hc 4 _ rfl
  have c5 := hc 5 _ rfl
  have c6 := hc 6 _ rfl
  have c7 := hc 7 _ rfl
  have c8 := hc 8 _ rfl
  rw [Nat.add_zero] at c0
  simp only at c0 c1 c2 c3 c4 c5 c6 c7 c8
  have hbw : b < w.heap.size := World.block_lt_of_cell? w ⟨b, o, none⟩ c0
  obtain ⟨y0, y1, y2, y3, y4, y5⟩ := h.x.six
  have hMw : M < w.heap.size := by have := h.lt; have := h.size; omega
  have HH := Lib.hid h
  obtain ⟨qa, qc, rfl⟩ := row_shape h.oq
  obtain ⟨aa, ac, rfl⟩ := row_shape h.oa
  obtain ⟨na, nc, rfl⟩ := row_shape h.on
  obtain ⟨ra, rc, rfl⟩ := row_shape h.or
  have HL := Lib.hid hn
  clear hc h hn y0 y1
  by_cases hk4 : k = 4
  · subst hk4
    have hE : putEn m ⟨4, ⟨q1, q2, q3⟩, ⟨x1, x2, x3, x4, x5⟩⟩ = { m with q := m.q ++ [⟨q1, q2, q3⟩] } := by unfold putEn; rw [if_pos rfl]
    obtain ⟨b9, c9, W2, hrun, k2, k3, hS2, hB2⟩ := HH.out.app_q (W := w.drew.alloc (.cells #[.string (bs q1), .int .i64 q2, .int .i64 q3] 56)) (((Below.refl _ w).drew).alloc (Nat.le_refl _) _) ⟨q1, q2, q3⟩ (sq_one w.drew ⟨q1, q2, q3⟩) (by have := HL.out; omega)
    have HRUN := Lib.hid hrun
    have HF := Lib.hid (show EnPost w M B m ⟨4, ⟨q1, q2, q3⟩, ⟨x1, x2, x3, x4, x5⟩⟩ (.returned (.tuple #[])) (W2.setCell ⟨M, 2, none⟩ (.slice b9 (m.q.length + 1) c9)) from ⟨rfl, by rw [hE]; exact ⟨_, _, _, _, hS2⟩, hB2⟩)
    obtain ⟨ll, hll⟩ : ∃ l, m.q.length = l := ⟨_, rfl⟩
    rw [hll] at y2 HRUN k2 HF
    clear hrun hS2 hB2 hE hll y3 y4 y5
    have hk : ((4 : Int) == 4) = true := rfl
    go_enter Tryz.func61, Tryz.ntmps61
    go_wp2_with fail
    go_region_law (refine step_app_run rfl (.tmp 27) (.tmp 32) 22 22 rfl rfl rfl HRUN.out ?_)
    all_goals
      go_wp2_with fail
      go_end0
      exact HF.out
  by_cases hk2 : k = 2
  · subst hk2
    have hE : putEn m ⟨2, ⟨q1, q2, q3⟩, ⟨x1, x2, x3, x4, x5⟩⟩ = { m with an := m.an ++ [⟨x1, x2, x3, x4, x5⟩] } := by unfold putEn; rw [if_neg (by simp), if_pos rfl]
    obtain ⟨b9, c9, W2, hrun, k2, k3, hS2, hB2⟩ := HH.out.app_a (W := w.drew.alloc (.cells #[.string (bs x1), .int .i64 x2, .int .i64 x3, .int .i64 x4, .string (bs x5)] 52)) (((Below.refl _ w).drew).alloc (Nat.le_refl _) _) ⟨x1, x2, x3, x4, x5⟩ (sr_one w.drew ⟨x1, x2, x3, x4, x5⟩) (by have := HL.out; omega)
    have HRUN := Lib.hid hrun
    have HF := Lib.hid (show EnPost w M B m ⟨2, ⟨q1, q2, q3⟩, ⟨x1, x2, x3, x4, x5⟩⟩ (.returned (.tuple #[])) (W2.setCell ⟨M, 3, none⟩ (.slice b9 (m.an.length + 1) c9)) from ⟨rfl, by rw [hE]; exact ⟨_, _, _, _, hS2⟩, hB2⟩)
    obtain ⟨ll, hll⟩ : ∃ l, m.an.length = l := ⟨_, rfl⟩
    rw [hll] at y3 HRUN k2 HF
    clear hrun hS2 hB2 hE hll y2 y4 y5
    clear hk4
    go_enter Tryz.func61, Tryz.ntmps61
    go_wp2_with fail
    go_region_law (refine step_app_run rfl (.tmp 42) (.tmp 47) 23 23 rfl rfl rfl HRUN.out ?_)
    all_goals
      go_wp2_with fail
      go_end0
      exact HF.out
  by_cases hk1 : k = 1
  · subst hk1
    have hE : putEn m ⟨1, ⟨q1, q2, q3⟩, ⟨x1, x2, x3, x4, x5⟩⟩ = { m with ns := m.ns ++ [⟨x1, x2, x3, x4, x5⟩] } := by unfold putEn; rw [if_neg (by simp), if_neg (by simp), if_pos rfl]
    obtain ⟨b9, c9, W2, hrun, k2, k3, hS2, hB2⟩ := HH.out.app_n (W := w.drew.alloc (.cells #[.string (bs x1), .int .i64 x2, .int .i64 x3, .int .i64 x4, .string (bs x5)] 52)) (((Below.refl _ w).drew).alloc (Nat.le_refl _) _) ⟨x1, x2, x3, x4, x5⟩ (sr_one w.drew ⟨x1, x2, x3, x4, x5⟩) (by have := HL.out; omega)
    have HRUN := Lib.hid hrun
    have HF := Lib.hid (show EnPost w M B m ⟨1, ⟨q1, q2, q3⟩, ⟨x1, x2, x3, x4, x5⟩⟩ (.returned (.tuple #[])) (W2.setCell ⟨M, 4, none⟩ (.slice b9 (m.ns.length + 1) c9)) from ⟨rfl, by rw [hE]; exact ⟨_, _, _, _, hS2⟩, hB2⟩)
    obtain ⟨ll, hll⟩ : ∃ l, m.ns.length = l := ⟨_, rfl⟩
    rw [hll] at y4 HRUN k2 HF
    clear hrun hS2 hB2 hE hll y2 y3 y5
    clear hk4 hk2
    go_enter Tryz.func61, Tryz.ntmps61
    go_wp2_with fail
    go_region_law (refine step_app_run rfl (.tmp 57) (.tmp 62) 23 23 rfl rfl rfl HRUN.out ?_)
    all_goals
      go_wp2_with fail
      go_end0
      exact HF.out
  · have g4 : (k == 4) = false := by simpa using hk4
    have g2 : (k == 2) = false := by simpa using hk2
    have g1 : (k == 1) = false := by simpa using hk1
    have hE : putEn m ⟨k, ⟨q1, q2, q3⟩, ⟨x1, x2, x3, x4, x5⟩⟩ = { m with ar := m.ar ++ [⟨x1, x2, x3, x4, x5⟩] } := by unfold putEn; rw [if_neg hk4, if_neg hk2, if_neg hk1]
    obtain ⟨b9, c9, W2, hrun, k2, k3, hS2, hB2⟩ := HH.out.app_r (W := w.drew.alloc (.cells #[.string (bs x1), .int .i64 x2, .int .i64 x3, .int .i64 x4, .string (bs x5)] 52)) (((Below.refl _ w).drew).alloc (Nat.le_refl _) _) ⟨x1, x2, x3, x4, x5⟩ (sr_one w.drew ⟨x1, x2, x3, x4, x5⟩) (by have := HL.out; omega)
    have HRUN := Lib.hid hrun
    have HF := Lib.hid (show EnPost w M B m ⟨k, ⟨q1, q2, q3⟩, ⟨x1, x2, x3, x4, x5⟩⟩ (.returned (.tuple #[])) (W2.setCell ⟨M, 5, none⟩ (.slice b9 (m.ar.length + 1) c9)) from ⟨rfl, by rw [hE]; exact ⟨_, _, _, _, hS2⟩, hB2⟩)
    obtain ⟨ll, hll⟩ : ∃ l, m.ar.length = l := ⟨_, rfl⟩
    rw [hll] at y5 HRUN k2 HF
    clear hrun hS2 hB2 hE hll y2 y3 y4
    skip
    go_enter Tryz.func61, Tryz.ntmps61
    go_wp2_with fail
    go_region_law (refine step_app_run rfl (.tmp 12) (.tmp 17) 23 23 rfl rfl rfl HRUN.out ?_)
    all_goals
      go_wp2_with fail
      go_end0
      exact HF.out
end Go.Proofs.YteegekpanadmkaaGreat

/-
  Which entries are left out, plainly; whether an entry is one of the additional ones.
-/
namespace Go.Proofs.YteegekpanadmkaaGreat
open Go.RowKit Go.Shelf
set_option linter.unusedVariables false
set_option linter.unusedSimpArgs false
set_option maxRecDepth 100000

def late (k : Int) : Bool := !(k == 0 || k == 3)
def flG (κ : Nat → Int) (l : List Nat) (f : Int) : Int := if (l.any fun x => late (κ x)) = true then tcG f else f
theorem flG_more {κ : Nat → Int} {l : List Nat} {f : Int} (h0 : 0 ≤ f) (h1 : f ≤ 65535) (x : Nat) : (if late (κ x) = true then tcG (flG κ l f) else flG κ l f) = flG κ (l ++ [x]) f := by
  unfold flG
  rw [List.any_append, List.any_cons, List.any_nil, Bool.or_false]
  cases ha : (l.any fun x => late (κ x)) <;> cases hb : late (κ x) <;> simp [tcG_twice h0 h1]

set_option maxHeartbeats 1000000 in
theorem inAr_any {w : World} {b o : Nat} {k : Int} (hc : w.cell? ⟨b, o, none⟩ = some (.int .i64 k)) : Calls Tryz.prog 60 #[.pointer (some ⟨b, o, none⟩)] w fun e w' => e = .returned (.bool (!late k)) ∧ w' = w := by
  unfold late
  rw [Bool.not_not]
  by_cases h0 : k = 0
  · subst h0
    go_enter Tryz.func60, Tryz.ntmps60
    go_wp2
    go_ret
    exact ⟨rfl, rfl⟩
  · have g0 : (k == 0) = false := by simpa using h0
    by_cases h3 : k = 3
    · subst h3
      go_enter Tryz.func60, Tryz.ntmps60
      go_wp2
      go_ret
      exact ⟨rfl, rfl⟩
    · have g3 : (k == 3) = false := by simpa using h3
      rw [g0, g3]
      go_enter Tryz.func60, Tryz.ntmps60
      go_wp2
      go_ret
      exact ⟨rfl, rfl⟩
end Go.Proofs.YteegekpanadmkaaGreat

/-
  The message that a sheet tells is the message with so many entries left out.
-/
namespace Go.Proofs.YteegekpanadmkaaGreat
open Go.RowKit Go.Shelf
set_option linter.unusedVariables false
set_option linter.unusedSimpArgs false
set_option maxRecDepth 100000

def rnk (E : List En) (x : Nat) : Nat := E.countP (fun e => decide (e.k < kOf E x)) + (E.drop (x + 1)).countP (fun e => decide (e.k = kOf E x))
theorem countP_le (l : List En) (k : Int) : l.countP (fun e => decide (e.k ≤ k)) = l.countP (fun e => decide (e.k < k)) + l.countP (fun e => decide (e.k = k)) := by
  induction l with
  | nil => rfl
  | cons e l ih =>
    rw [List.countP_cons, List.countP_cons, List.countP_cons, ih]
    rcases Int.lt_trichotomy e.k k with h | h | h
    · rw [if_pos (by simpa using Int.le_of_lt h), if_pos (by simpa using h), if_neg (by simp; omega)]; omega
    · rw [if_pos (by simp; omega), if_neg (by simp; omega), if_pos (by simpa using h)]; omega
    · rw [if_neg (by simp; omega), if_neg (by simp; omega), if_neg (by simp; omega)]; omega
theorem kOf_map (E : List En) : (List.range E.length).map (kOf E) = E.map En.k := by
  apply List.ext_getElem
  · simp
  · intro j h1 h2
    have h3 : j < E.length := by simpa using h1
    simp only [List.getElem_map, List.getElem_range]
    exact kOf_at h3
theorem count_rank (E : List En) (x : Nat) (hx : x < E.length) : (List.range E.length).countP (fun j => decide (Bef (kOf E) j x)) = rnk E x := by
  obtain ⟨k, hk⟩ : ∃ k, kOf E x = k := ⟨_, rfl⟩
  have hsplit : List.range E.length = List.range x ++ x :: (List.range (E.length - (x + 1))).map (fun j => x + 1 + j) := by
    have h1 := List.range_add (n := x + 1) (m := E.length - (x + 1))
    rw [show x + 1 + (E.length - (x + 1)) = E.length by omega, List.range_succ] at h1
    rw [h1]; simp
  have hmap := kOf_map E
  rw [hsplit, List.map_append, List.map_cons] at hmap
  have hA : (List.range x).map (kOf E) = (E.take x).map En.k := by
    have := congrArg (List.take x) hmap
    rw [List.take_left' (by simp)] at this
    rw [this, List.map_take]
  have hC : ((List.range (E.length - (x + 1))).map (fun j => x + 1 + j)).map (kOf E) = (E.drop (x + 1)).map En.k := by
    have := congrArg (List.drop (x + 1)) hmap
    rw [List.drop_append, List.drop_of_length_le (by simp)] at this
    simp only [List.length_map, List.length_range, Nat.add_sub_cancel_left, List.nil_append, List.drop_succ_cons, List.drop_zero] at this
    rw [this, List.map_drop]
  rw [hsplit, List.countP_append, List.countP_cons, if_neg (by simpa using Bef.irr)]
  have e1 : (List.range x).countP (fun j => decide (Bef (kOf E) j x)) = (E.take x).countP (fun e => decide (e.k < k)) := by
    have : (List.range x).countP (fun j => decide (Bef (kOf E) j x)) = ((List.range x).map (kOf E)).countP (fun z => decide (z < k)) := by
      rw [List.countP_map]
      apply List.countP_congr
      intro j hj
      have hj : j < x := by simpa using hj
      simp only [decide_eq_true_eq, Function.comp]
      rw [bef_lt hj, hk]
    rw [this, hA, List.countP_map]; rfl
  have e2 : ((List.range (E.length - (x + 1))).map (fun j => x + 1 + j)).countP (fun j => decide (Bef (kOf E) j x)) = (E.drop (x + 1)).countP (fun e => decide (e.k ≤ k)) := by
    have : ((List.range (E.length - (x + 1))).map (fun j => x + 1 + j)).countP (fun j => decide (Bef (kOf E) j x)) = (((List.range (E.length - (x + 1))).map (fun j => x + 1 + j)).map (kOf E)).countP (fun z => decide (z ≤ k)) := by
      rw [List.countP_map (p := fun z => decide (z ≤ k))]
      apply List.countP_congr
      intro j hj
      obtain ⟨y, _, rfl⟩ := List.mem_map.mp hj
      simp only [decide_eq_true_eq, Function.comp]
      unfold Bef
      rw [hk]
      omega
    rw [this, hC, List.countP_map]; rfl
  have e3 : E.countP (fun e => decide (e.k < k)) = (E.take x).countP (fun e => decide (e.k < k)) + (E.drop (x + 1)).countP (fun e => decide (e.k < k)) := by
    conv => lhs; rw [← List.take_append_drop x E, List.drop_eq_getElem_cons hx]
    rw [List.countP_append, List.countP_cons, if_neg (by
      have := kOf_at hx
      simp; omega)]
    omega
  unfold rnk
  rw [hk, e1, e2, countP_le, e3]
  omega
theorem out_rnk {E : List En} {ord : List Nat} (h : Mrg (kOf E) ord (List.range E.length).reverse) (n x : Nat) (hx : x < E.length) : decide (x ∈ ord.take n) = decide (rnk E x < n) := by
  have hp : ord.Perm (List.range E.length) := h.1.trans (List.reverse_perm _)
  have hmem : x ∈ ord := hp.mem_iff.mpr (by simpa using hx)
  have hc := hp.countP_eq (fun j => decide (Bef (kOf E) j x))
  rw [count_rank E x hx] at hc
  have := bef_rank h.2 hmem n
  rw [hc] at this
  simp only [this]

/-! ### by lists -/

theorem cnt_q (l : List Qn) (p : En → Bool) (b : Bool) (h : ∀ x, p (enQ x) = b) : (l.map enQ).countP p = if b = true then l.length else 0 := by
  rw [List.countP_map]
  cases b with
  | true => rw [if_pos rfl, List.countP_eq_length]; intro x _; exact h x
  | false => rw [if_neg (by simp), List.countP_eq_zero]; intro x _; simpa using h x
theorem cnt_r (k : Int) (l : List Rc) (p : En → Bool) (b : Bool) (h : ∀ x, p (enR k x) = b) : (l.map (enR k)).countP p = if b = true then l.length else 0 := by
  rw [List.countP_map]
  cases b with
  | true => rw [if_pos rfl, List.countP_eq_length]; intro x _; exact h x
  | false => rw [if_neg (by simp), List.countP_eq_zero]; intro x _; simpa using h x
theorem cnt_a (l : List Rc) (p : En → Bool) (b : Bool) (h3 : ∀ x, isO x = true → p (enA x) = b) (c : Bool) (h0 : ∀ x, isO x = false → p (enA x) = c) : (l.map enA).countP p = (if b = true then l.countP isO else 0) + if c = true then l.countP nO else 0 := by
  induction l with
  | nil => cases b <;> cases c <;> rfl
  | cons x l ih =>
    rw [List.map_cons, List.countP_cons, ih, List.countP_cons, List.countP_cons]
    cases hx : isO x with
    | true => rw [h3 x hx]; have : nO x = false := by simp [nO, hx]
              rw [this]; cases b <;> cases c <;> simp <;> omega
    | false => rw [h0 x hx]; have : nO x = true := by simp [nO, hx]
               rw [this]; cases b <;> cases c <;> simp <;> omega
/-! ### the lists -/

theorem take_eq_self {α : Type} (l : List α) (k : Nat) (h : k = 0) : l.take (l.length - k) = l := by rw [h, Nat.sub_zero, List.take_length]
theorem kept_ar (n s : Nat) (l : List Rc) (h : l.countP nO ≤ s) : kept (fun x t => if isO x = true then decide (s + t.countP isO < n) else decide (t.countP nO < n)) l = (lop nO n l).take ((lop nO n l).length - (n - s)) := by
  by_cases hn : n ≤ s
  · have e1 : kept (fun x t => if isO x = true then decide (s + t.countP isO < n) else decide (t.countP nO < n)) l = lop nO n l := by
      unfold lop
      apply kept_congr
      intro j hj
      unfold nO
      cases hx : isO l[j] with
      | true => simp; omega
      | false => simp
    rw [e1, take_eq_self _ _ (by omega)]
  · have hall : lop nO n l = l.filter isO := by
      rw [lop_all nO n l (by omega)]
      congr 1
      funext x
      unfold nO; simp
    have hgo : ∀ (l : List Rc), l.countP nO ≤ s → kept (fun x t => if isO x = true then decide (s + t.countP isO < n) else decide (t.countP nO < n)) l = (l.filter isO).take ((l.filter isO).length - (n - s)) := by
      intro l
      induction l with
      | nil => intro _; simp [kept]
      | cons x l ih =>
        intro hc
        have hc2 : l.countP nO ≤ s := by rw [List.countP_cons] at hc; omega
        rw [kept, ih hc2]
        cases hx : isO x with
        | true =>
          rw [List.filter_cons_of_pos hx, if_pos rfl, List.length_cons, List.countP_eq_length_filter]
          by_cases h2 : s + (l.filter isO).length < n
          · rw [if_pos (by simpa using h2), show (l.filter isO).length + 1 - (n - s) = 0 by omega, show (l.filter isO).length - (n - s) = 0 by omega, List.take_zero, List.take_zero]
          · rw [if_neg (by simpa using h2), show (l.filter isO).length + 1 - (n - s) = ((l.filter isO).length - (n - s)) + 1 by omega, List.take_succ_cons]
        | false =>
          simp only [Bool.false_eq_true, if_false]
          rw [List.filter_cons_of_neg (by simp [hx]), if_pos (by simp; omega)]
    rw [hgo l h, hall]

theorem ents_cnt (m : Ms) (p : En → Bool) (b4 b2 b1 b3 b0 : Bool) (h4 : ∀ x, p (enQ x) = b4) (h2 : ∀ x, p (enR 2 x) = b2) (h1 : ∀ x, p (enR 1 x) = b1) (h3 : ∀ x, isO x = true → p (enA x) = b3) (h0 : ∀ x, isO x = false → p (enA x) = b0) :
    (ents m).countP p = (if b4 = true then m.q.length else 0) + ((if b2 = true then m.an.length else 0) + ((if b1 = true then m.ns.length else 0) + ((if b3 = true then nD m else 0) + (if b0 = true then nA m else 0)))) := by
  unfold ents
  rw [List.countP_append, List.countP_append, List.countP_append, cnt_q _ p b4 h4, cnt_r 2 _ p b2 h2, cnt_r 1 _ p b1 h1, cnt_a _ p b3 h3 b0 h0]
  rfl
theorem kOf_left {A B : List En} {i : Nat} (h : i < A.length) : kOf (A ++ B) i = kOf A i := by
  unfold kOf
  rw [List.map_append, List.getD, List.getD, List.getElem?_append_left (by simpa using h)]
theorem kOf_right {A B : List En} (k i : Nat) (h : A.length = k) : kOf (A ++ B) (k + i) = kOf B i := by
  subst h
  unfold kOf
  rw [List.map_append, List.getD, List.getD, List.getElem?_append_right (by simp), List.length_map, Nat.add_sub_cancel_left]
theorem kOf_map_at {α : Type} (f : α → En) (l : List α) (j : Nat) (hj : j < l.length) : kOf (l.map f) j = (f l[j]).k := by
  rw [kOf_at (by simpa using hj), List.getElem_map]
theorem k_a (x : Rc) : (enA x).k = if isO x then 3 else 0 := rfl
theorem k_a3 {x : Rc} (h : isO x = true) : (enA x).k = 3 := by rw [k_a, if_pos h]
theorem k_a0 {x : Rc} (h : isO x = false) : (enA x).k = 0 := by rw [k_a, if_neg (by simp [h])]
theorem rnk_q (m : Ms) (j : Nat) (hj : j < m.q.length) : kOf (ents m) j = 4 ∧ rnk (ents m) j = nA m + m.ns.length + m.an.length + nD m + (m.q.drop (j + 1)).length := by
  have hx : j < (ents m).length := by rw [ents_len]; omega
  have hk : kOf (ents m) j = 4 := by
    unfold ents
    rw [kOf_left (by simpa using hj), kOf_map_at _ _ _ hj]; rfl
  refine ⟨hk, ?_⟩
  unfold rnk
  rw [hk, ents_cnt m (fun e => decide (e.k < 4)) false true true true true (fun x => rfl) (fun x => rfl) (fun x => rfl) (fun x h => by simp [k_a3 h]) (fun x h => by simp [k_a0 h])]
  have hd : (ents m).drop (j + 1) = (m.q.drop (j + 1)).map enQ ++ (m.an.map (enR 2) ++ (m.ns.map (enR 1) ++ m.ar.map enA)) := by
    unfold ents
    rw [List.drop_append_of_le_length (by simp; omega), List.map_drop]
  rw [hd, List.countP_append, List.countP_append, List.countP_append, cnt_q _ _ true (fun x => rfl), cnt_r 2 _ _ false (fun x => rfl), cnt_r 1 _ _ false (fun x => rfl), cnt_a _ _ false (fun x h => by simp [k_a3 h]) false (fun x h => by simp [k_a0 h])]
  simp
  omega
theorem rnk_an (m : Ms) (j : Nat) (hj : j < m.an.length) : kOf (ents m) (m.q.length + j) = 2 ∧ rnk (ents m) (m.q.length + j) = nA m + m.ns.length + (m.an.drop (j + 1)).length := by
  have hx : m.q.length + j < (ents m).length := by rw [ents_len]; omega
  have hk : kOf (ents m) (m.q.length + j) = 2 := by
    unfold ents
    rw [kOf_right _ _ (by simp), kOf_left (by simpa using hj), kOf_map_at _ _ _ hj]; rfl
  refine ⟨hk, ?_⟩
  unfold rnk
  rw [hk, ents_cnt m (fun e => decide (e.k < 2)) false false true false true (fun x => rfl) (fun x => rfl) (fun x => rfl) (fun x h => by simp [k_a3 h]) (fun x h => by simp [k_a0 h])]
  have hd : (ents m).drop (m.q.length + j + 1) = (m.an.drop (j + 1)).map (enR 2) ++ (m.ns.map (enR 1) ++ m.ar.map enA) := by
    unfold ents
    rw [List.drop_append, List.drop_of_length_le (by simp; omega), List.nil_append, List.length_map, show m.q.length + j + 1 - m.q.length = j + 1 by omega, List.drop_append_of_le_length (by simp; omega), List.map_drop]
  rw [hd, List.countP_append, List.countP_append, cnt_r 2 _ _ true (fun x => rfl), cnt_r 1 _ _ false (fun x => rfl), cnt_a _ _ false (fun x h => by simp [k_a3 h]) false (fun x h => by simp [k_a0 h])]
  simp
  omega
theorem rnk_ns (m : Ms) (j : Nat) (hj : j < m.ns.length) : kOf (ents m) (m.q.length + m.an.length + j) = 1 ∧ rnk (ents m) (m.q.length + m.an.length + j) = nA m + (m.ns.drop (j + 1)).length := by
  have hx : m.q.length + m.an.length + j < (ents m).length := by rw [ents_len]; omega
  have hk : kOf (ents m) (m.q.length + m.an.length + j) = 1 := by
    unfold ents
    rw [Nat.add_assoc, kOf_right _ _ (by simp), kOf_right _ _ (by simp), kOf_left (by simpa using hj), kOf_map_at _ _ _ hj]; rfl
  refine ⟨hk, ?_⟩
  unfold rnk
  rw [hk, ents_cnt m (fun e => decide (e.k < 1)) false false false false true (fun x => rfl) (fun x => rfl) (fun x => rfl) (fun x h => by simp [k_a3 h]) (fun x h => by simp [k_a0 h])]
  have hd : (ents m).drop (m.q.length + m.an.length + j + 1) = (m.ns.drop (j + 1)).map (enR 1) ++ m.ar.map enA := by
    unfold ents
    rw [List.drop_append, List.drop_of_length_le (by simp; omega), List.nil_append, List.length_map, show m.q.length + m.an.length + j + 1 - m.q.length = m.an.length + (j + 1) by omega,
      List.drop_append, List.drop_of_length_le (by simp), List.nil_append, List.length_map, Nat.add_sub_cancel_left, List.drop_append_of_le_length (by simp; omega), List.map_drop]
  rw [hd, List.countP_append, cnt_r 1 _ _ true (fun x => rfl), cnt_a _ _ false (fun x h => by simp [k_a3 h]) false (fun x h => by simp [k_a0 h])]
  simp
theorem rnk_ar (m : Ms) (j : Nat) (hj : j < m.ar.length) : kOf (ents m) (m.q.length + m.an.length + m.ns.length + j) = (if isO m.ar[j] = true then 3 else 0) ∧
    rnk (ents m) (m.q.length + m.an.length + m.ns.length + j) = if isO m.ar[j] = true then nA m + m.ns.length + m.an.length + (m.ar.drop (j + 1)).countP isO else (m.ar.drop (j + 1)).countP nO := by
  have hx : m.q.length + m.an.length + m.ns.length + j < (ents m).length := by rw [ents_len]; omega
  have hk : kOf (ents m) (m.q.length + m.an.length + m.ns.length + j) = if isO m.ar[j] = true then 3 else 0 := by
    unfold ents
    rw [Nat.add_assoc, Nat.add_assoc, kOf_right _ _ (by simp), kOf_right _ _ (by simp), kOf_right _ _ (by simp), kOf_map_at _ _ _ hj]; rfl
  refine ⟨hk, ?_⟩
  have hd : (ents m).drop (m.q.length + m.an.length + m.ns.length + j + 1) = (m.ar.drop (j + 1)).map enA := by
    unfold ents
    rw [List.drop_append, List.drop_of_length_le (by simp; omega), List.nil_append, List.length_map, show m.q.length + m.an.length + m.ns.length + j + 1 - m.q.length = m.an.length + (m.ns.length + (j + 1)) by omega,
      List.drop_append, List.drop_of_length_le (by simp), List.nil_append, List.length_map, Nat.add_sub_cancel_left, List.drop_append, List.drop_of_length_le (by simp), List.nil_append, List.length_map, Nat.add_sub_cancel_left, List.map_drop]
  unfold rnk
  rw [hk, hd]
  cases ho : isO m.ar[j] with
  | true =>
    rw [if_pos rfl, if_pos rfl, ents_cnt m (fun e => decide (e.k < 3)) false true true false true (fun x => rfl) (fun x => rfl) (fun x => rfl) (fun x h => by simp [k_a3 h]) (fun x h => by simp [k_a0 h]), cnt_a _ _ true (fun x h => by simp [k_a3 h]) false (fun x h => by simp [k_a0 h])]
    simp
    omega
  | false =>
    rw [if_neg (by simp), if_neg (by simp), ents_cnt m (fun e => decide (e.k < 0)) false false false false false (fun x => rfl) (fun x => rfl) (fun x => rfl) (fun x h => by simp [k_a3 h]) (fun x h => by simp [k_a0 h]), cnt_a _ _ false (fun x h => by simp [k_a3 h]) true (fun x h => by simp [k_a0 h])]
    simp
theorem flG_eq (m : Ms) {ord : List Nat} (h : Mrg (kOf (ents m)) ord (List.range (ents m).length).reverse) (n : Nat) (f : Int) :
    flG (kOf (ents m)) (ord.take n) f = if (nA m < n ∧ 0 < m.ns.length) ∨ (nA m + m.ns.length < n ∧ 0 < m.an.length) ∨ (nA m + m.ns.length + m.an.length + nD m < n ∧ 0 < m.q.length) then tcG f else f := by
  have hp : ord.Perm (List.range (ents m).length) := h.1.trans (List.reverse_perm _)
  have hout := fun x hx => out_rnk h n x hx
  have hin : ∀ x, x < (ents m).length → (x ∈ ord.take n ↔ rnk (ents m) x < n) := fun x hx => by
    have := hout x hx
    exact decide_eq_decide.mp this
  unfold flG
  by_cases hc : (nA m < n ∧ 0 < m.ns.length) ∨ (nA m + m.ns.length < n ∧ 0 < m.an.length) ∨ (nA m + m.ns.length + m.an.length + nD m < n ∧ 0 < m.q.length)
  · rw [if_pos hc, if_pos]
    rw [List.any_eq_true]
    rcases hc with ⟨h1, h2⟩ | ⟨h1, h2⟩ | ⟨h1, h2⟩
    · obtain ⟨k1, k2⟩ := rnk_ns m (m.ns.length - 1) (by omega)
      refine ⟨m.q.length + m.an.length + (m.ns.length - 1), (hin _ (by rw [ents_len]; omega)).mpr (by rw [k2, List.length_drop]; omega), by rw [k1]; rfl⟩
    · obtain ⟨k1, k2⟩ := rnk_an m (m.an.length - 1) (by omega)
      refine ⟨m.q.length + (m.an.length - 1), (hin _ (by rw [ents_len]; omega)).mpr (by rw [k2, List.length_drop]; omega), by rw [k1]; rfl⟩
    · obtain ⟨k1, k2⟩ := rnk_q m (m.q.length - 1) (by omega)
      refine ⟨m.q.length - 1, (hin _ (by rw [ents_len]; omega)).mpr (by rw [k2, List.length_drop]; omega), by rw [k1]; rfl⟩
  · rw [if_neg hc, if_neg]
    rw [List.any_eq_true]
    rintro ⟨x, hx, hl⟩
    have hxN : x < (ents m).length := by
      have := hp.mem_iff.mp (List.mem_of_mem_take hx)
      simpa using this
    have hr := (hin x hxN).mp hx
    rw [ents_len] at hxN
    rcases Nat.lt_or_ge x m.q.length with g | g
    · obtain ⟨_, k2⟩ := rnk_q m x g
      exact hc (.inr (.inr ⟨by omega, by omega⟩))
    · rcases Nat.lt_or_ge x (m.q.length + m.an.length) with g2 | g2
      · obtain ⟨j, rfl⟩ : ∃ j, x = m.q.length + j := ⟨x - m.q.length, by omega⟩
        obtain ⟨_, k2⟩ := rnk_an m j (by omega)
        exact hc (.inr (.inl ⟨by omega, by omega⟩))
      · rcases Nat.lt_or_ge x (m.q.length + m.an.length + m.ns.length) with g3 | g3
        · obtain ⟨j, rfl⟩ : ∃ j, x = m.q.length + m.an.length + j := ⟨x - (m.q.length + m.an.length), by omega⟩
          obtain ⟨_, k2⟩ := rnk_ns m j (by omega)
          exact hc (.inl ⟨by omega, by omega⟩)
        · obtain ⟨j, rfl⟩ : ∃ j, x = m.q.length + m.an.length + m.ns.length + j := ⟨x - (m.q.length + m.an.length + m.ns.length), by omega⟩
          obtain ⟨k1, _⟩ := rnk_ar m j (by omega)
          rw [k1] at hl
          cases isO m.ar[j] <;> simp [late] at hl
theorem gath_mcut (m : Ms) {ord : List Nat} (h : Mrg (kOf (ents m)) ord (List.range (ents m).length).reverse) (n : Nat) :
    gath (fun x => decide (x ∈ ord.take n)) 0 (ents m) ⟨m.id, flG (kOf (ents m)) (ord.take n) m.fl, [], [], [], []⟩ = mcut m n := by
  rw [gath_ents, flG_eq m h]
  have hout := fun x hx => out_rnk h n x hx
  have hl := ents_len m
  have eq : selL (fun x => decide (x ∈ ord.take n)) 0 m.q = m.q.take (m.q.length - (n - (nA m + m.ns.length + m.an.length + nD m))) := by
    rw [selL_kept (f := fun _ t => decide (nA m + m.ns.length + m.an.length + nD m + t.length < n)) (fun j hj => by
      show decide (0 + j ∈ ord.take n) = _
      rw [Nat.zero_add, hout j (by omega), (rnk_q m j hj).2])]
    exact kept_take _ _ _
  have ea : selL (fun x => decide (x ∈ ord.take n)) m.q.length m.an = m.an.take (m.an.length - (n - (nA m + m.ns.length))) := by
    rw [selL_kept (f := fun _ t => decide (nA m + m.ns.length + t.length < n)) (fun j hj => by
      show decide (m.q.length + j ∈ ord.take n) = _
      rw [hout _ (by omega), (rnk_an m j hj).2])]
    exact kept_take _ _ _
  have en : selL (fun x => decide (x ∈ ord.take n)) (m.q.length + m.an.length) m.ns = m.ns.take (m.ns.length - (n - nA m)) := by
    rw [selL_kept (f := fun _ t => decide (nA m + t.length < n)) (fun j hj => by
      show decide (m.q.length + m.an.length + j ∈ ord.take n) = _
      rw [hout _ (by omega), (rnk_ns m j hj).2])]
    exact kept_take _ _ _
  have er : selL (fun x => decide (x ∈ ord.take n)) (m.q.length + m.an.length + m.ns.length) m.ar = (lop nO n m.ar).take ((lop nO n m.ar).length - (n - (nA m + m.ns.length + m.an.length))) := by
    rw [selL_kept (f := fun x t => if isO x = true then decide (nA m + m.ns.length + m.an.length + t.countP isO < n) else decide (t.countP nO < n)) (fun j hj => by
      show decide (m.q.length + m.an.length + m.ns.length + j ∈ ord.take n) = _
      rw [hout _ (by omega), (rnk_ar m j hj).2]
      split <;> rfl)]
    exact kept_ar n _ m.ar (by unfold nA; omega)
  rw [eq, ea, en, er]
  rfl
end Go.Proofs.YteegekpanadmkaaGreat

/-
  How many bytes entries have, one behind the other; records of TypeOPT at the end with the shortest names.
-/
namespace Go.Proofs.YteegekpanadmkaaGreat
open Go.RowKit Go.Shelf
set_option linter.unusedVariables false
set_option linter.unusedSimpArgs false
set_option maxRecDepth 100000

theorem told_two (K : KK) {ls : List (List UInt8)} (h : ls ≠ []) : 2 ≤ (told K ls).length := by
  unfold told
  rw [List.length_append]
  have h1 := restb_pos (K := K) (t := nm (ls.drop (hdn K ls))) (by rw [nm_len]; omega)
  rcases ls with _ | ⟨l, r⟩
  · exact absurd rfl h
  · obtain ⟨k, hk⟩ : ∃ k, hdn K (l :: r) = k := ⟨_, rfl⟩
    rw [hk] at h1 ⊢
    cases k with
    | succ k =>
      rw [List.take_succ_cons]
      have : 0 < (wire (l :: r.take k)).length := by simp [wire]
      omega
    | zero =>
      rw [List.drop_zero]
      have : 2 ≤ (restb K (nm (l :: r))).length := by
        unfold restb
        cases plc K (nm (l :: r)) with
        | some x => simp [pb]
        | none => simp [nm, wire]; omega
      omega

def wrJ (n : Nat) (K : KK) (e : Nat) : It → WR
  | .q x => askW n x.n x.t x.c K e
  | .r x => wrC n x K e
def wrN : List It → Nat → KK → Nat → Option (Nat × KK × Nat)
  | [], n, K, e => some (n, K, e)
  | it :: l, n, K, e => if (wrJ n K e it).code ≠ 0 ∨ 65535 < n + (wrJ n K e it).out.length then none else wrN l (n + (wrJ n K e it).out.length) (wrJ n K e it).K (wrJ n K e it).e
theorem wrN_is : ∀ (l : List It) (b : List UInt8) (K : KK) (e : Nat), (wrIs l b K e).map List.length = (wrN l b.length K e).map (·.1)
  | [], b, K, e => rfl
  | it :: l, b, K, e => by
    have hJ : wrI b K e it = wrJ b.length K e it := by cases it <;> rfl
    rw [wrIs, wrN, hJ, List.length_append]
    split
    · rfl
    · rw [wrN_is l, List.length_append]
theorem wrN_app : ∀ (l l' : List It) (n : Nat) (K : KK) (e : Nat), wrN (l ++ l') n K e = (wrN l n K e).bind fun r => wrN l' r.1 r.2.1 r.2.2
  | [], l', n, K, e => rfl
  | it :: l, l', n, K, e => by
    rw [List.cons_append, wrN, wrN]
    split
    · rfl
    · rw [wrN_app l l']

def Rch (n : Nat) (K : KK) (e : Nat) : Prop := ∃ b P, b.length = n ∧ Inv b K e P
theorem Rch.start : Rch 12 [] 0 := ⟨List.replicate 12 0, [], rfl, by have := Inv.nil.more (List.replicate 12 0); rwa [List.nil_append] at this⟩
theorem Rch.step {n : Nat} {K : KK} {e : Nat} (h : Rch n K e) {it : It} (hx : it.err = 0) (hn : n ≤ 65535) (h0 : (wrJ n K e it).code = 0) : Rch (n + (wrJ n K e it).out.length) (wrJ n K e it).K (wrJ n K e it).e := by
  obtain ⟨b, P, rfl, hI⟩ := h
  have hJ : wrI b K e it = wrJ b.length K e it := by cases it <;> rfl
  obtain ⟨P', h1, _⟩ := wrI_lies hI hx hn (by rw [hJ]; exact h0)
  rw [hJ] at h1
  exact ⟨_, P', by rw [List.length_append], h1⟩
theorem wrN_reach : ∀ {l : List It} {n : Nat} {K : KK} {e : Nat} {r : Nat × KK × Nat}, Rch n K e → n ≤ 65535 → (∀ it ∈ l, it.err = 0) → wrN l n K e = some r → Rch r.1 r.2.1 r.2.2 ∧ n ≤ r.1 ∧ r.1 ≤ 65535
  | [], n, K, e, r, h, hn, _, hr => by
    injection hr with hr; subst hr
    exact ⟨h, Nat.le_refl _, hn⟩
  | it :: l, n, K, e, r, h, hn, hx, hr => by
    rw [wrN] at hr
    split at hr
    · simp at hr
    · rename_i hc
      have h0 : (wrJ n K e it).code = 0 := Classical.byContradiction fun h => hc (.inl h)
      have h1 := h.step (hx it (by simp)) hn h0
      obtain ⟨k1, k2, k3⟩ := wrN_reach h1 (by omega) (fun x hm => hx x (by simp [hm])) hr
      exact ⟨k1, by omega, k3⟩

def rt (x : Rc) : Rc := ⟨[0], x.t, x.c, x.l, x.d⟩
def mor (x : Rc) : Nat := if x.n = [0] then 0 else 1
def mors (l : List Rc) : Nat := (l.map mor).sum
def cst (l : List Rc) : Nat := (l.map fun x => 11 + x.d.length).sum
theorem spl_opt {d : List UInt8} (h : d.length ≤ 65535) : spl 41 d = .ok [(d, false)] := by
  have := spl_of (t := 41) (L := [(d, false)]) (by decide) (by decide) (by simpa [joined] using h) (by
    show Fits [.rst] [(d, false)]
    exact .rst)
  simpa [joined] using this
theorem opt_wr {n : Nat} {K : KK} {e : Nat} (h : Rch n K e) (hn : n ≤ 65535) {x : Rc} (hx : chkC x = 0) (ho : isO x = true) :
    (wrC n x K e).code = 0 ∧ 11 + x.d.length + mor x ≤ (wrC n x K e).out.length ∧ (x.n = [0] → (wrC n x K e).out.length = 11 + x.d.length) := by
  obtain ⟨b, P, rfl, hI⟩ := h
  obtain ⟨hak, l0, l1, hsp⟩ := chkC_ok hx
  obtain ⟨hc, t0, t1, c0, c1⟩ := askE_ok hak
  obtain ⟨ls, hs, hnm, hE, hB, hI1, hst, hle⟩ := name_lies hI hc (by omega)
  have h41 : x.t = 41 := by simpa [isO] using ho
  obtain ⟨L, hL⟩ := code_ok hsp
  have hd := (spl_ok hL).2.2.1
  have hw : wrC b.length x K e = wrT (told K ls) x.t x.c x.l (wrR (b.length + (told K ls).length + 10) x.t x.d (nameK K e b.length x.n) (nameE K e b.length x.n)) := by
    unfold wrC
    rw [if_neg (by simpa using hx), if_neg (by simpa using hE), hB]
  have hR : ∀ a K e, wrR a x.t x.d K e = ⟨x.d, 0, K, e⟩ := fun a K e => by
    unfold wrR
    rw [h41, spl_opt hd]
    rfl
  rw [hR] at hw
  have ho : (wrC b.length x K e).out.length = (told K ls).length + (10 + x.d.length) := by
    rw [hw]; unfold wrT
    rw [if_neg (by simp)]
    simp only [List.length_append, headB_len]
  refine ⟨?_, ?_, fun h0 => ?_⟩
  · rw [hw]; unfold wrT; rw [if_neg (by simp)]
  · rw [ho]
    have hp := told_pos K ls
    unfold mor
    split
    · omega
    · rename_i h0
      have := told_two K (ls := ls) (fun e => h0 (by rw [hnm, e]; rfl))
      omega
  · rw [ho]
    have hp := told_pos K ls
    rw [h0] at hle
    simp at hle
    omega
theorem chkC_rt {x : Rc} (h : chkC x = 0) : chkC (rt x) = 0 := by
  obtain ⟨hak, l0, l1, hsp⟩ := chkC_ok h
  obtain ⟨hc, t0, t1, c0, c1⟩ := askE_ok hak
  have h0 : chk [0] = 0 := by have := shorts_chk (l := []) ⟨fun x h => by simp at h, by simp [wire]⟩; simpa [wire] using this
  have hk : askE [0] x.t x.c = 0 := by unfold askE; rw [if_neg (by rw [h0]; simp), if_neg (by omega)]
  unfold chkC at h ⊢
  show (if askE [0] x.t x.c ≠ 0 then _ else _) = _
  rw [if_neg (by rw [hk]; simp)]
  rw [if_neg (by rw [hak]; simp)] at h
  exact h
theorem opt_least : ∀ {T : List Rc} {n : Nat} {K : KK} {e : Nat} {r : Nat × KK × Nat}, Rch n K e → n ≤ 65535 → (∀ x ∈ T, chkC x = 0 ∧ isO x = true) → wrN (T.map .r) n K e = some r → n + cst T + mors T ≤ r.1
  | [], n, K, e, r, _, _, _, hr => by injection hr with hr; subst hr; simp [cst, mors]
  | x :: T, n, K, e, r, h, hn, hx, hr => by
    obtain ⟨hc, ho⟩ := hx x (by simp)
    obtain ⟨k1, k2, _⟩ := opt_wr h hn hc ho
    rw [List.map_cons, wrN] at hr
    split at hr
    · simp at hr
    · rename_i hb
      have h1 := h.step (it := .r x) hc hn k1
      have ih := opt_least h1 (by omega) (fun y hy => hx y (by simp [hy])) hr
      have e1 : cst (x :: T) = 11 + x.d.length + cst T := by simp [cst]
      have e2 : mors (x :: T) = mor x + mors T := by simp [mors]
      have e3 : (wrJ n K e (.r x)).out.length = (wrC n x K e).out.length := rfl
      omega
theorem opt_just : ∀ {T : List Rc} {n : Nat} {K : KK} {e : Nat}, Rch n K e → n ≤ 65535 → (∀ x ∈ T, chkC x = 0 ∧ isO x = true) →
    (∀ r, wrN ((T.map rt).map .r) n K e = some r → r.1 = n + cst T) ∧ (n + cst T ≤ 65535 → ∃ r, wrN ((T.map rt).map .r) n K e = some r)
  | [], n, K, e, _, _, _ => ⟨fun r hr => by injection hr with hr; subst hr; simp [cst], fun _ => ⟨_, rfl⟩⟩
  | x :: T, n, K, e, h, hn, hx => by
    obtain ⟨hc, ho⟩ := hx x (by simp)
    have hc' := chkC_rt hc
    obtain ⟨k1, _, k2⟩ := opt_wr h hn hc' (show isO (rt x) = true from ho)
    have k2 := k2 rfl
    have e1 : cst (x :: T) = 11 + x.d.length + cst T := by simp [cst]
    have e3 : (wrJ n K e (.r (rt x))).out.length = 11 + x.d.length := k2
    have e4 : (wrJ n K e (.r (rt x))).code = 0 := k1
    by_cases hb : n + (11 + x.d.length) ≤ 65535
    · have h1 := h.step (it := .r (rt x)) hc' hn k1
      obtain ⟨i1, i2⟩ := opt_just (T := T) h1 (by omega) (fun y hy => hx y (by simp [hy]))
      have hw : wrN (((x :: T).map rt).map .r) n K e = wrN ((T.map rt).map .r) (n + (wrJ n K e (.r (rt x))).out.length) (wrJ n K e (.r (rt x))).K (wrJ n K e (.r (rt x))).e := by
        rw [List.map_cons, List.map_cons, wrN, if_neg (by rw [e3, e4]; omega)]
      rw [hw]
      refine ⟨fun r hr => ?_, fun hs => i2 (by omega)⟩
      have := i1 r hr
      omega
    · have hw : wrN (((x :: T).map rt).map .r) n K e = none := by
        rw [List.map_cons, List.map_cons, wrN, if_pos (.inr (by omega))]
      rw [hw]
      exact ⟨fun r hr => by simp at hr, fun hs => by omega⟩
end Go.Proofs.YteegekpanadmkaaGreat

/-
  A message with the shortest names at its end.
-/
namespace Go.Proofs.YteegekpanadmkaaGreat
open Go.RowKit Go.Shelf
set_option linter.unusedVariables false
set_option linter.unusedSimpArgs false
set_option maxRecDepth 100000

def brL : List Rc → List Rc
  | [] => []
  | x :: l => if (x :: l).all isO = true then (x :: l).map rt else x :: brL l
def moL : List Rc → Nat
  | [] => 0
  | x :: l => if (x :: l).all isO = true then mors (x :: l) else moL l
def brM (m : Ms) : Ms := { m with ar := brL m.ar }
theorem br_parts : ∀ (A D : List Rc), D.all isO = true → (∀ A' x, A = A' ++ [x] → isO x = false) → brL (A ++ D) = A ++ D.map rt ∧ moL (A ++ D) = mors D
  | [], [], _, _ => ⟨rfl, rfl⟩
  | [], x :: D, h, _ => by
    constructor
    · show brL (x :: D) = _
      rw [brL, if_pos h]; rfl
    · show moL (x :: D) = _
      rw [moL, if_pos h]
  | x :: A, D, h, h2 => by
    have hx : ((x :: (A ++ D)).all isO) = false := by
      rcases List.eq_nil_or_concat A with rfl | ⟨l, y, rfl⟩
      · have := h2 [] x rfl
        simp [this]
      · have := h2 (x :: l) y (by simp)
        simp [this]
    have ih := br_parts A D h (fun A' y e => h2 (x :: A') y (by rw [e]; rfl))
    constructor
    · show brL (x :: (A ++ D)) = _
      rw [brL, if_neg (by rw [hx]; simp), ih.1]; rfl
    · show moL (x :: (A ++ D)) = _
      rw [moL, if_neg (by rw [hx]; simp), ih.2]
theorem br_split : ∀ (l : List Rc), ∃ A D, l = A ++ D ∧ D.all isO = true ∧ ∀ A' x, A = A' ++ [x] → isO x = false
  | [] => ⟨[], [], rfl, rfl, fun A' x h => by simp at h⟩
  | x :: l => by
    obtain ⟨A, D, rfl, hD, hA⟩ := br_split l
    by_cases hx : A = [] ∧ isO x = true
    · obtain ⟨rfl, hx⟩ := hx
      exact ⟨[], x :: D, rfl, by simp [hx]; simpa using hD, fun A' x h => by simp at h⟩
    · refine ⟨x :: A, D, rfl, hD, fun A' y h => ?_⟩
      cases A' with
      | nil =>
        simp at h
        obtain ⟨rfl, rfl⟩ := h
        have : ¬ isO x = true := fun h => hx ⟨rfl, h⟩
        simpa using this
      | cons z A' =>
        simp at h
        exact hA A' y h.2
end Go.Proofs.YteegekpanadmkaaGreat

/-
  A message's bytes, and whether they are few enough.
-/
namespace Go.Proofs.YteegekpanadmkaaGreat
open Go.RowKit Go.Shelf
set_option linter.unusedVariables false
set_option linter.unusedSimpArgs false
set_option maxRecDepth 100000

theorem wrM_how (m : Ms) : (∃ z, wrM m = (some z, 0)) ∨ ∃ e, wrM m = (none, e) ∧ e ≠ 0 := by
  unfold wrM
  by_cases h : chkM m = 0
  · rw [if_neg (by simpa using h)]
    rcases wrIs m.its (headM m) [] 0 with _ | z
    · exact .inr ⟨3, rfl, by decide⟩
    · exact .inl ⟨z, rfl⟩
  · rw [if_pos h]
    exact .inr ⟨_, rfl, h⟩
def fitW (m : Ms) (size : Int) : Bool := match (wrM m).1 with | some z => decide ((wrM m).2 = 0) && decide ((z.length : Int) ≤ size) | none => false
def WtPost (w : World) (m : Ms) (size : Int) (e : Ending) (w' : World) : Prop := ∃ v, e = .returned (.tuple #[v, .bool (fitW m size)]) ∧ Below w.heap.size w w' ∧ (fitW m size = true → ∃ z, wrM m = (some z, 0) ∧ OwnB w' w.heap.size v z)

set_option maxHeartbeats 2000000 in
theorem written_any {w : World} {hi : Nat} {u : Value} {m : Ms} (h : Mg w hi u m) (h1 : hi ≤ w.heap.size) (hf : m.Fine) (hn : m.q.length + m.an.length + m.ns.length + m.ar.length ≤ 1100) (size : Int) :
    Calls Tryz.prog 35 #[u, .int .i64 size] w (WtPost w m size) := by
  have hmg := h
  obtain ⟨q, a, n, r, rfl, hq, ha, hn2, hr⟩ := h
  obtain ⟨qa, qc, rfl⟩ := Lst.shape hq
  obtain ⟨aa, ac, rfl⟩ := Lst.shape ha
  obtain ⟨na, nc, rfl⟩ := Lst.shape hn2
  obtain ⟨ra, rc, rfl⟩ := Lst.shape hr
  obtain ⟨i0, hi0⟩ : ∃ i, m.id = i := ⟨_, rfl⟩
  obtain ⟨f0, hf0⟩ : ∃ i, m.fl = i := ⟨_, rfl⟩
  obtain ⟨lq, hlq⟩ : ∃ i, m.q.length = i := ⟨_, rfl⟩
  obtain ⟨la, hla⟩ : ∃ i, m.an.length = i := ⟨_, rfl⟩
  obtain ⟨ln, hln⟩ : ∃ i, m.ns.length = i := ⟨_, rfl⟩
  obtain ⟨lr, hlr⟩ : ∃ i, m.ar.length = i := ⟨_, rfl⟩
  rw [hi0, hf0, hlq, hla, hln, hlr] at hmg ⊢
  have hb : Below w.heap.size w (w.alloc (.cells #[.int .i64 i0, .int .i64 f0, .slice qa lq qc, .slice aa la ac, .slice na ln nc, .slice ra lr rc] 25)) := (Below.refl _ _).alloc (Nat.le_refl _) _
  have HC := Lib.hid (writeM_any ((hmg.wide h1).later hb) (Nat.le_refl _) hf hn)
  have HB := Lib.hid hb
  clear hmg hq ha hn2 hr hi0 hf0 hlq hla hln hlr hb
  go_enter Tryz.func35, Tryz.ntmps35
  go_wp2_with fail
  refine HC.out.mono ?_; rintro e wb ⟨v, rfl, ho, hb⟩
  have HB2 := Lib.hid (bel_call HB.out hb)
  rcases wrM_how m with ⟨z, hz⟩ | ⟨c, hz, hc⟩
  · rw [hz] at ho ⊢
    have ho : OwnB wb _ v z := ho
    have hfit : fitW m size = decide ((z.length : Int) ≤ size) := by unfold fitW; rw [hz]; simp
    have HO := Lib.hid (show ∃ z, wrM m = (some z, 0) ∧ OwnB wb w.heap.size v z from ⟨z, hz, OwnB.mono ho (by simp)⟩)
    have hsh : ∃ a c, v = .slice a z.length c := by
      rcases ho with ⟨rfl, rfl⟩ | ⟨g, cap, fz, rfl, _⟩
      · exact ⟨none, 0, rfl⟩
      · exact ⟨_, _, rfl⟩
    obtain ⟨va, vc, rfl⟩ := hsh
    have HF := Lib.hid hfit
    obtain ⟨L, hL⟩ : ∃ k, z.length = k := ⟨_, rfl⟩
    rw [hL] at HF HO ⊢
    clear ho hb hz hfit hL HC HB
    by_cases hs : (L : Int) ≤ size
    · go_wp2_with fail
      go_ret2
      exact ⟨.slice va L vc, by rw [HF.out]; simp [hs], HB2.out, fun _ => HO.out⟩
    · have hd : decide ((L : Int) ≤ size) = false := by simpa using hs
      go_wp2_with fail
      go_ret2
      exact ⟨.slice va L vc, by rw [HF.out, hd]; rfl, HB2.out, fun _ => HO.out⟩
  · rw [hz] at ho ⊢
    have ho : OwnB wb _ v [] := ho
    have hsh : ∃ a k c, v = .slice a k c := by
      rcases ho with ⟨rfl, _⟩ | ⟨g, cap, fz, rfl, _⟩
      · exact ⟨none, 0, 0, rfl⟩
      · exact ⟨_, _, _, rfl⟩
    obtain ⟨va, vk, vc, rfl⟩ := hsh
    have HF := Lib.hid (show fitW m size = false by unfold fitW; rw [hz])
    have hc2 : (c == 0) = false := by simpa using hc
    have hc3 : decide (c = 0) = false := by simpa using hc
    clear ho hb hz HC HB
    go_wp2_with fail
    go_ret2
    exact ⟨.slice va vk vc, by rw [HF.out]; rfl, HB2.out, fun h => by rw [HF.out] at h; cases h⟩
end Go.Proofs.YteegekpanadmkaaGreat

/-
  A message with one entry less; with which fewest left out it fits.
-/
namespace Go.Proofs.YteegekpanadmkaaGreat
open Go.RowKit Go.Shelf
set_option linter.unusedVariables false
set_option linter.unusedSimpArgs false
set_option maxRecDepth 100000

def totM (m : Ms) : Nat := m.q.length + m.an.length + m.ns.length + m.ar.length
def lessM (m : Ms) : Ms × Bool :=
  if 0 < nA m then ({ m with ar := lop nO 1 m.ar }, false)
  else if 0 < m.ns.length then ({ m with ns := m.ns.take (m.ns.length - 1) }, true)
  else if 0 < m.an.length then ({ m with an := m.an.take (m.an.length - 1) }, true)
  else if 0 < nD m then ({ m with ar := lop isO 1 m.ar }, false)
  else ({ m with q := m.q.take (m.q.length - 1) }, true)
def stepM (m : Ms) : Ms := if (lessM m).2 = true then { (lessM m).1 with fl := tcG (lessM m).1.fl } else (lessM m).1
theorem cut_zero (m : Ms) : mcut m 0 = m := by
  unfold mcut
  rw [if_neg (by omega), lop_zero]
  simp
theorem nA_len (m : Ms) : nA m ≤ m.ar.length := List.countP_le_length
theorem filt_isO (l : List Rc) : l.filter (fun x => !nO x) = l.filter isO := by
  congr 1; funext x; unfold nO; simp
theorem cut_ar_lo (m : Ms) (n : Nat) (h : n ≤ nA m + m.ns.length + m.an.length) : (mcut m n).ar = lop nO n m.ar := by
  show (lop nO n m.ar).take _ = _
  exact take_eq_self _ _ (by omega)
theorem cut_ar_hi (m : Ms) (n : Nat) (h : nA m ≤ n) : (mcut m n).ar = (m.ar.filter isO).take ((m.ar.filter isO).length - (n - (nA m + m.ns.length + m.an.length))) := by
  show (lop nO n m.ar).take _ = _
  rw [lop_all nO n m.ar h, filt_isO]
theorem filt_len (m : Ms) : (m.ar.filter isO).length = nD m := by unfold nD; rw [List.countP_eq_length_filter]
theorem lop_full {l : List Rc} (h : ∀ x ∈ l, isO x = true) : lop isO 1 l = l.take (l.length - 1) := by
  have h1 := lop_filter isO 1 l
  have e1 : l.filter isO = l := List.filter_eq_self.mpr h
  have e2 : (lop isO 1 l).filter isO = lop isO 1 l := List.filter_eq_self.mpr fun x hx => h x (lop_mem _ _ _ hx)
  rw [e1, e2, List.countP_eq_length.mpr (fun x hx => h x hx)] at h1
  exact h1
theorem cut_step (m : Ms) (n : Nat) (hn : n < totM m) (f0 : 0 ≤ m.fl) (f1 : m.fl ≤ 65535) : mcut m (n + 1) = stepM (mcut m n) := by
  have hAD := nA_nD m
  unfold totM at hn
  by_cases c1 : n < nA m
  · have har := cut_ar_lo m n (by omega)
    have har1 := cut_ar_lo m (n + 1) (by omega)
    have hcnt : nA (mcut m n) = nA m - n := by unfold nA; rw [har, lop_count]
    have hL : lessM (mcut m n) = ({ mcut m n with ar := lop nO 1 (mcut m n).ar }, false) := by unfold lessM; rw [if_pos (by omega)]
    unfold stepM
    rw [hL, if_neg (by simp)]
    simp only
    rw [har, lop_one, ← har1]
    unfold mcut
    simp only
    rw [if_neg (by omega), if_neg (by omega), show n + 1 - (nA m + m.ns.length + m.an.length + nD m) = n - (nA m + m.ns.length + m.an.length + nD m) by omega, show n + 1 - (nA m + m.ns.length) = n - (nA m + m.ns.length) by omega, show n + 1 - nA m = n - nA m by omega]
  · have har := cut_ar_hi m n (by omega)
    have hall : ∀ x ∈ (mcut m n).ar, isO x = true := fun x hx => by
      rw [har] at hx
      exact (List.mem_filter.mp (List.mem_of_mem_take hx)).2
    have hcnt : nA (mcut m n) = 0 := by
      unfold nA
      rw [List.countP_eq_zero]
      intro x hx
      simp [nO, hall x hx]
    have hlop : lop nO (n + 1) m.ar = lop nO n m.ar := by rw [lop_all nO n m.ar (by unfold nA at c1; omega), lop_all nO (n + 1) m.ar (by unfold nA at c1; omega)]
    have hns : (mcut m n).ns = m.ns.take (m.ns.length - (n - nA m)) := rfl
    have han : (mcut m n).an = m.an.take (m.an.length - (n - (nA m + m.ns.length))) := rfl
    have hq : (mcut m n).q = m.q.take (m.q.length - (n - (nA m + m.ns.length + m.an.length + nD m))) := rfl
    have hnl : (mcut m n).ns.length = m.ns.length - (n - nA m) := by rw [hns, List.length_take]; omega
    have hal : (mcut m n).an.length = m.an.length - (n - (nA m + m.ns.length)) := by rw [han, List.length_take]; omega
    have hql : (mcut m n).q.length = m.q.length - (n - (nA m + m.ns.length + m.an.length + nD m)) := by rw [hq, List.length_take]; omega
    have hdl : nD (mcut m n) = nD m - (n - (nA m + m.ns.length + m.an.length)) := by
      unfold nD
      rw [List.countP_eq_length.mpr hall, har, List.length_take, filt_len]
      unfold nD; omega
    unfold stepM
    by_cases c2 : n < nA m + m.ns.length
    · have hL : lessM (mcut m n) = ({ mcut m n with ns := (mcut m n).ns.take ((mcut m n).ns.length - 1) }, true) := by unfold lessM; rw [if_neg (by omega), if_pos (by omega)]
      rw [hL, if_pos rfl]
      simp only
      rw [hnl, hns, List.take_take]
      unfold mcut
      simp only
      rw [if_pos (by omega), hlop, show n + 1 - (nA m + m.ns.length + m.an.length + nD m) = n - (nA m + m.ns.length + m.an.length + nD m) by omega, show n + 1 - (nA m + m.ns.length) = n - (nA m + m.ns.length) by omega, show n + 1 - (nA m + m.ns.length + m.an.length) = n - (nA m + m.ns.length + m.an.length) by omega,
        show min (m.ns.length - (n - nA m) - 1) (m.ns.length - (n - nA m)) = m.ns.length - (n + 1 - nA m) by omega]
      split
      · rw [tcG_twice f0 f1]
      · rfl
    · by_cases c3 : n < nA m + m.ns.length + m.an.length
      · have hL : lessM (mcut m n) = ({ mcut m n with an := (mcut m n).an.take ((mcut m n).an.length - 1) }, true) := by unfold lessM; rw [if_neg (by omega), if_neg (by omega), if_pos (by omega)]
        rw [hL, if_pos rfl]
        simp only
        rw [hal, han, List.take_take]
        unfold mcut
        simp only
        rw [if_pos (by omega), hlop, show n + 1 - (nA m + m.ns.length + m.an.length + nD m) = n - (nA m + m.ns.length + m.an.length + nD m) by omega, show n + 1 - (nA m + m.ns.length + m.an.length) = n - (nA m + m.ns.length + m.an.length) by omega,
          show min (m.an.length - (n - (nA m + m.ns.length)) - 1) (m.an.length - (n - (nA m + m.ns.length))) = m.an.length - (n + 1 - (nA m + m.ns.length)) by omega,
          show m.ns.length - (n + 1 - nA m) = m.ns.length - (n - nA m) by omega]
        split
        · rw [tcG_twice f0 f1]
        · rfl
      · by_cases c4 : n < nA m + m.ns.length + m.an.length + nD m
        · have hL : lessM (mcut m n) = ({ mcut m n with ar := lop isO 1 (mcut m n).ar }, false) := by unfold lessM; rw [if_neg (by omega), if_neg (by omega), if_neg (by omega), if_pos (by omega)]
          rw [hL, if_neg (by simp)]
          simp only
          rw [lop_full hall, har, List.length_take, List.take_take, filt_len]
          have har1 := cut_ar_hi m (n + 1) (by omega)
          rw [filt_len] at har1
          rw [show min (min (nD m - (n - (nA m + m.ns.length + m.an.length))) (nD m) - 1) (nD m - (n - (nA m + m.ns.length + m.an.length))) = nD m - (n + 1 - (nA m + m.ns.length + m.an.length)) by omega, ← har1]
          unfold mcut
          simp only
          rw [show n + 1 - (nA m + m.ns.length + m.an.length + nD m) = n - (nA m + m.ns.length + m.an.length + nD m) by omega, show m.an.length - (n + 1 - (nA m + m.ns.length)) = m.an.length - (n - (nA m + m.ns.length)) by omega, show m.ns.length - (n + 1 - nA m) = m.ns.length - (n - nA m) by omega]
          congr 1
          by_cases hc : (nA m < n ∧ 0 < m.ns.length) ∨ (nA m + m.ns.length < n ∧ 0 < m.an.length) ∨ (nA m + m.ns.length + m.an.length + nD m < n ∧ 0 < m.q.length)
          · rw [if_pos hc, if_pos (by omega)]
          · rw [if_neg hc, if_neg (by omega)]
        · have hL : lessM (mcut m n) = ({ mcut m n with q := (mcut m n).q.take ((mcut m n).q.length - 1) }, true) := by unfold lessM; rw [if_neg (by omega), if_neg (by omega), if_neg (by omega), if_neg (by omega)]
          rw [hL, if_pos rfl]
          simp only
          rw [hql, hq, List.take_take]
          have har1 := cut_ar_hi m (n + 1) (by omega)
          rw [filt_len] at har1 har
          rw [show nD m - (n + 1 - (nA m + m.ns.length + m.an.length)) = nD m - (n - (nA m + m.ns.length + m.an.length)) by omega, ← har] at har1
          unfold mcut at har1 ⊢
          simp only at har1 ⊢
          rw [har1, if_pos (by omega), show m.an.length - (n + 1 - (nA m + m.ns.length)) = m.an.length - (n - (nA m + m.ns.length)) by omega, show m.ns.length - (n + 1 - nA m) = m.ns.length - (n - nA m) by omega,
            show min (m.q.length - (n - (nA m + m.ns.length + m.an.length + nD m)) - 1) (m.q.length - (n - (nA m + m.ns.length + m.an.length + nD m))) = m.q.length - (n + 1 - (nA m + m.ns.length + m.an.length + nD m)) by omega]
          split
          · rw [tcG_twice f0 f1]
          · rfl
end Go.Proofs.YteegekpanadmkaaGreat
