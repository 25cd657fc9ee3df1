/-
  Messages that came in.
-/
import Derived.Test.YtpdaekgldgoalaaGreatV09
import Derived.SizedLaws
import Derived.Test.YtpdaekgldgoalaaGreatV19
import Derived.Test.YtpdaekgldgoalaaGreatV15
import Derived.BigQuiet
import Derived.Test.YtpdaekgldgoalaaGreatV10
import Derived.Test.YtpdaekgldgoalaaGreatV12
namespace Go.Proofs.YtpdaekgldgoalaaGreat
open Go.RowKit Go.Shelf
set_option linter.unusedVariables false
set_option linter.unusedSimpArgs false
set_option maxRecDepth 100000

theorem flat_of {α : Type} {f : α → List Value} {k : Nat} (hf : ∀ x, (f x).length = k) : ∀ (l : List α) (i : Nat) (u : Value), (l.flatMap f)[i]? = some u → ∃ j r, ∃ h : j < l.length, i = j * k + r ∧ (f l[j])[r]? = some u
  | [], i, u, h => by simp at h
  | x :: l, i, u, h => by
    rw [List.flatMap_cons] at h
    by_cases hi : i < k
    · rw [List.getElem?_append_left (by rw [hf]; exact hi)] at h
      exact ⟨0, i, by simp, by omega, h⟩
    · rw [List.getElem?_append_right (by rw [hf]; omega), hf] at h
      obtain ⟨j, r, h1, h2, h3⟩ := flat_of hf l _ u h
      exact ⟨j + 1, r, by simpa using h1, by rw [Nat.add_mul]; omega, h3⟩

/-- What is known of a slice of questions, of records that came in. -/
def IsQs (w : World) (a : Option Addr) (len cap : Nat) : Prop :=
  (a = none ∧ len = 0 ∧ cap = 0) ∨ ∃ x, a = some x ∧ ∀ i, i < len → ∃ (s : ByteArray) (t c : Int), w.cell? (x.add (i * 3)) = some (.string s) ∧ w.cell? (x.add (i * 3 + 1)) = some (.int .i64 t) ∧ w.cell? (x.add (i * 3 + 2)) = some (.int .i64 c)
def IsRs (w : World) (a : Option Addr) (len cap : Nat) : Prop :=
  (a = none ∧ len = 0 ∧ cap = 0) ∨ ∃ x, a = some x ∧ ∀ i, i < len → ∃ (s : ByteArray) (t c l : Int) (d : ByteArray), w.cell? (x.add (i * 5)) = some (.string s) ∧ w.cell? (x.add (i * 5 + 1)) = some (.int .i64 t) ∧ w.cell? (x.add (i * 5 + 2)) = some (.int .i64 c) ∧ w.cell? (x.add (i * 5 + 3)) = some (.int .i64 l) ∧ w.cell? (x.add (i * 5 + 4)) = some (.string d)

theorem cells_qn : Tryz.prog.cellsOf 55 = 3 := by kernel_rfl
theorem cells_msg : Tryz.prog.cellsOf 25 = 6 := by kernel_rfl
theorem cells_sqn : Tryz.prog.cellsOf 22 = 1 := by kernel_rfl
theorem cells_src : Tryz.prog.cellsOf 23 = 1 := by kernel_rfl
theorem bytes_qn : Tryz.prog.bytesOf 55 = 32 := by kernel_rfl
theorem bytes_rc : Tryz.prog.bytesOf 52 = 56 := by kernel_rfl

theorem open_qn {H : Type} {enc : TypeId × Value → H} {w : World} {base fuel : Nat} {spare : Nat → Bool} {held : Bool} {cs : List Value} {x : DataW H × List MemPlace}
    (h : DataW.trod enc Tryz.prog w base spare held fuel 55 cs = some x) (hl : cs.length = 3) : ∃ (s : ByteArray) (t c : Int), cs = [.string s, .int .i64 t, .int .i64 c] := by
  cases fuel with
  | zero => simp [DataW.trod] at h
  | succ fuel =>
    obtain ⟨xs, k, _, _, _, h9, h10⟩ := DataW.trod_struct Tryz.underlying55 h
    match cs, hl with
    | [v0, v1, v2], _ =>
      have g0 := h10 0 _ rfl
      have g1 := h10 1 _ rfl
      have g2 := h10 2 _ rfl
      match xs, h9 with
      | [y0, y1, y2], _ =>
        simp [cellsC_str, cellsC_int] at g0 g1 g2
        obtain ⟨s, k0, _, _⟩ := DataW.trod_string Tryz.underlying9 g0
        obtain ⟨t, k1, _, _⟩ := DataW.trod_int Tryz.underlying3 g1
        obtain ⟨c, k2, _, _⟩ := DataW.trod_int Tryz.underlying3 g2
        injection k0 with k0 _
        injection k1 with k1 _
        injection k2 with k2 _
        subst k0; subst k1; subst k2
        exact ⟨s, t, c, rfl⟩

theorem open_qs {H : Type} {enc : TypeId × Value → H} {w : World} {base fuel : Nat} {spare : Nat → Bool} {held : Bool} {cs : List Value} {x : DataW H × List MemPlace}
    (h : DataW.trod enc Tryz.prog w base spare held fuel 22 cs = some x) (hw : ∀ n ∈ x.1.weights Tryz.prog 22, n ≤ reachBytes) :
    ∃ a len cap, cs = [.slice a len cap] ∧ IsQs w a len cap ∧ len ≤ 140737488351232 := by
  rcases Deep.open_slice Tryz.underlying22 h with ⟨h1, _⟩ | ⟨b, l, c, m, n, D, Pl, h1, _, h2, _, h3, h5, h4⟩
  · exact ⟨none, 0, 0, h1, .inl ⟨rfl, rfl, rfl⟩, by omega⟩
  · have hm : l ≤ m := by rw [h3]; split <;> omega
    refine ⟨some b, l, c, h1, .inr ⟨b, rfl, fun i hi => ?_⟩, ?_⟩
    · obtain ⟨cs', h6, h7⟩ := h4 i (by omega)
      rw [cells_qn] at h6
      obtain ⟨_, h8, h9⟩ := World.cells?_some h6
      obtain ⟨s, t, c, rfl⟩ := open_qn h7 h8
      have c0 := h9 0 (by omega)
      have c1 := h9 1 (by omega)
      have c2 := h9 2 (by omega)
      rw [Deep.add_add] at c0 c1 c2
      exact ⟨s, t, c, by simpa using c0, by simpa using c1, by simpa using c2⟩
    · have := hw ((l + (m - l)) * 32) (by rw [h5]; simp [DataW.weights, Tryz.underlying22, bytes_qn])
      unfold reachBytes at this
      omega
theorem open_rs {H : Type} {enc : TypeId × Value → H} {w : World} {base fuel : Nat} {spare : Nat → Bool} {held : Bool} {cs : List Value} {x : DataW H × List MemPlace}
    (h : DataW.trod enc Tryz.prog w base spare held fuel 23 cs = some x) (hw : ∀ n ∈ x.1.weights Tryz.prog 23, n ≤ reachBytes) :
    ∃ a len cap, cs = [.slice a len cap] ∧ IsRs w a len cap ∧ len ≤ 140737488351232 := by
  rcases Deep.open_slice Tryz.underlying23 h with ⟨h1, _⟩ | ⟨b, l, c, m, n, D, Pl, h1, _, h2, _, h3, h5, h4⟩
  · exact ⟨none, 0, 0, h1, .inl ⟨rfl, rfl, rfl⟩, by omega⟩
  · have hm : l ≤ m := by rw [h3]; split <;> omega
    refine ⟨some b, l, c, h1, .inr ⟨b, rfl, fun i hi => ?_⟩, ?_⟩
    · obtain ⟨cs', h6, h7⟩ := h4 i (by omega)
      rw [cells_rec] at h6
      obtain ⟨_, h8, h9⟩ := World.cells?_some h6
      obtain ⟨s, t, c, tl, d, rfl⟩ := open_rec h7 h8
      have c0 := h9 0 (by omega)
      have c1 := h9 1 (by omega)
      have c2 := h9 2 (by omega)
      have c3 := h9 3 (by omega)
      have c4 := h9 4 (by omega)
      rw [Deep.add_add] at c0 c1 c2 c3 c4
      exact ⟨s, t, c, tl, d, by simpa using c0, by simpa using c1, by simpa using c2, by simpa using c3, by simpa using c4⟩
    · have := hw ((l + (m - l)) * 56) (by rw [h5]; simp [DataW.weights, Tryz.underlying23, bytes_rc])
      unfold reachBytes at this
      omega

/-- Such slices as questions, as records. -/
theorem qs_of {w : World} {a : Option Addr} {len cap : Nat} (h : IsQs w a len cap) (hl : len ≤ 140737488351232) : ∃ l : List Qn, SQ w w.heap.size (.slice a len cap) l := by
  rcases h with ⟨rfl, rfl, rfl⟩ | ⟨x, rfl, hx⟩
  · exact ⟨[], Lst.nil _ _⟩
  · have hch : ∀ n, n ≤ len → ∃ l : List Qn, l.length = n ∧ ∀ i (h : i < l.length), w.cell? (x.add (i * 3)) = some (.string (bs l[i].n)) ∧ w.cell? (x.add (i * 3 + 1)) = some (.int .i64 l[i].t) ∧ w.cell? (x.add (i * 3 + 2)) = some (.int .i64 l[i].c) := by
      intro n
      induction n with
      | zero => intro _; exact ⟨[], rfl, fun i h => by simp at h⟩
      | succ n ih =>
        intro hn
        obtain ⟨l, h1, h2⟩ := ih (by omega)
        obtain ⟨s, t, c, c0, c1, c2⟩ := hx n (by omega)
        refine ⟨l ++ [⟨s.data.toList, t, c⟩], by simp [h1], fun i hi => ?_⟩
        rw [List.length_append, List.length_singleton] at hi
        by_cases e : i < l.length
        · rw [List.getElem_append_left e]; exact h2 i e
        · have : i = l.length := by omega
          subst this
          rw [List.getElem_append_right (Nat.le_refl _)]
          simp only [Nat.sub_self, List.getElem_cons_zero]
          rw [h1, ← bs_eta]
          exact ⟨c0, c1, c2⟩
    obtain ⟨l, h1, h2⟩ := hch len (Nat.le_refl _)
    refine ⟨l, some x, cap, by rw [h1], by omega, fun h => by simp at h, fun h0 => ?_⟩
    obtain ⟨b, off, spot⟩ := x
    have c0 := (h2 0 h0).1
    have hspot : spot = none := by simpa [Addr.add] using World.cell?_spot c0
    subst hspot
    have hlt : b < w.heap.size := by
      rw [WideShapes.add_plain] at c0
      exact World.block_lt_of_cell? w _ c0
    refine ⟨b, off, rfl, hlt, fun i u hu => ?_⟩
    obtain ⟨j, r, hj, rfl, hr⟩ := flat_of (f := cq) (k := 3) (fun _ => rfl) l i u hu
    obtain ⟨c0, c1, c2⟩ := h2 j hj
    rw [WideShapes.add_plain] at c0 c1 c2
    match r, hr with
    | 0, hr => simp [cq] at hr; subst hr; exact c0
    | 1, hr => simp [cq] at hr; subst hr; exact c1
    | 2, hr => simp [cq] at hr; subst hr; exact c2
    | r + 3, hr => simp [cq] at hr
theorem rs_of {w : World} {a : Option Addr} {len cap : Nat} (h : IsRs w a len cap) (hl : len ≤ 140737488351232) : ∃ l : List Rc, SR w w.heap.size (.slice a len cap) l := by
  rcases h with ⟨rfl, rfl, rfl⟩ | ⟨x, rfl, hx⟩
  · exact ⟨[], Lst.nil _ _⟩
  · have hch : ∀ n, n ≤ len → ∃ l : List Rc, l.length = n ∧ ∀ i (h : i < l.length), w.cell? (x.add (i * 5)) = some (.string (bs l[i].n)) ∧ w.cell? (x.add (i * 5 + 1)) = some (.int .i64 l[i].t) ∧ w.cell? (x.add (i * 5 + 2)) = some (.int .i64 l[i].c) ∧ w.cell? (x.add (i * 5 + 3)) = some (.int .i64 l[i].l) ∧ w.cell? (x.add (i * 5 + 4)) = some (.string (bs l[i].d)) := by
      intro n
      induction n with
      | zero => intro _; exact ⟨[], rfl, fun i h => by simp at h⟩
      | succ n ih =>
        intro hn
        obtain ⟨l, h1, h2⟩ := ih (by omega)
        obtain ⟨s, t, c, tl, d, c0, c1, c2, c3, c4⟩ := hx n (by omega)
        refine ⟨l ++ [⟨s.data.toList, t, c, tl, d.data.toList⟩], by simp [h1], fun i hi => ?_⟩
        rw [List.length_append, List.length_singleton] at hi
        by_cases e : i < l.length
        · rw [List.getElem_append_left e]; exact h2 i e
        · have : i = l.length := by omega
          subst this
          rw [List.getElem_append_right (Nat.le_refl _)]
          simp only [Nat.sub_self, List.getElem_cons_zero]
          rw [h1, ← bs_eta, ← bs_eta]
          exact ⟨c0, c1, c2, c3, c4⟩
    obtain ⟨l, h1, h2⟩ := hch len (Nat.le_refl _)
    refine ⟨l, some x, cap, by rw [h1], by omega, fun h => by simp at h, fun h0 => ?_⟩
    obtain ⟨b, off, spot⟩ := x
    have c0 := (h2 0 h0).1
    have hspot : spot = none := by simpa [Addr.add] using World.cell?_spot c0
    subst hspot
    have hlt : b < w.heap.size := by
      rw [WideShapes.add_plain] at c0
      exact World.block_lt_of_cell? w _ c0
    refine ⟨b, off, rfl, hlt, fun i u hu => ?_⟩
    obtain ⟨j, r, hj, rfl, hr⟩ := flat_of (f := cr) (k := 5) (fun _ => rfl) l i u hu
    obtain ⟨c0, c1, c2, c3, c4⟩ := h2 j hj
    rw [WideShapes.add_plain] at c0 c1 c2 c3 c4
    match r, hr with
    | 0, hr => simp [cr] at hr; subst hr; exact c0
    | 1, hr => simp [cr] at hr; subst hr; exact c1
    | 2, hr => simp [cr] at hr; subst hr; exact c2
    | 3, hr => simp [cr] at hr; subst hr; exact c3
    | 4, hr => simp [cr] at hr; subst hr; exact c4
    | r + 5, hr => simp [cr] at hr

/-- A message that came in reads as one. -/
theorem open_msg {H : Type} {enc : TypeId × Value → H} {w : World} {base fuel : Nat} {spare : Nat → Bool} {held : Bool} {cs : Array Value} {x : DataW H × List MemPlace}
    (h : DataW.trod enc Tryz.prog w base spare held fuel 25 cs.toList = some x) (hl : cs.size = 6) (hw : ∀ n ∈ x.1.weights Tryz.prog 25, n ≤ reachBytes) : ∃ m : Ms, Mg w w.heap.size (.agg cs) m := by
  obtain ⟨cs⟩ := cs
  simp only [List.size_toArray] at hl
  cases fuel with
  | zero => simp [DataW.trod] at h
  | succ fuel =>
    obtain ⟨xs, k, _, h8, _, h9, h10⟩ := DataW.trod_struct Tryz.underlying25 h
    match cs, hl with
    | [v0, v1, v2, v3, v4, v5], _ =>
      have g0 := h10 0 _ rfl
      have g1 := h10 1 _ rfl
      have g2 := h10 2 _ rfl
      have g3 := h10 3 _ rfl
      have g4 := h10 4 _ rfl
      have g5 := h10 5 _ rfl
      match xs, h9 with
      | [y0, y1, y2, y3, y4, y5], _ =>
        simp [cellsC_int, cells_sqn, cells_src] at g0 g1 g2 g3 g4 g5
        have hw2 : ∀ n, (n ∈ y2.1.weights Tryz.prog 22 ∨ n ∈ y3.1.weights Tryz.prog 23 ∨ n ∈ y4.1.weights Tryz.prog 23 ∨ n ∈ y5.1.weights Tryz.prog 23) → n ≤ reachBytes := fun n hn => hw n (by
          rw [h8]
          simp only [List.map_cons, List.map_nil, DataW.weights, Tryz.underlying25, List.toList_toArray, DataW.weightsEach, List.mem_append, List.not_mem_nil, or_false]
          rcases hn with h | h | h | h <;> simp [h])
        obtain ⟨i, k0, _, _⟩ := DataW.trod_int Tryz.underlying3 g0
        obtain ⟨f, k1, _, _⟩ := DataW.trod_int Tryz.underlying3 g1
        obtain ⟨qa, ql, qc, k2, q1, q2⟩ := open_qs g2 (fun n hn => hw2 n (.inl hn))
        obtain ⟨aa, al, ac, k3, a1, a2⟩ := open_rs g3 (fun n hn => hw2 n (.inr (.inl hn)))
        obtain ⟨na, nl, nc, k4, n1, n2⟩ := open_rs g4 (fun n hn => hw2 n (.inr (.inr (.inl hn))))
        obtain ⟨ra, rl, rc, k5, r1, r2⟩ := open_rs g5 (fun n hn => hw2 n (.inr (.inr (.inr hn))))
        injection k0 with k0 _
        injection k1 with k1 _
        injection k2 with k2 _
        injection k3 with k3 _
        injection k4 with k4 _
        injection k5 with k5 _
        subst k0; subst k1; subst k2; subst k3; subst k4; subst k5
        obtain ⟨lq, h1⟩ := qs_of q1 q2
        obtain ⟨la, h2⟩ := rs_of a1 a2
        obtain ⟨ln, h3⟩ := rs_of n1 n2
        obtain ⟨lr, h4⟩ := rs_of r1 r2
        exact ⟨⟨i, f, lq, la, ln, lr⟩, _, _, _, _, rfl, h1, h2, h3, h4⟩
end Go.Proofs.YtpdaekgldgoalaaGreat

/-
  A message that came in, and that its last list has no less room than entries.
-/
namespace Go.Proofs.YtpdaekgldgoalaaGreat
open Go.RowKit Go.Shelf
set_option linter.unusedVariables false
set_option linter.unusedSimpArgs false
set_option maxRecDepth 100000

theorem open_room {H : Type} {enc : TypeId × Value → H} {w : World} {base fuel : Nat} {spare : Nat → Bool} {held : Bool} {cs : Array Value} {x : DataW H × List MemPlace}
    (h : DataW.trod enc Tryz.prog w base spare held fuel 25 cs.toList = some x) (hl : cs.size = 6) : ∃ i f q a s ra rn rc, Value.agg cs = .agg #[i, f, q, a, s, .slice ra rn rc] ∧ rn ≤ rc := by
  obtain ⟨cs⟩ := cs
  simp only [List.size_toArray] at hl
  cases fuel with
  | zero => simp [DataW.trod] at h
  | succ fuel =>
    obtain ⟨xs, k, _, h8, _, h9, h10⟩ := DataW.trod_struct Tryz.underlying25 h
    match cs, hl with
    | [v0, v1, v2, v3, v4, v5], _ =>
      have g5 := h10 5 _ rfl
      match xs, h9 with
      | [y0, y1, y2, y3, y4, y5], _ =>
        simp [cells_src] at g5
        rcases Deep.open_slice Tryz.underlying23 g5 with ⟨h1, _⟩ | ⟨b, l, c, m, n, D, Pl, h1, _, h2, _⟩
        · injection h1 with h1 _
          subst h1
          exact ⟨v0, v1, v2, v3, v4, none, 0, 0, rfl, Nat.le_refl _⟩
        · injection h1 with h1 _
          subst h1
          exact ⟨v0, v1, v2, v3, v4, some b, l, c, rfl, h2⟩
theorem open_msgc {H : Type} {enc : TypeId × Value → H} {w : World} {base fuel : Nat} {spare : Nat → Bool} {held : Bool} {cs : Array Value} {x : DataW H × List MemPlace}
    (h : DataW.trod enc Tryz.prog w base spare held fuel 25 cs.toList = some x) (hl : cs.size = 6) (hw : ∀ n ∈ x.1.weights Tryz.prog 25, n ≤ reachBytes) : ∃ m : Ms, Mg w w.heap.size (.agg cs) m ∧ CapR (.agg cs) m.ar.length := by
  obtain ⟨m, hm⟩ := open_msg h hl hw
  obtain ⟨i, f, q, a, s, ra, rn, rc, he, hc⟩ := open_room h hl
  refine ⟨m, hm, ?_⟩
  obtain ⟨q', a', n', r', he', _, _, _, hr⟩ := hm
  obtain ⟨ra', rc', rfl⟩ := Lst.shape hr
  rw [he] at he' ⊢
  injection he' with he'
  simp only [Array.mk.injEq, List.cons.injEq, and_true] at he'
  obtain ⟨e1, e2, e3, e4, e5, e6⟩ := he'
  injection e6 with e7 e8 e9
  subst e8
  exact ⟨_, _, _, _, _, _, _, rfl, hc⟩
end Go.Proofs.YtpdaekgldgoalaaGreat

/-
  A message's whole code, how many bytes its sender takes: Code, Room.
-/
namespace Go.Proofs.YtpdaekgldgoalaaGreat
open Go.RowKit Go.Shelf
set_option linter.unusedVariables false
set_option linter.unusedSimpArgs false
set_option maxRecDepth 100000

theorem recR_bnd (x : Rc) : (0 ≤ (recE x).1.x ∧ (recE x).1.x ≤ 127) ∧ (0 ≤ (recE x).1.s ∧ (recE x).1.s ≤ 65535) := by
  unfold recE
  split
  · rename_i h
    obtain ⟨_, h1, h2, _⟩ := h
    simp only
    omega
  · simp [ed0]
theorem ofL_bnd (s : Nat) (L : List Rc) : (0 ≤ (ofL s L).1.x ∧ (ofL s L).1.x ≤ 127) ∧ (0 ≤ (ofL s L).1.s ∧ (ofL s L).1.s ≤ 65535) := by
  match s, L with
  | 0, [] => exact ⟨⟨by decide, by decide⟩, by decide, by decide⟩
  | 0, [x] => rw [ofL_one]; exact recR_bnd x
  | 0, _ :: _ :: _ => rw [ofL_bad (by simp) (by simp)]; exact ⟨⟨by decide, by decide⟩, by decide, by decide⟩
  | n + 1, _ => rw [ofL_bad (by simp) (by simp)]; exact ⟨⟨by decide, by decide⟩, by decide, by decide⟩
theorem ofM_bnd (m : Ms) : (0 ≤ (ofM m).1.x ∧ (ofM m).1.x ≤ 127) ∧ (0 ≤ (ofM m).1.s ∧ (ofM m).1.s ≤ 65535) := ofL_bnd _ _

set_option maxHeartbeats 2000000 in
theorem code_any {w : World} {hi : Nat} {u : Value} {m : Ms} (h : Mg w hi u m) (h1 : hi ≤ w.heap.size) (hm : Mild m) :
    Calls Tryz.prog 13 #[u] w (Tells w (.int .i64 (codM m))) := by
  have hb0 := ofM_bnd m
  have hmg := h
  obtain ⟨q, a, n, r, rfl, hq, h2, h3, h4⟩ := h
  obtain ⟨xa, xc, rfl⟩ := Lst.shape hq
  obtain ⟨aa, ac, rfl⟩ := Lst.shape h2
  obtain ⟨na, nc, rfl⟩ := Lst.shape h3
  obtain ⟨ra, rc, rfl⟩ := Lst.shape h4
  obtain ⟨i0, hi0⟩ : ∃ i, m.id = i := ⟨_, rfl⟩
  obtain ⟨f0, hf0⟩ : ∃ i, m.fl = i := ⟨_, rfl⟩
  obtain ⟨lq, hlq⟩ : ∃ i, m.q.length = i := ⟨_, rfl⟩
  obtain ⟨la, hla⟩ : ∃ i, m.an.length = i := ⟨_, rfl⟩
  obtain ⟨ln, hln⟩ : ∃ i, m.ns.length = i := ⟨_, rfl⟩
  obtain ⟨lr, hlr⟩ : ∃ i, m.ar.length = i := ⟨_, rfl⟩
  rw [hi0, hf0, hlq, hla, hln, hlr] at hmg ⊢
  have hb1 : Below w.heap.size w (w.alloc (.cells #[.int .i64 i0, .int .i64 f0, .slice xa lq xc, .slice aa la ac, .slice na ln nc, .slice ra lr rc] 25)) := (Below.refl _ _).alloc (Nat.le_refl _) _
  have HOF := Lib.hid (of_any (hmg.below hb1 h1) (Nat.le_trans h1 hb1.size) hm)
  unfold OfPost at HOF
  unfold codM
  rw [hf0]
  obtain ⟨E, hE⟩ : ∃ x, ofM m = x := ⟨_, rfl⟩
  obtain ⟨e, is, er⟩ := E
  rw [hE] at HOF hb0 ⊢
  simp only at HOF hb0 ⊢
  have HB1 := Lib.hid hb1
  obtain ⟨N, hN⟩ : ∃ N, w.heap.size = N := ⟨_, rfl⟩
  have hx := cel_new6 w (.int .i64 i0) (.int .i64 f0) (.slice xa lq xc) (.slice aa la ac) (.slice na ln nc) (.slice ra lr rc) 25
  rw [hN] at hx
  have HX := Lib.hid hx
  have HBD := Lib.hid hb0
  clear h2 h3 h4 hq h1 hm hmg hb1 hx hb0 hi0 hf0 hlq hla hln hlr hE
  go_enter Tryz.func13, Tryz.ntmps13
  go_wp2_with fail
  refine HOF.out.mono ?_; rintro ee w2 ⟨v, rfl, hv, hb⟩
  obtain ⟨o, rfl, hso⟩ := hv
  obtain ⟨oa, oc, rfl⟩ := row_shape hso
  replace HX := Lib.hid (HX.out.below (by simp) hb)
  replace HB1 := Lib.hid (bel_call HB1.out hb)
  obtain ⟨g, hg⟩ : ∃ g, w2.heap.size = g := ⟨_, rfl⟩
  have hba : Below w2.heap.size w2 (w2.alloc (.cells #[.int .i64 e.s, .int .i64 e.x, .int .i64 e.v, .bool e.b, .slice oa e.o.length oc] 28)) := (Below.refl _ _).alloc (Nat.le_refl _) _
  have hbox := cel_new w2 (.int .i64 e.s) (.int .i64 e.x) (.int .i64 e.v) (.bool e.b) (.slice oa e.o.length oc) 28
  rw [hg] at hbox
  have hxc := HX.out.below (by simp) hba
  have HB3 := Lib.hid (bel_call HB1.out hba)
  have x1 : (w2.alloc (.cells #[.int .i64 e.s, .int .i64 e.x, .int .i64 e.v, .bool e.b, .slice oa e.o.length oc] 28)).cell? ⟨N, 1, none⟩ = some (.int .i64 f0) := hxc.c 1 (by simp)
  have y1 : (w2.alloc (.cells #[.int .i64 e.s, .int .i64 e.x, .int .i64 e.v, .bool e.b, .slice oa e.o.length oc] 28)).cell? ⟨g, 1, none⟩ = some (.int .i64 e.x) := hbox.c 1 (by simp)
  have HC := Lib.hid (fun wx => mcode_any f0 wx)
  unfold cdF at HC
  obtain ⟨X, hX⟩ : ∃ X, e.x = X := ⟨_, rfl⟩
  obtain ⟨F, hF⟩ : ∃ F, f0 % 16 = F := ⟨_, rfl⟩
  have hbx := HBD.out.1
  rw [hX] at hbx
  rw [hF] at HC
  have hw1 : IntKind.i64.wrap (16 * X) = 16 * X := wr64 _ (by omega) (by omega)
  have hw2 : IntKind.i64.wrap (F + 16 * X) = F + 16 * X := wr64 _ (by omega) (by omega)
  rw [hX] at y1
  have hxw : wrap64 (16 * X) = 16 * X := IntWalk.wrap64_in _ ⟨by omega, by omega⟩
  have hxw2 : wrap64 (F + 16 * X) = F + 16 * X := IntWalk.wrap64_in _ ⟨by omega, by omega⟩
  have HF := Lib.hid hF
  have HXX := Lib.hid hX
  clear hb hso hba hbox hxc HX HBD hF hX
  have HB4 := Lib.hid (fun n => below_drewN HB3.out n)
  go_wp2_with fail
  go_quiet ((go_at_call 14; exact Calls.quiet_of_same ((HC.out _).mono fun _ _ h => ⟨h.1, h.2.symm⟩)))
  go_wp2_with fail
  go_ret
  exact ⟨by rw [HF.out, HXX.out]; simp [hxw, hxw2], HB4.out _⟩

set_option maxHeartbeats 2000000 in
theorem room_any {w : World} {hi : Nat} {u : Value} {m : Ms} (h : Mg w hi u m) (h1 : hi ≤ w.heap.size) (hm : Mild m) :
    Calls Tryz.prog 15 #[u] w (Tells w (.int .i64 (roM m))) := by
  have hb0 := ofM_bnd m
  have hmg := h
  obtain ⟨q, a, n, r, rfl, hq, h2, h3, h4⟩ := h
  obtain ⟨xa, xc, rfl⟩ := Lst.shape hq
  obtain ⟨aa, ac, rfl⟩ := Lst.shape h2
  obtain ⟨na, nc, rfl⟩ := Lst.shape h3
  obtain ⟨ra, rc, rfl⟩ := Lst.shape h4
  obtain ⟨i0, hi0⟩ : ∃ i, m.id = i := ⟨_, rfl⟩
  obtain ⟨f0, hf0⟩ : ∃ i, m.fl = i := ⟨_, rfl⟩
  obtain ⟨lq, hlq⟩ : ∃ i, m.q.length = i := ⟨_, rfl⟩
  obtain ⟨la, hla⟩ : ∃ i, m.an.length = i := ⟨_, rfl⟩
  obtain ⟨ln, hln⟩ : ∃ i, m.ns.length = i := ⟨_, rfl⟩
  obtain ⟨lr, hlr⟩ : ∃ i, m.ar.length = i := ⟨_, rfl⟩
  rw [hi0, hf0, hlq, hla, hln, hlr] at hmg ⊢
  have hb1 : Below w.heap.size w (w.alloc (.cells #[.int .i64 i0, .int .i64 f0, .slice xa lq xc, .slice aa la ac, .slice na ln nc, .slice ra lr rc] 25)) := (Below.refl _ _).alloc (Nat.le_refl _) _
  have HOF := Lib.hid (of_any (hmg.below hb1 h1) (Nat.le_trans h1 hb1.size) hm)
  unfold OfPost at HOF
  unfold roM
  obtain ⟨E, hE⟩ : ∃ x, ofM m = x := ⟨_, rfl⟩
  obtain ⟨e, is, er⟩ := E
  rw [hE] at HOF hb0 ⊢
  simp only at HOF hb0 ⊢
  obtain ⟨R, hR⟩ : ∃ R, (if 512 ≤ e.s then e.s else 512) = R := ⟨_, rfl⟩
  rw [hR]
  have HB1 := Lib.hid hb1
  obtain ⟨N, hN⟩ : ∃ N, w.heap.size = N := ⟨_, rfl⟩
  have hx := cel_new6 w (.int .i64 i0) (.int .i64 f0) (.slice xa lq xc) (.slice aa la ac) (.slice na ln nc) (.slice ra lr rc) 25
  rw [hN] at hx
  have HX := Lib.hid hx
  have HBD := Lib.hid hb0
  clear h2 h3 h4 hq h1 hm hmg hb1 hx hb0 hi0 hf0 hlq hla hln hlr hE
  go_enter Tryz.func15, Tryz.ntmps15
  go_wp2_with fail
  refine HOF.out.mono ?_; rintro ee w2 ⟨v, rfl, hv, hb⟩
  obtain ⟨o, rfl, hso⟩ := hv
  obtain ⟨oa, oc, rfl⟩ := row_shape hso
  replace HX := Lib.hid (HX.out.below (by simp) hb)
  replace HB1 := Lib.hid (bel_call HB1.out hb)
  obtain ⟨g, hg⟩ : ∃ g, w2.heap.size = g := ⟨_, rfl⟩
  have hba : Below w2.heap.size w2 (w2.alloc (.cells #[.int .i64 e.s, .int .i64 e.x, .int .i64 e.v, .bool e.b, .slice oa e.o.length oc] 28)) := (Below.refl _ _).alloc (Nat.le_refl _) _
  have hbox := cel_new w2 (.int .i64 e.s) (.int .i64 e.x) (.int .i64 e.v) (.bool e.b) (.slice oa e.o.length oc) 28
  rw [hg] at hbox
  have hxc := HX.out.below (by simp) hba
  have HB3 := Lib.hid (bel_call HB1.out hba)
  have y1 : (w2.alloc (.cells #[.int .i64 e.s, .int .i64 e.x, .int .i64 e.v, .bool e.b, .slice oa e.o.length oc] 28)).cell? ⟨g, 0, none⟩ = some (.int .i64 e.s) := hbox.c 0 (by simp)
  obtain ⟨S, hS⟩ : ∃ X, e.s = X := ⟨_, rfl⟩
  have hbs := HBD.out.2
  rw [hS] at hbs y1 hR ⊢
  have HR := Lib.hid hR
  rw [hS] at HB3
  clear hb hso hba hbox hxc HX HBD hR
  go_wp2_with fail
  go_ret
  exact ⟨by rw [← HR.out]; simp; split <;> omega, HB3.out⟩
end Go.Proofs.YtpdaekgldgoalaaGreat

/-
  What the document's examples say: awake.
-/
namespace Go.Proofs.YtpdaekgldgoalaaGreat
open Go.RowKit Go.Shelf
set_option linter.unusedVariables false
set_option linter.unusedSimpArgs false
set_option maxRecDepth 100000

def aw0 : Ms := ⟨7, 0, [], [], [], []⟩
def awE : Ed := ⟨1232, 0, 0, true, []⟩
def awR : Rc := ⟨[0], 41, 1232, 32768, []⟩
def aw1 : Ms := ⟨7, 0, [], [], [], [awR]⟩
theorem aw_pu : puM aw0 awE = (aw1, 0) := rfl
theorem aw_of : ofM aw1 = (awE, true, 0) := rfl
theorem aw_ro : roM aw1 = 1232 := rfl
theorem aw_mild0 : Mild aw0 := ⟨by decide, by simp [aw0], by simp [aw0], by simp [aw0], by simp [aw0]⟩
theorem aw_mild1 : Mild aw1 := ⟨by decide, by simp [aw1], by simp [aw1], by simp [aw1], by simp [aw1, awR]⟩
theorem mg_bare9 (w : World) (i f : Int) : Mg w w.heap.size (.agg #[.int .i64 i, .int .i64 f, .slice none 0 0, .slice none 0 0, .slice none 0 0, .slice none 0 0]) ⟨i, f, [], [], [], []⟩ := ⟨_, _, _, _, rfl, Lst.nil _ _, Lst.nil _ _, Lst.nil _ _, Lst.nil _ _⟩
theorem eg_bare (w : World) (s x v : Int) (b : Bool) : Eg w w.heap.size (.agg #[.int .i64 s, .int .i64 x, .int .i64 v, .bool b, .slice none 0 0]) ⟨s, x, v, b, []⟩ := ⟨_, rfl, Lst.nil _ _⟩
theorem own_shape4 {w : World} {B : Nat} {v : Value} {m : Ms} (h : OwnM w B v m) : ∃ b1 e1 b2 e2 b3 e3 b4 e4, v = .agg #[.int .i64 m.id, .int .i64 m.fl, .slice b1 m.q.length e1, .slice b2 m.an.length e2, .slice b3 m.ns.length e3, .slice b4 m.ar.length e4] := by
  obtain ⟨o1, o2, o3, o4, rfl, j1, j2, j3, j4⟩ := h
  obtain ⟨b1, e1, rfl⟩ := row_shape j1
  obtain ⟨b2, e2, rfl⟩ := row_shape j2
  obtain ⟨b3, e3, rfl⟩ := row_shape j3
  obtain ⟨b4, e4, rfl⟩ := row_shape j4
  exact ⟨_, _, _, _, _, _, _, _, rfl⟩
theorem OwnM.capR {w : World} {B : Nat} {v : Value} {m : Ms} (h : OwnM w B v m) : CapR v m.ar.length := by
  obtain ⟨o1, o2, o3, o4, rfl, j1, j2, j3, j4⟩ := h
  obtain ⟨b4, e4, rfl⟩ := row_shape j4
  exact ⟨_, _, _, _, _, _, _, rfl, row_cap j4⟩
theorem capR_bare (i f : Value) : CapR (.agg #[i, f, .slice none 0 0, .slice none 0 0, .slice none 0 0, .slice none 0 0]) 0 := ⟨_, _, _, _, _, _, _, rfl, Nat.le_refl _⟩

set_option maxHeartbeats 4000000 in
theorem awake9_any (w : World) : Calls Tryz.prog 4 #[] w (Tells w (.bool true)) := by
  obtain ⟨N, hN⟩ : ∃ N, w.heap.size = N := ⟨_, rfl⟩
  have HPU := Lib.hid (put_any (mg_bare9 w 7 0) (Nat.le_refl _) aw_mild0 (by decide) (capR_bare _ _) (eg_bare w 1232 0 0 true) (Nat.le_refl _) (by decide) (by simp))
  unfold PuPost at HPU
  rw [show (⟨7, 0, [], [], [], []⟩ : Ms) = aw0 from rfl, show (⟨1232, 0, 0, true, []⟩ : Ed) = awE from rfl, aw_pu] at HPU
  go_enter Tryz.func4, Tryz.ntmps4
  go_wp2_with fail
  refine HPU.out.mono ?_; rintro e w1 ⟨v, rfl, ho, hb⟩
  have HB := Lib.hid hb
  have HO := Lib.hid ho
  obtain ⟨b1, e1, b2, e2, b3, e3, b4, e4, hvv⟩ := own_shape4 ho
  have hvv2 : v = .agg #[.int .i64 7, .int .i64 0, .slice b1 0 e1, .slice b2 0 e2, .slice b3 0 e3, .slice b4 1 e4] := hvv
  subst hvv2
  have hmg := (ho.mg (by decide)).below ((Below.refl _ _).alloc (Nat.le_refl _) (.cells #[.int .i64 7, .int .i64 0, .slice b1 0 e1, .slice b2 0 e2, .slice b3 0 e3, .slice b4 1 e4] 25)) (Nat.le_refl _)
  have hbx := cel_new6 w1 (.int .i64 7) (.int .i64 0) (.slice b1 0 e1) (.slice b2 0 e2) (.slice b3 0 e3) (.slice b4 1 e4) 25
  have hb2 := bel_alloc HB.out (.cells #[.int .i64 7, .int .i64 0, .slice b1 0 e1, .slice b2 0 e2, .slice b3 0 e3, .slice b4 1 e4] 25)
  obtain ⟨g, hg⟩ : ∃ g, w1.heap.size = g := ⟨_, rfl⟩
  rw [hg] at hbx hmg
  simp only [aw1, List.length_nil, List.length_singleton] at hmg
  rw [show (⟨7, 0, [], [], [], [awR]⟩ : Ms) = aw1 from rfl] at hmg
  have hmg2 := hmg.wide (hi' := (w1.alloc (.cells #[.int .i64 7, .int .i64 0, .slice b1 0 e1, .slice b2 0 e2, .slice b3 0 e3, .slice b4 1 e4] 25)).heap.size) (by simp; omega)
  have HOF := Lib.hid (of_any hmg2 (Nat.le_refl _) aw_mild1)
  unfold OfPost at HOF
  rw [aw_of] at HOF
  have HX := Lib.hid hbx
  have HM := Lib.hid hmg2
  replace HB := Lib.hid hb2
  clear hb ho hmg hbx hb2 hmg2
  obtain ⟨c0, c1, c2, c3, c4, c5⟩ := HX.out.six
  go_wp2_with fail
  refine HOF.out.mono ?_; rintro e w2 ⟨v, rfl, hv, hb⟩
  replace HB := Lib.hid (bel_call HB.out hb)
  replace HX := Lib.hid (HX.out.below (by simp) hb)
  replace HM := Lib.hid (HM.out.later hb)
  have HE := Lib.hid (hv.eg (by decide))
  obtain ⟨o, hv1, hso⟩ := hv
  obtain ⟨oa, oc, ho1⟩ := row_shape hso
  have ho2 : o = .slice oa 0 oc := ho1
  subst ho2
  have hv2 : v = .agg #[.int .i64 1232, .int .i64 0, .int .i64 0, .bool true, .slice oa 0 oc] := hv1
  subst hv2
  clear hb hso c0 c1 c2 c3 c4 c5
  have hbe : Below w2.heap.size w2 (w2.alloc (.cells #[.int .i64 1232, .int .i64 0, .int .i64 0, .bool true, .slice oa 0 oc] 28)) := (Below.refl _ _).alloc (Nat.le_refl _) _
  have hbo := cel_new w2 (.int .i64 1232) (.int .i64 0) (.int .i64 0) (.bool true) (.slice oa 0 oc) 28
  obtain ⟨g2, hg2⟩ : ∃ g, w2.heap.size = g := ⟨_, rfl⟩
  rw [hg2] at hbo
  replace HB := Lib.hid (bel_call HB.out hbe)
  replace HX := Lib.hid (HX.out.below (by simp) hbe)
  replace HM := Lib.hid (HM.out.later hbe)
  replace HE := Lib.hid (HE.out.later hbe)
  have hbr : Below (w2.alloc (.cells #[.int .i64 1232, .int .i64 0, .int .i64 0, .bool true, .slice oa 0 oc] 28)).heap.size (w2.alloc (.cells #[.int .i64 1232, .int .i64 0, .int .i64 0, .bool true, .slice oa 0 oc] 28)) ((w2.alloc (.cells #[.int .i64 1232, .int .i64 0, .int .i64 0, .bool true, .slice oa 0 oc] 28)).alloc (.cells #[.string ⟨#[0]⟩, .int .i64 41, .int .i64 1232, .int .i64 32768, .string ⟨#[]⟩] 52)) := (Below.refl _ _).alloc (Nat.le_refl _) _
  have hone : SR ((w2.alloc (.cells #[.int .i64 1232, .int .i64 0, .int .i64 0, .bool true, .slice oa 0 oc] 28)).alloc (.cells #[.string ⟨#[0]⟩, .int .i64 41, .int .i64 1232, .int .i64 32768, .string ⟨#[]⟩] 52)) ((w2.alloc (.cells #[.int .i64 1232, .int .i64 0, .int .i64 0, .bool true, .slice oa 0 oc] 28)).heap.size + 1) (.slice (some ⟨(w2.alloc (.cells #[.int .i64 1232, .int .i64 0, .int .i64 0, .bool true, .slice oa 0 oc] 28)).heap.size, 0, none⟩) 1 1) [awR] := sr_one (w2.alloc (.cells #[.int .i64 1232, .int .i64 0, .int .i64 0, .bool true, .slice oa 0 oc] 28)) awR
  replace HB := Lib.hid (bel_call HB.out hbr)
  replace HX := Lib.hid (HX.out.below (by simp) hbr)
  replace HM := Lib.hid (HM.out.later hbr)
  replace HE := Lib.hid (HE.out.later hbr)
  have HZ := Lib.hid (hbo.below (by simp) hbr)
  simp only [World.size_alloc, hg2] at hone
  have hsz : g2 + 1 + 1 ≤ ((w2.alloc (.cells #[.int .i64 1232, .int .i64 0, .int .i64 0, .bool true, .slice oa 0 oc] 28)).alloc (.cells #[.string ⟨#[0]⟩, .int .i64 41, .int .i64 1232, .int .i64 32768, .string ⟨#[]⟩] 52)).heap.size := by simp [hg2]
  have h4 : SR ((w2.alloc (.cells #[.int .i64 1232, .int .i64 0, .int .i64 0, .bool true, .slice oa 0 oc] 28)).alloc (.cells #[.string ⟨#[0]⟩, .int .i64 41, .int .i64 1232, .int .i64 32768, .string ⟨#[]⟩] 52)) ((w2.alloc (.cells #[.int .i64 1232, .int .i64 0, .int .i64 0, .bool true, .slice oa 0 oc] 28)).alloc (.cells #[.string ⟨#[0]⟩, .int .i64 41, .int .i64 1232, .int .i64 32768, .string ⟨#[]⟩] 52)).heap.size (.slice b4 1 e4) [awR] := by
    obtain ⟨_, _, _, _, he, _, _, _, h⟩ := HM.out
    injection he with he
    simp only [Array.mk.injEq, List.cons.injEq, and_true] at he
    rw [he.2.2.2.2.2]
    exact h
  have HSR := Lib.hid (sameR_yes h4 hone (Nat.le_refl _) hsz)
  obtain ⟨c0, c1, c2, c3, c4, c5⟩ := HX.out.six
  clear hbe hbo hbr hone hsz h4
  go_wp2_with fail
  refine HSR.out.mono ?_; rintro e w3 ⟨rfl, hb⟩
  replace HB := Lib.hid (bel_call HB.out hb)
  replace HX := Lib.hid (HX.out.below (by simp) hb)
  replace HM := Lib.hid (HM.out.later hb)
  replace HE := Lib.hid (HE.out.later hb)
  replace HZ := Lib.hid (HZ.out.below (by simp) hb)
  clear hb c0 c1 c2 c3 c4 c5 HSR
  obtain ⟨d0, d1, d2, d3, d4⟩ := HZ.out.five
  go_wp2_with fail
  refine (sameE_yes HE.out (eg_bare w3 1232 0 0 true) (Nat.le_refl _) (Nat.le_refl _)).mono ?_; rintro e w4 ⟨rfl, hb⟩
  replace HB := Lib.hid (bel_call HB.out hb)
  replace HX := Lib.hid (HX.out.below (by simp) hb)
  replace HM := Lib.hid (HM.out.later hb)
  clear hb d0 d1 d2 d3 d4
  obtain ⟨c0, c1, c2, c3, c4, c5⟩ := HX.out.six
  go_wp2_with fail
  refine (room_any HM.out (Nat.le_refl _) aw_mild1).mono ?_; rintro e w5 ⟨rfl, hb⟩
  replace HB := Lib.hid (bel_call HB.out hb)
  rw [aw_ro]
  clear hb
  go_wp2_with fail
  go_ret
  exact ⟨rfl, by first | exact HB.out | (rw [← hN]; exact HB.out) | (rw [hN]; exact HB.out)⟩
end Go.Proofs.YtpdaekgldgoalaaGreat

/-
  A message of too many entries, or of too long names and data: BigMessage.
-/
namespace Go.Proofs.YtpdaekgldgoalaaGreat
open Go.RowKit Go.Shelf
set_option linter.unusedVariables false
set_option linter.unusedSimpArgs false
set_option maxRecDepth 100000

def bigRm (M : Nat) (x : Rc) : Bool := decide (M < x.n.length) || decide (M < x.d.length)
def bigQm (M : Nat) (x : Qn) : Bool := decide (M < x.n.length)
/-- More than so many entries, or a name or data of more than so many bytes. -/
def bigMs (most M : Nat) (m : Ms) : Bool := decide (most < m.q.length + m.an.length + m.ns.length + m.ar.length) || (m.q.any (bigQm M) || (m.an.any (bigRm M) || (m.ns.any (bigRm M) || m.ar.any (bigRm M))))

set_option maxHeartbeats 2000000 in
theorem bigRs_any {w : World} {hi : Nat} {u : Value} {l : List Rc} (M : Nat) (hM : M ≤ 1000000) (h : SR w hi u l) (h1 : hi ≤ w.heap.size) :
    Calls Tryz.prog 19 #[u, .int .i64 M] w fun e w' => e = .returned (.bool (l.any (bigRm M))) ∧ w = w' := by
  obtain ⟨r, hr⟩ : ∃ r, l.any (bigRm M) = r := ⟨_, rfl⟩
  rw [hr]
  have HR := Lib.hid hr
  have HX := Lib.hid h
  have HN := Lib.hid (Lst.len h)
  obtain ⟨a, c, rfl⟩ := Lst.shape h
  clear hr h
  go_enter Tryz.func19, Tryz.ntmps19
  go_wp2
  go_loopg [5] l.length (fun k v5 wr => ∃ j : Nat, j + k = l.length ∧ v5 = .int .i64 j ∧ Hid ((l.take j).any (bigRm M) = false) ∧ w = wr)
  case atStart => exact ⟨0, by omega, rfl, by simp [Hid], rfl⟩
  case round =>
    obtain ⟨j, hj, rfl, HA, rfl⟩ := hrel
    have hlen := HN.out
    by_cases hlt : j < l.length
    · obtain ⟨b, off, c2, he, hb, c0, _, _, _, c4⟩ := HX.out.at_ j hlt
      injection he with he hn3 hc3
      clear hn3 hc3
      subst he
      have hany := HA.out
      have htk : l.take (j + 1) = l.take j ++ [l[j]] := by rw [List.take_add_one, List.getElem?_eq_getElem hlt]; rfl
      have HM := Lib.hid (List.getElem_mem hlt)
      obtain ⟨x, hx⟩ : ∃ x, l[j] = x := ⟨_, rfl⟩
      rw [hx] at c0 c4 htk HM
      obtain ⟨n, t, cl, tl, d⟩ := x
      simp only at c0 c4
      have hns : (bs n).size = n.length := bs_size n
      have hds : (bs d).size = d.length := bs_size d
      by_cases h1 : M < n.length
      · have HE := Lib.hid (show r = true by rw [← HR.out]; exact List.any_eq_true.mpr ⟨_, HM.out, by unfold bigRm; simp [h1]⟩)
        have t1 : decide ((M : Int) < n.length) = true := by simp; omega
        clear hany htk hx HA HM
        go_wp2_with fail
        go_ret
        exact ⟨by rw [HE.out]; rfl, rfl⟩
      · have t1 : decide ((M : Int) < n.length) = false := by simp; omega
        by_cases h2 : M < d.length
        · have HE := Lib.hid (show r = true by rw [← HR.out]; exact List.any_eq_true.mpr ⟨_, HM.out, by unfold bigRm; simp [h2]⟩)
          have t2 : decide ((M : Int) < d.length) = true := by simp; omega
          clear hany htk hx HA HM
          go_wp2_with fail
          go_ret
          exact ⟨by rw [HE.out]; rfl, rfl⟩
        · have t2 : decide ((M : Int) < d.length) = false := by simp; omega
          have HA2 := Lib.hid (show (l.take (j + 1)).any (bigRm M) = false by rw [htk, List.any_append, hany]; simp [bigRm]; omega)
          clear hany htk hx HA HM
          go_wp2_with fail
          go_roundg (l.length - (j + 1))
          case measure => omega
          case rel => exact ⟨j + 1, by omega, by go_num, HA2, rfl⟩
    · have hje : j = l.length := by omega
      have HE := Lib.hid (show r = false by
        rw [← HR.out]
        have := HA.out
        rw [List.take_of_length_le (by omega)] at this
        exact this)
      clear HA
      have t1 : ¬ ((j : Int) < l.length) := by omega
      go_wp2_with fail
      go_ret
      exact ⟨by rw [HE.out]; rfl, rfl⟩

set_option maxHeartbeats 4000000 in
theorem bigM_any {w : World} {hi : Nat} {u : Value} {m : Ms} (most M : Nat) (hmo : most ≤ 1000000) (hM : M ≤ 1000000) (h : Mg w hi u m) (h1 : hi ≤ w.heap.size) :
    Calls Tryz.prog 5 #[u, .int .i64 most, .int .i64 M] w (Tells w (.bool (bigMs most M m))) := by
  obtain ⟨q, a, n, r, rfl, hq, ha, hn, hr⟩ := h
  have HLQ := Lib.hid (Lst.len hq)
  have HLA := Lib.hid (Lst.len ha)
  have HLN := Lib.hid (Lst.len hn)
  have HLR := Lib.hid (Lst.len hr)
  have HCA := Lib.hid (fun wx (hb : Below w.heap.size w wx) => bigRs_any M hM (Lst.below ha hb h1) (Nat.le_trans h1 hb.size))
  have HCN := Lib.hid (fun wx (hb : Below w.heap.size w wx) => bigRs_any M hM (Lst.below hn hb h1) (Nat.le_trans h1 hb.size))
  have HCR := Lib.hid (fun wx (hb : Below w.heap.size w wx) => bigRs_any M hM (Lst.below hr hb h1) (Nat.le_trans h1 hb.size))
  have HQ := Lib.hid hq
  have HHI := Lib.hid h1
  obtain ⟨qa, qc, rfl⟩ := Lst.shape hq
  obtain ⟨aa, ac, rfl⟩ := Lst.shape ha
  obtain ⟨na, nc, rfl⟩ := Lst.shape hn
  obtain ⟨ra, rc, rfl⟩ := Lst.shape hr
  obtain ⟨i0, hi0⟩ : ∃ i, m.id = i := ⟨_, rfl⟩
  obtain ⟨f0, hf0⟩ : ∃ i, m.fl = i := ⟨_, rfl⟩
  obtain ⟨R, hR⟩ : ∃ r, bigMs most M m = r := ⟨_, rfl⟩
  rw [hi0, hf0, hR]
  unfold bigMs at hR
  obtain ⟨b1, hb1⟩ : ∃ r, m.an.any (bigRm M) = r := ⟨_, rfl⟩
  obtain ⟨b2, hb2⟩ : ∃ r, m.ns.any (bigRm M) = r := ⟨_, rfl⟩
  obtain ⟨b3, hb3⟩ : ∃ r, m.ar.any (bigRm M) = r := ⟨_, rfl⟩
  rw [hb1, hb2, hb3] at hR
  rw [hb1] at HCA
  rw [hb2] at HCN
  rw [hb3] at HCR
  obtain ⟨l, hlq⟩ : ∃ l, m.q = l := ⟨_, rfl⟩
  rw [hlq] at hR HQ HLQ ⊢
  obtain ⟨ln, hln⟩ : ∃ l, m.an.length = l := ⟨_, rfl⟩
  rw [hln] at hR HLA HCA ⊢
  obtain ⟨lm, hlm⟩ : ∃ l, m.ns.length = l := ⟨_, rfl⟩
  rw [hlm] at hR HLN HCN ⊢
  obtain ⟨lr, hlr⟩ : ∃ l, m.ar.length = l := ⟨_, rfl⟩
  rw [hlr] at hR HLR HCR ⊢
  have hb0 : Below w.heap.size w (w.alloc (.cells #[.int .i64 i0, .int .i64 f0, .slice qa l.length qc, .slice aa ln ac, .slice na lm nc, .slice ra lr rc] 25)) := (Below.refl _ _).alloc (Nat.le_refl _) _
  have HB := Lib.hid hb0
  have HX := Lib.hid (cel_new6 w (.int .i64 i0) (.int .i64 f0) (.slice qa l.length qc) (.slice aa ln ac) (.slice na lm nc) (.slice ra lr rc) 25)
  have HR := Lib.hid hR
  clear hb1 hb2 hb3 hlq hln hlm hlr hi0 hf0 hq ha hn hr h1 hb0 hR
  have g1 := HLQ.out
  have g2 := HLA.out
  have g3 := HLN.out
  have g4 := HLR.out
  by_cases hbig : most < l.length + ln + lm + lr
  · have t0 : decide ((most : Int) < (l.length : Int) + ln + lm + lr) = true := by simp; omega
    have HE := Lib.hid (show R = true by rw [← HR.out]; simp [hbig])
    go_enter Tryz.func5, Tryz.ntmps5
    go_wp2_with fail
    go_ret
    exact ⟨by rw [HE.out]; rfl, HB.out⟩
  · have t0 : decide ((most : Int) < (l.length : Int) + ln + lm + lr) = false := by simp; omega
    have e0 : decide (most < l.length + ln + lm + lr) = false := by simp; omega
    have HR2 := Lib.hid (show (l.any (bigQm M) || (b1 || (b2 || b3))) = R by rw [← HR.out, e0]; rfl)
    obtain ⟨W, hW⟩ : ∃ W, w.alloc (.cells #[.int .i64 i0, .int .i64 f0, .slice qa l.length qc, .slice aa ln ac, .slice na lm nc, .slice ra lr rc] 25) = W := ⟨_, rfl⟩
    obtain ⟨N, hN⟩ : ∃ N, w.heap.size = N := ⟨_, rfl⟩
    rw [hW] at HB HX
    rw [hN] at HX
    obtain ⟨c0, c1, c2, c3, c4, c5⟩ := HX.out.six
    clear e0 HR
    go_enter Tryz.func5, Tryz.ntmps5
    go_wp2_with fail
    clear t0 hbig
    go_loopg [7] l.length (fun k v7 wr => ∃ j : Nat, j + k = l.length ∧ v7 = .int .i64 j ∧ Hid ((l.take j).any (bigQm M) = false) ∧ W = wr)
    case atStart => exact ⟨0, by omega, rfl, by simp [Hid], by first | rfl | exact hW.symm⟩
    case round =>
      clear hW
      obtain ⟨j, hj, rfl, HA, rfl⟩ := hrel
      by_cases hlt : j < l.length
      · obtain ⟨b, off, cc, he, hb, hc⟩ := HQ.out.at_ j hlt
        obtain ⟨d0, d1, d2⟩ := hc.keep fun o => HB.out.cell (p := ⟨b, o, none⟩) (Nat.lt_of_lt_of_le hb HHI.out)
        injection he with he hn3 hc3
        clear hn3 hc3
        subst he
        have hany := HA.out
        have htk : l.take (j + 1) = l.take j ++ [l[j]] := by rw [List.take_add_one, List.getElem?_eq_getElem hlt]; rfl
        have HM := Lib.hid (List.getElem_mem hlt)
        obtain ⟨x, hx⟩ : ∃ x, l[j] = x := ⟨_, rfl⟩
        rw [hx] at d0 htk HM
        obtain ⟨n, t, cl⟩ := x
        simp only at d0
        have hns : (bs n).size = n.length := bs_size n
        by_cases h1 : M < n.length
        · have HE := Lib.hid (show R = true by rw [← HR2.out, show l.any (bigQm M) = true from List.any_eq_true.mpr ⟨_, HM.out, by unfold bigQm; simp [h1]⟩]; rfl)
          have t1 : decide ((M : Int) < n.length) = true := by simp; omega
          clear hany htk hx HA HM hc hb d1 d2
          go_wp2_with fail
          go_ret
          exact ⟨by rw [HE.out]; rfl, by rw [← hN] at *; exact HB.out⟩
        · have t1 : decide ((M : Int) < n.length) = false := by simp; omega
          have HA2 := Lib.hid (show (l.take (j + 1)).any (bigQm M) = false by rw [htk, List.any_append, hany]; simp [bigQm]; omega)
          clear hany htk hx HA HM hc hb d1 d2
          go_wp2_with fail
          go_roundg (l.length - (j + 1))
          case measure => omega
          case rel => exact ⟨j + 1, by omega, by go_num, HA2, rfl⟩
      · have hje : j = l.length := by omega
        have HE := Lib.hid (show (b1 || (b2 || b3)) = R by
          rw [← HR2.out]
          have := HA.out
          rw [List.take_of_length_le (by omega)] at this
          rw [this]
          rfl)
        clear HA
        have t1 : ¬ ((j : Int) < l.length) := by omega
        cases b1 with
        | true =>
          go_wp2_with fail
          refine (HCA.out _ HB.out).mono ?_; rintro e w1 ⟨rfl, rfl⟩
          go_wp2_with fail
          go_ret
          exact ⟨by rw [← HE.out]; rfl, HB.out⟩
        | false =>
          cases b2 with
          | true =>
            go_wp2_with fail
            refine (HCA.out _ HB.out).mono ?_; rintro e w1 ⟨rfl, rfl⟩
            go_wp2_with fail
            refine (HCN.out _ HB.out).mono ?_; rintro e w1 ⟨rfl, rfl⟩
            go_wp2_with fail
            go_ret
            exact ⟨by rw [← HE.out]; rfl, HB.out⟩
          | false =>
            go_wp2_with fail
            refine (HCA.out _ HB.out).mono ?_; rintro e w1 ⟨rfl, rfl⟩
            go_wp2_with fail
            refine (HCN.out _ HB.out).mono ?_; rintro e w1 ⟨rfl, rfl⟩
            go_wp2_with fail
            refine (HCR.out _ HB.out).mono ?_; rintro e w1 ⟨rfl, rfl⟩
            go_wp2_with fail
            go_ret
            exact ⟨by rw [← HE.out]; rfl, HB.out⟩

theorem bigMs_no {most M : Nat} {m : Ms} (h : bigMs most M m = false) : m.q.length + m.an.length + m.ns.length + m.ar.length ≤ most ∧ (∀ x ∈ m.q, x.n.length ≤ M) ∧ (∀ x ∈ m.an, x.n.length ≤ M ∧ x.d.length ≤ M) ∧ (∀ x ∈ m.ns, x.n.length ≤ M ∧ x.d.length ≤ M) ∧ (∀ x ∈ m.ar, x.n.length ≤ M ∧ x.d.length ≤ M) := by
  unfold bigMs at h
  simp only [Bool.or_eq_false_iff, List.any_eq_false, decide_eq_false_iff_not, Nat.not_lt] at h
  obtain ⟨h0, h1, h2, h3, h4⟩ := h
  have k : ∀ l : List Rc, (∀ x ∈ l, ¬ bigRm M x = true) → ∀ x ∈ l, x.n.length ≤ M ∧ x.d.length ≤ M := fun l hl x hx => by
    have := hl x hx
    unfold bigRm at this
    simp at this
    exact this
  refine ⟨h0, fun x hx => ?_, k _ h2, k _ h3, k _ h4⟩
  have := h1 x hx
  unfold bigQm at this
  simpa using this
end Go.Proofs.YtpdaekgldgoalaaGreat

/-
  A message without what it says besides says nothing: EdnsStrips.
-/
namespace Go.Proofs.YtpdaekgldgoalaaGreat
open Go.RowKit Go.Shelf
set_option linter.unusedVariables false
set_option linter.unusedSimpArgs false
set_option maxRecDepth 100000

theorem mild_of {most M : Nat} {m : Ms} (h : bigMs most M m = false) (h1 : most ≤ 800000) (h2 : M ≤ 900000) : Mild m ∧ m.q.length + m.an.length + m.ns.length + m.ar.length ≤ 800000 := by
  obtain ⟨k1, k2, k3, k4, k5⟩ := bigMs_no h
  exact ⟨⟨by omega, fun x hx => by have := k2 x hx; omega, fun x hx => by have := k3 x hx; omega, fun x hx => by have := k4 x hx; omega, fun x hx => by have := k5 x hx; omega⟩, by omega⟩

end Go.Proofs.YtpdaekgldgoalaaGreat

/-
  What EdnsBack knows of a message with the record behind it.
-/
namespace Go.Proofs.YtpdaekgldgoalaaGreat
open Go.RowKit Go.Shelf
set_option linter.unusedVariables false
set_option linter.unusedSimpArgs false
set_option maxRecDepth 100000

theorem chkE_7 (e : Ed) : (chkE e == 7) = false := by
  unfold chkE
  split
  · split <;> rfl
  · rfl
theorem bigMs_fin9 {most : Nat} {m : Ms} {M : Nat} (hM : M ≤ 1000000) (h : bigMs most M m = false) : m.Fine := by
  obtain ⟨_, h1, h2, h3, h4⟩ := bigMs_no h
  exact ⟨fun x hx => Nat.le_trans (h1 x hx) hM, fun x hx => ⟨Nat.le_trans (h2 x hx).1 hM, Nat.le_trans (h2 x hx).2 hM⟩, fun x hx => ⟨Nat.le_trans (h3 x hx).1 hM, Nat.le_trans (h3 x hx).2 hM⟩, fun x hx => ⟨Nat.le_trans (h4 x hx).1 hM, Nat.le_trans (h4 x hx).2 hM⟩⟩
theorem edR_dlen {e : Ed} (h : chkE e = 0) : (edR e).d.length ≤ 65535 := by
  obtain ⟨_, _, _, _, hz⟩ := chkE_in h
  show (otsB e.o).length ≤ 65535
  rw [otsB_len]
  exact hz
theorem tot_adM (m : Ms) (e : Ed) : (adM m e).q.length + (adM m e).an.length + (adM m e).ns.length + (adM m e).ar.length = m.q.length + m.an.length + m.ns.length + m.ar.length + 1 := by
  unfold adM; simp only [List.length_append, List.length_singleton]; omega
theorem mild_adM {m : Ms} {e : Ed} (hm : Mild m) (ht : m.q.length + m.an.length + m.ns.length + m.ar.length ≤ 800000) (h : chkE e = 0) : Mild (adM m e) := by
  obtain ⟨g1, g2, g3, g4, g5⟩ := hm
  refine ⟨?_, g2, g3, g4, fun x hx => ?_⟩
  · rw [tot_adM]; omega
  · unfold adM at hx
    simp only [List.mem_append, List.mem_singleton] at hx
    rcases hx with hx | rfl
    · exact g5 x hx
    · exact ⟨by unfold edR; simp, Nat.le_trans (edR_dlen h) (by decide)⟩
theorem fine_adM {m : Ms} {e : Ed} (hm : m.Fine) (h : chkE e = 0) : (adM m e).Fine := by
  obtain ⟨g1, g2, g3, g4⟩ := hm
  refine ⟨g1, g2, g3, fun x hx => ?_⟩
  unfold adM at hx
  simp only [List.mem_append, List.mem_singleton] at hx
  rcases hx with hx | rfl
  · exact g4 x hx
  · exact ⟨by unfold edR; simp, Nat.le_trans (edR_dlen h) (by decide)⟩
theorem wrM_ends9 (m : Ms) : (∃ z, wrM m = (some z, 0) ∧ z.length ≤ 65535 ∧ rdM z = .ok m) ∨ ∃ e, wrM m = (none, e) ∧ e ≠ 0 := by
  by_cases h : chkM m = 0
  · rcases hw : wrIs m.its (headM m) [] 0 with _ | z
    · right
      exact ⟨3, by unfold wrM; rw [if_neg (by rw [h]; simp), hw], by decide⟩
    · left
      have e : wrM m = (some z, 0) := by unfold wrM; rw [if_neg (by rw [h]; simp), hw]
      have hb := wrM_back e
      refine ⟨z, e, ?_, hb⟩
      unfold rdM at hb
      split at hb
      · cases hb
      · omega
  · exact .inr ⟨chkM m, by unfold wrM; rw [if_pos h], h⟩
theorem two_newE (w : World) (a0 a1 a2 a3 a4 a5 b0 b1 : Value) : Cel ((w.alloc (.cells #[a0, a1, a2, a3, a4, a5] 25)).alloc (.cells #[b0, b1] 47)) w.heap.size [a0, a1, a2, a3, a4, a5] ∧
    Cel ((w.alloc (.cells #[a0, a1, a2, a3, a4, a5] 25)).alloc (.cells #[b0, b1] 47)) (w.heap.size + 1) [b0, b1] ∧
    Below w.heap.size w ((w.alloc (.cells #[a0, a1, a2, a3, a4, a5] 25)).alloc (.cells #[b0, b1] 47)) ∧
    ((w.alloc (.cells #[a0, a1, a2, a3, a4, a5] 25)).alloc (.cells #[b0, b1] 47)).heap.size = w.heap.size + 1 + 1 := by
  refine ⟨(cel_new6 w a0 a1 a2 a3 a4 a5 25).below (by simp) ((Below.refl _ _).alloc (Nat.le_refl _) _), ?_, ((Below.refl _ _).alloc (Nat.le_refl _) _).alloc (by simp) _, by simp⟩
  have := cel_pair (w.alloc (.cells #[a0, a1, a2, a3, a4, a5] 25)) b0 b1 47
  rwa [World.size_alloc] at this
end Go.Proofs.YtpdaekgldgoalaaGreat
