/-
  Acts that came in, as they are read.
-/
import Derived.Test.YthhfgbfipogppaaKr
import Derived.ChangeArms
namespace Go.Proofs.Ythhfgbfipogppaa
open Go.RowKit Go.Shelf
set_option linter.unusedVariables false

/-- What is known of a slice of acts that came in. -/
def IsActs (w : World) (a : Option Addr) (len cap : Nat) : Prop :=
  (a = none ∧ len = 0 ∧ cap = 0) ∨ ∃ x, a = some x ∧ ∀ i, i < len → ∃ (s : ByteArray) (n : Int) (r : Bool), w.cell? (x.add (i * 3)) = some (.string s) ∧ w.cell? (x.add (i * 3 + 1)) = some (.int .i64 n) ∧ w.cell? (x.add (i * 3 + 2)) = some (.bool r) ∧ (Lit.int .i64 n).wf = true

theorem cells_act : Try.prog.cellsOf 41 = 3 := by kernel_rfl
theorem cells_str : Try.prog.cellsOf 9 = 1 := by kernel_rfl
theorem cells_int : Try.prog.cellsOf 3 = 1 := by kernel_rfl
theorem cells_bool : Try.prog.cellsOf 4 = 1 := by kernel_rfl

theorem open_acts {H : Type} {enc : TypeId × Value → H} {w : World} {base fuel : Nat} {spare : Nat → Bool} {held : Bool} {a : Option Addr} {len cap : Nat} {x : DataW H × List MemPlace}
    (h : DataW.trod enc Try.prog w base spare held fuel 32 (Value.slice a len cap).cells.toList = some x) : IsActs w a len cap := by
  have hcs : (Value.slice a len cap).cells.toList = [.slice a len cap] := by simp [Value.cells]
  rw [hcs] at h
  rcases Deep.open_slice Try.underlying32 h with ⟨h1, _⟩ | ⟨b, l, c, m, n, D, Pl, h1, _, h2, _, h3, _, h4⟩
  · injection h1 with h1 _
    injection h1 with e1 e2 e3
    exact .inl ⟨e1, e2, e3⟩
  · injection h1 with h1 _
    injection h1 with e1 e2 e3
    subst e1; subst e2; subst e3
    refine .inr ⟨b, rfl, fun i hi => ?_⟩
    have hm : len ≤ m := by rw [h3]; split <;> omega
    obtain ⟨cs, h5, h6⟩ := h4 i (by omega)
    rw [cells_act] at h5
    obtain ⟨_, h7, h8⟩ := World.cells?_some h5
    obtain ⟨xs, k, _, _, _, h9, h10⟩ := DataW.trod_struct Try.underlying41 h6
    match cs, h7 with
    | [v0, v1, v2], _ =>
      have c0 := h8 0 (by omega)
      have c1 := h8 1 (by omega)
      have c2 := h8 2 (by omega)
      have g0 := h10 0 _ rfl
      have g1 := h10 1 _ rfl
      have g2 := h10 2 _ rfl
      match xs, h9 with
      | [y0, y1, y2], _ =>
        simp [cells_str, cells_int, cells_bool] at g0 g1 g2
        obtain ⟨s, k0, _, _⟩ := DataW.trod_string Try.underlying9 g0
        obtain ⟨q, k1, _, hw⟩ := DataW.trod_int Try.underlying3 g1
        obtain ⟨r, k2, _⟩ := DataW.trod_bool Try.underlying4 g2
        injection k0 with k0 _
        injection k1 with k1 _
        injection k2 with k2 _
        subst k0; subst k1; subst k2
        rw [Deep.add_add] at c0 c1 c2
        exact ⟨s, q, r, by simpa using c0, by simpa using c1, by simpa using c2, hw⟩

/-- Such a slice as acts. -/
theorem acts_of {w : World} {a : Option Addr} {len cap : Nat} (h : IsActs w a len cap) : ∃ l : List AV, len = l.length ∧ Ac w w.heap.size (.slice a len cap) l := by
  rcases h with ⟨rfl, rfl, rfl⟩ | ⟨x, rfl, hx⟩
  · exact ⟨[], rfl, none, 0, rfl, fun h => by simp at h⟩
  · have hch : ∀ n, n ≤ len → ∃ l : List AV, l.length = n ∧ ∀ i (h : i < l.length), w.cell? (x.add (i * 3)) = some (.string (bs l[i].1)) ∧ w.cell? (x.add (i * 3 + 1)) = some (.int .i64 l[i].2.1) ∧ w.cell? (x.add (i * 3 + 2)) = some (.bool l[i].2.2) := by
      intro n
      induction n with
      | zero => intro _; exact ⟨[], rfl, fun i h => by simp at h⟩
      | succ n ih =>
        intro hn
        obtain ⟨l, h1, h2⟩ := ih (by omega)
        obtain ⟨s, q, r, c0, c1, c2, _⟩ := hx n (by omega)
        refine ⟨l ++ [(s.data.toList, q, r)], by simp [h1], fun i hi => ?_⟩
        rw [List.length_append, List.length_singleton] at hi
        by_cases e : i < l.length
        · rw [List.getElem_append_left e]; exact h2 i e
        · have : i = l.length := by omega
          subst this
          rw [List.getElem_append_right (Nat.le_refl _)]
          simp only [Nat.sub_self, List.getElem_cons_zero]
          rw [h1, ← bs_eta]
          exact ⟨c0, c1, c2⟩
    obtain ⟨l, h1, h2⟩ := hch len (Nat.le_refl _)
    refine ⟨l, h1.symm, some x, cap, by rw [h1], fun h0 => ?_⟩
    obtain ⟨b, off, spot⟩ := x
    have c0 := (h2 0 h0).1
    have hspot : spot = none := by simpa [Addr.add] using World.cell?_spot c0
    subst hspot
    have hlt : b < w.heap.size := by
      rw [WideShapes.add_plain] at c0
      exact World.block_lt_of_cell? w _ c0
    refine ⟨b, off, rfl, hlt, fun j hj => ?_⟩
    obtain ⟨c0, c1, c2⟩ := h2 j hj
    rw [WideShapes.add_plain] at c0 c1 c2
    exact ⟨c0, by rw [Nat.add_assoc]; exact c1, by rw [Nat.add_assoc]; exact c2⟩
end Go.Proofs.Ythhfgbfipogppaa
