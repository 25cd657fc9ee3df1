/-
  long; LentTexts, CopyTexts, SameTexts, OverTexts, KeptTexts.
-/
import Derived.Test.YtaikpgcmcmkdcaaTj
import Derived.Deep.RegionHeld3
import Derived.Laws.CopyOwn
namespace Go.Proofs.Ytaikpgcmcmkdcaa
open Go.RowKit Go.Shelf
set_option linter.unusedVariables false
set_option maxRecDepth 100000

/-! ### LentTexts -/
/-- Block g is these texts. -/
def RowT (w : World) (g : Nat) (L : List (List UInt8)) : Prop := w.heap[g]? = some (.cells (L.map tv).toArray 9 (0, 0))

/-- Of block g, c texts, the first k are those of L. -/
def PartT (w : World) (g c : Nat) (L : List (List UInt8)) (k : Nat) : Prop := ∃ l, l.length = c ∧ RowT w g l ∧ ∀ t, t < k → l.getD t [] = L.getD t []

theorem RowT.cell {w : World} {g k : Nat} {L : List (List UInt8)} (h : RowT w g L) (hk : k < L.length) : w.cell? ⟨g, k, none⟩ = some (tv (L.getD k [])) := by
  rw [World.cell?, h]
  simp [hk]
theorem RowT.frozen {w : World} {g k : Nat} {L : List (List UInt8)} (h : RowT w g L) : w.frozen? ⟨g, k, none⟩ = false := by simp [World.frozen?, RowT] at h ⊢; simp [h]
theorem RowT.set {w : World} {g k : Nat} {L : List (List UInt8)} (h : RowT w g L) (x : List UInt8) : RowT (w.setCell ⟨g, k, none⟩ (tv x)) g (L.set k x) := by
  unfold RowT at h ⊢
  simp [World.setCell, Array.getElem?_modify, h, List.map_set]

theorem PartT.cell {w : World} {g c k j : Nat} {L : List (List UInt8)} (h : PartT w g c L k) (hj : j < c) : ∃ x, w.cell? ⟨g, j, none⟩ = some (tv x) := by
  obtain ⟨l, hl, hr, _⟩ := h
  exact ⟨_, hr.cell (by omega)⟩
theorem PartT.frozen {w : World} {g c k j : Nat} {L : List (List UInt8)} (h : PartT w g c L k) : w.frozen? ⟨g, j, none⟩ = false := by
  obtain ⟨l, hl, hr, _⟩ := h
  exact hr.frozen
theorem PartT.step {w : World} {g c k : Nat} {L : List (List UInt8)} (h : PartT w g c L k) (hk : k < c) (x : List UInt8) (hx : x = L.getD k []) : PartT (w.setCell ⟨g, k, none⟩ (tv x)) g c L (k + 1) := by
  obtain ⟨l, hl, hr, ht⟩ := h
  refine ⟨l.set k x, by simpa using hl, hr.set x, fun t htk => ?_⟩
  by_cases e : t = k
  · subst e
    rw [List.getD, List.getElem?_set_self (by omega), ← hx]; rfl
  · rw [List.getD, List.getElem?_set_ne (Ne.symm e)]
    exact ht t (by omega)
theorem PartT.full {w : World} {g c : Nat} {L : List (List UInt8)} (h : PartT w g c L c) (hL : L.length = c) : RowT w g L := by
  obtain ⟨l, hl, hr, ht⟩ := h
  have : l = L := by
    apply List.ext_getElem (by omega)
    intro t h1 h2
    have := ht t (by omega)
    rw [List.getD, List.getD, List.getElem?_eq_getElem h1, List.getElem?_eq_getElem h2] at this
    exact this
  rw [← this]; exact hr
theorem PartT.start {w : World} {g m : Nat} {L l : List (List UInt8)} (hL : L.take l.length = l) (hm : l.length ≤ m)
    (h : w.heap[g]? = some (.cells (splice (List.replicate m (Value.string ⟨#[]⟩)) 0 (l.map tv)).toArray 9 (0, 0))) : PartT w g m L l.length := by
  have e : splice (List.replicate m (Value.string ⟨#[]⟩)) 0 (l.map tv) = (l ++ List.replicate (m - l.length) []).map tv := by
    simp [splice, tv, bs]
  rw [e] at h
  refine ⟨_, by simp; omega, h, fun t ht => ?_⟩
  have h1 : L[t]? = l[t]? := by
    have := congrArg (fun x : List (List UInt8) => x[t]?) hL
    simp only [List.getElem?_take, if_pos ht] at this
    exact this
  rw [List.getD, List.getD, List.getElem?_append_left ht, h1]

theorem RowT.st {w : World} {g k : Nat} {L : List (List UInt8)} (h : RowT w g L) (hk : k = L.length) : St w g (g + 1) (.slice (some ⟨g, 0, none⟩) k k) L := by
  subst hk
  exact ⟨_, _, rfl, Nat.le_refl _, fun h => by simp at h, fun _ => ⟨g, 0, rfl, Nat.le_refl _, by omega, fun j hj => by rw [Nat.zero_add]; exact h.cell hj⟩⟩
theorem RowT.lt {w : World} {g : Nat} {L : List (List UInt8)} (h : RowT w g L) : g < w.heap.size := (Array.getElem?_eq_some_iff.mp h).1
theorem RowT.later {w w' : World} {g : Nat} {L : List (List UInt8)} (h : RowT w g L) (hb : Below w.heap.size w w') : RowT w' g L := (hb.block g h.lt).trans h
theorem RowT.aside {w w' : World} {g : Nat} {L : List (List UInt8)} {G : Nat → Prop} (h : RowT w g L) (ha : Aside G w w') (hg : ¬ G g) : RowT w' g L := (ha.block g h.lt hg).trans h
theorem RowT.at_ {w : World} {g g' : Nat} {L : List (List UInt8)} (h : RowT w g L) (e : g = g') : RowT w g' L := e ▸ h

theorem St.news {w : World} {lo hi n c : Nat} {a : Option Addr} {l : List (List UInt8)} (hp : 0 < l.length → ∃ b off, a = some ⟨b, off, none⟩ ∧ lo ≤ b ∧ b < hi ∧ ∀ j, j < l.length → w.cell? ⟨b, off + j, none⟩ = some (tv (l.getD j [])))
    {w' : World} (hb : Below w.heap.size w w') (h0 : 0 < (l.map tv).length) : ∃ ad, a = some ad ∧ ∀ j u, (l.map tv)[j]? = some u → w'.cell? (ad.add j) = some u := by
  obtain ⟨b, off, rfl, _, _, hx⟩ := hp (by simpa using h0)
  refine ⟨_, rfl, fun j u hu => ?_⟩
  rw [List.getElem?_map] at hu
  obtain ⟨n, hn, rfl⟩ := Option.map_eq_some_iff.mp hu
  have hj : j < l.length := (List.getElem?_eq_some_iff.mp hn).1
  rw [WideShapes.add_plain, cell_later hb (hx j hj), List.getD, hn]; rfl

end Go.Proofs.Ytaikpgcmcmkdcaa
