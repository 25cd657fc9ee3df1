/-
  What is known of a slice of floats that came in.
-/
import Derived.Test.YtonjjblifcgapaaWi
import Derived.Deep.Slices
import Derived.OpenShut
namespace Go.Proofs.Ytonjjblifcgapaa
open Go.RowKit Go.ChangeShapes Go.WideShapes
set_option linter.unusedVariables false

/-- A slice that came in, and what its cells hold. -/
def IsFs (w : World) (a : Option Addr) (len cap : Nat) (zs : List Nat) : Prop :=
  (a = none ∧ len = 0 ∧ cap = 0) ∨
  ∃ x, a = some x ∧ len ≤ cap ∧ zs.length = len ∧ ∀ i, i < zs.length → w.cell? (x.add i) = some (.float .f64 (zs.getD i 0))

theorem trod_float {H : Type} {enc : TypeId × Value → H} {P : Program} {w : World} {base : Nat} {spare : Nat → Bool} {held : Bool} {n : Nat} {e : TypeId} {v : Value} {x : DataW H × List MemPlace}
    (he : P.underlying e = some (.float .f64)) (h : DataW.trod enc P w base spare held n e [v] = some x) : ∃ b, v = .float .f64 b := by
  cases n with
  | zero => simp [DataW.trod] at h
  | succ m =>
    simp only [DataW.trod, he] at h
    cases v <;> simp_all

theorem open_floats {H : Type} {enc : TypeId × Value → H} {P : Program} {w : World} {base : Nat} {held : Bool} {t e : TypeId} {a : Option Addr} {len cap : Nat} {d : DataW H} {ps : List MemPlace}
    (ht : P.underlying t = some (.slice e)) (he : P.underlying e = some (.float .f64)) (hc : P.cellsOf e = 1)
    (h : DataW.Trod enc P w base (fun _ => true) held t (.slice a len cap) d ps) : ∃ zs, IsFs w a len cap zs := by
  obtain ⟨fuel, hf⟩ := h
  rcases Go.Deep.open_slice1 ht hc hf with ⟨hcs, _⟩ | ⟨x, l, c, m, n, V, D, Pl, hcs, hb, hl, hm, hmm, _, hx⟩
  · simp [Value.cells] at hcs
    exact ⟨[], .inl hcs⟩
  · simp [Value.cells] at hcs
    obtain ⟨rfl, rfl, rfl⟩ := hcs
    simp only [if_true] at hmm
    subst hmm
    have hV : ∀ i, i < m → ∃ b, V i = .float .f64 b := fun i hi => trod_float he (hx i hi).2
    refine ⟨(List.range len).map fun i => if h : i < m then (hV i h).choose else 0, .inr ⟨x, rfl, hl, by simp, fun i hi => ?_⟩⟩
    have hi' : i < len := by simpa using hi
    have him : i < m := by omega
    rw [(hx i him).1, (hV i him).choose_spec]
    simp [hi', him]

theorem best_of (x y : Nat) (a : Option Addr) (n cap : Nat) (z : List Nat) (w : World) (h : IsFs w a n cap z) :
    Calls Try.prog 4 #[.float .f64 x, .float .f64 y, .slice a n cap] w (YesB w) := by
  rcases h with ⟨rfl, rfl, rfl⟩ | ⟨p, rfl, hl, hz, hc⟩
  · exact lbest_none x y w
  · by_cases hbig : 200 < n
    · exact lbest_big x y _ _ _ w hbig
    · by_cases h0 : n = 0
      · subst h0
        exact lbest_empty x y p cap w
      · obtain ⟨b, off, spot⟩ := p
        have hspot : spot = none := by simpa [Addr.add] using World.cell?_spot (hc 0 (by omega))
        subst hspot
        subst hz
        exact lbest_row x y b off cap z w (by omega) (.inr ⟨b, off, rfl, fun j hj => by have := hc j hj; rwa [add_plain] at this⟩)

theorem order_of (a b c : Nat) (s : Option Addr) (n cap : Nat) (z : List Nat) (w : World) (h : IsFs w s n cap z) :
    Calls Try.prog 7 #[.float .f64 a, .float .f64 b, .float .f64 c, .slice s n cap] w (YesB w) := by
  rcases h with ⟨rfl, rfl, rfl⟩ | ⟨p, rfl, hl, hz, hc⟩
  · exact order_nil a b c none 0 w
  · by_cases hbig : 100 < n
    · exact order_long a b c _ _ _ hbig w
    · by_cases h0 : n = 0
      · subst h0
        exact order_nil a b c (some p) cap w
      · obtain ⟨g, off, spot⟩ := p
        have hspot : spot = none := by simpa [Addr.add] using World.cell?_spot (hc 0 (by omega))
        subst hspot
        subst hz
        exact order_row a b c g off cap z (by omega) (by omega) w (fun j hj => by have := hc j hj; rwa [add_plain] at this)

end Go.Proofs.Ytonjjblifcgapaa
