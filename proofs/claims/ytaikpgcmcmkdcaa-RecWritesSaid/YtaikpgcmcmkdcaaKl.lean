/-
  A packer in memory: what its map reads as; New, Known.
-/
import Derived.Test.YtaikpgcmcmkdcaaKj
import Derived.Test.YtaikpgcmcmkdcaaKk
import Derived.Test.YtaikpgcmcmkdcaaKi
namespace Go.Proofs.Ytaikpgcmcmkdcaa
open Go.RowKit Go.Shelf
set_option linter.unusedVariables false
set_option maxRecDepth 100000

theorem keyed_ : Maps.Keyed Try.prog 9 := Maps.string_keyed Try.underlying9
theorem zero_int (w : World) : (zeroValue 3).run Try.prog w = .ok (.int .i64 0) w := by kernel_rfl

/-- The map's datum tells the tails K. -/
def RepD (D : DataW Unit) (K : List (List UInt8 × Nat)) : Prop :=
  Maps.size D = K.length ∧ ∀ n : List UInt8, Maps.has D (.string n) = (plc K n).isSome ∧ ∀ x, plc K n = some x → D.atKey (.string n) (.lit (.int .i64 0)) = .lit (.int .i64 x)

/-- Block bm is a map of the tails K. -/
def Tm (w : World) (bm : Nat) (K : List (List UInt8 × Nat)) : Prop := ∃ D : DataW Unit, w.ownsMap Try.prog 9 (plainElem Try.prog 3) bm K.length D ∧ RepD D K

theorem rep_nil : RepD (.map []) [] := ⟨rfl, fun n => ⟨rfl, fun x h => by simp [plc] at h⟩⟩

theorem key_str (t : List UInt8) (ht : t.length ≤ 1000000) : keyOf Try.prog 9 (.string (bs t)) = some (.string t) := by
  have := WideMaps.keyOf_string_mk (P := Try.prog) (k := 9) Try.underlying9 (s := bs t) (by rw [bs_size]; unfold maxLen; omega)
  rw [this]
  simp [bs]

theorem rep_put {D : DataW Unit} {K : List (List UInt8 × Nat)} (hD : Maps.Tidy D) (h : RepD D K) {t : List UInt8} (ht : plc K t = none) (x : Nat) : RepD (D.put (.string t) (.lit (.int .i64 x))) (K ++ [(t, x)]) := by
  have hno : Maps.has D (.string t) = false := by rw [(h.2 t).1, ht]; rfl
  refine ⟨by rw [Maps.size_put hD, hno, h.1]; simp, fun n => ?_⟩
  rw [plc_app, plc_one]
  by_cases e : t = n
  · subst e
    rw [ht, if_pos rfl]
    refine ⟨by rw [Maps.has_put_same hD.isMap (by trivial)]; rfl, fun y hy => ?_⟩
    have : x = y := by simpa using hy
    subst this
    exact Maps.atKey_put_same hD.isMap (by trivial) _ _
  · rw [if_neg e, Option.or_none]
    have hne : (Lit.string n) ≠ Lit.string t := fun h => e (by injection h with h; exact h.symm)
    refine ⟨by rw [Maps.has_put_other hne]; exact (h.2 n).1, fun y hy => ?_⟩
    rw [Maps.atKey_put_other hne]
    exact (h.2 n).2 y hy

theorem Tm.lt {w : World} {bm : Nat} {K : List (List UInt8 × Nat)} (h : Tm w bm K) : bm < w.heap.size := let ⟨_, h, _⟩ := h; h.lt
theorem Tm.aside {G : Nat → Prop} {w w' : World} {bm : Nat} {K : List (List UInt8 × Nat)} (h : Tm w bm K) (ha : Aside G w w') (hG : ¬ G bm) : Tm w' bm K := by
  have hlt := h.lt
  obtain ⟨D, ⟨es, clock, hb, r⟩, hR⟩ := h
  exact ⟨D, ⟨es, clock, (ha.block bm hlt hG).trans hb, r⟩, hR⟩

/-- What is looked up. -/
theorem Tm.look {w : World} {bm : Nat} {K : List (List UInt8 × Nat)} (h : Tm w bm K) (t : List UInt8) (ht : t.length ≤ 1000000) :
    (Instr.lookup 70 (.map (some bm)) (.string (bs t)) true).run Try.prog w = .ok (.tuple #[.int .i64 ((plc K t).getD 0 : Nat), .bool (plc K t).isSome]) w := by
  obtain ⟨D, hM, hR⟩ := h
  obtain ⟨v, ps, hrun, hv⟩ := hM.look_ok keyed_ Try.underlying70 (zero_int w) (plainElem_int (H := Unit) Try.underlying3 (q := .i64) (a := 0) (by decide)) (key_str t ht)
  obtain ⟨c, rfl, hc, _⟩ := plainElem_int_inv Try.underlying3 hv
  have h2 := congrArg Prod.fst hc
  have h3 := (hR.2 t).1
  rw [h3] at hrun
  rw [hrun]
  have : c = ((plc K t).getD 0 : Nat) := by
    rcases hp : plc K t with _ | x
    · rw [hp] at h3
      rw [Maps.atKey_of_not_has h3] at h2
      injection h2 with h2
      injection h2 with _ h2
      rw [← h2]; rfl
    · rw [(hR.2 t).2 x hp] at h2
      injection h2 with h2
      injection h2 with _ h2
      rw [← h2]; rfl
  rw [this]

/-- What is put in. -/
theorem Tm.store {w : World} {bm : Nat} {K : List (List UInt8 × Nat)} (h : Tm w bm K) (t : List UInt8) (ht : t.length ≤ 1000000) (hn : plc K t = none) (x : Nat) (hx : x ≤ 1000000) (hK : K.length ≤ 1000000) :
    ∃ w', (Instr.mapUpdate 70 (.map (some bm)) (.string (bs t)) (.int .i64 x)).run Try.prog w = .ok () w' ∧ Tm w' bm (K ++ [(t, x)]) ∧ w.grownBy w' (some bm) := by
  obtain ⟨D, hM, hR⟩ := h
  obtain ⟨w', h1, h2, h3⟩ := hM.update keyed_ Try.underlying70 (by unfold maxLen; omega) (key_str t ht) (plainElem_int (H := Unit) Try.underlying3 (q := .i64) (a := (x : Int)) (WalkArith.wf_i64 (by omega)))
  exact ⟨w', h1, ⟨_, by rw [List.length_append]; exact h2, rep_put (hM.tidy keyed_) hR hn x⟩, h3⟩

theorem Tm.len {w : World} {bm : Nat} {K : List (List UInt8 × Nat)} (h : Tm w bm K) (ty : TypeId) : (Builtin.len_ #[70] ty #[.map (some bm)]).run Try.prog w = .ok (.int .i64 K.length) w := by
  obtain ⟨D, hM, hR⟩ := h
  rw [hM.len Try.underlying70 ty, hR.1]

/-- Block p is a packer: it knows the tails K, in the map bm; its last name ended at e. -/
structure Pk (w : World) (p bm : Nat) (K : List (List UInt8 × Nat)) (e : Nat) : Prop where
  self : w.cell? ⟨p, 0, none⟩ = some (.pointer (some ⟨p, 0, none⟩))
  tails : w.cell? ⟨p, 1, none⟩ = some (.map (some bm))
  fin : w.cell? ⟨p, 2, none⟩ = some (.int .i64 e)
  free : ∀ j, w.frozen? ⟨p, j, none⟩ = false
  ne : p ≠ bm
  map : Tm w bm K

theorem Pk.lt {w : World} {p bm e : Nat} {K : List (List UInt8 × Nat)} (h : Pk w p bm K e) : p < w.heap.size := World.block_lt_of_cell? w _ h.self
theorem Pk.aside {G : Nat → Prop} {w w' : World} {p bm e : Nat} {K : List (List UInt8 × Nat)} (h : Pk w p bm K e) (ha : Aside G w w') (hp : ¬ G p) (hb : ¬ G bm) : Pk w' p bm K e :=
  ⟨ha.cell_lt h.self hp, ha.cell_lt h.tails hp, ha.cell_lt h.fin hp, fun j => (ha.frozen (p := ⟨p, j, none⟩) h.lt hp).trans (h.free j), h.ne, h.map.aside ha hb⟩
theorem Pk.later {w w' : World} {p bm e : Nat} {K : List (List UInt8 × Nat)} (h : Pk w p bm K e) (hb : Below w.heap.size w w') : Pk w' p bm K e :=
  h.aside (G := fun _ => False) (Aside.of_all hb) (fun h => h) (fun h => h)

/-- What New leaves. -/
def NewPost (w : World) (e : Ending) (w' : World) : Prop := ∃ p bm, e = .returned (.pointer (some ⟨p, 0, none⟩)) ∧ w.heap.size ≤ p ∧ w.heap.size ≤ bm ∧ Pk w' p bm [] 0 ∧ Below w.heap.size w w'

set_option maxHeartbeats 400000 in
theorem new_any (w : World) : Calls Try.prog 15 #[] w (NewPost w) := by
  have hmm := @run_makeMap Try.prog
  go_enter Try.func15, Try.ntmps15
  go_wp2
  go_ret
  have hb : Below w.heap.size w ((w.alloc (.map #[] 0)).alloc (.cells #[.pointer (some ⟨w.heap.size + 1, 0, none⟩), .map (some w.heap.size), .int .i64 0] 72)) := ((Below.refl _ _).alloc (Nat.le_refl _) _).alloc (by simp) _
  refine ⟨w.heap.size + 1, w.heap.size, rfl, by omega, Nat.le_refl _, ⟨by simp [go_sem], by simp [go_sem], by simp [go_sem], fun j => by simp [go_sem], by omega, .map [], ?_, rep_nil⟩, hb⟩
  exact (World.ownsMap_made w Try.prog 9 (plainElem Try.prog 3)).alloc _
end Go.Proofs.Ytaikpgcmcmkdcaa
