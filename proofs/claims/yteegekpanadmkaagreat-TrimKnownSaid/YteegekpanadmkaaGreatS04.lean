/-
  A reader of data in memory: texts.
-/
import Derived.Test.YteegekpanadmkaaGreatS03
import Derived.Maps.Own
import Derived.Maps.OwnSet
import Derived.Defers
import Derived.Recover
import Derived.RegionTactic
import Derived.BigRegion
namespace Go.Proofs.YteegekpanadmkaaGreat
open Go.RowKit Go.Shelf
set_option linter.unusedVariables false
set_option linter.unusedSimpArgs false
set_option maxRecDepth 100000

theorem txE_stop {b : List UInt8} {e n q : Nat} (h : e < q + 1) : txE b e n q = none := by
  cases n with
  | zero => rfl
  | succ n => rw [txE, if_pos h]

def txR (b : List UInt8) (s e p : Nat) : Option Nat → PR
  | none => .bad 4 s
  | some q => cutP b s e p q
theorem txR_step (F : Nat → Got) (b : List UInt8) (s e p : Nat) : stepP F b s e p .txt = txR b s e p (txE b e (e + 1) p) := by
  simp only [stepP]
  cases txE b e (e + 1) p <;> rfl

set_option maxHeartbeats 4000000 in
theorem textsR_any {w : World} {B r s p e : Nat} {vb vf : Value} {acc : List Pc} {b : List UInt8} {lo hi : Nat} {F : Nat → Got} (h : Rr w B r vb vf s p e acc) (hb : Sl w lo hi vb (iz b)) (he : e ≤ b.length) (hpe : p ≤ e) (hbl : b.length ≤ 1000000) (hl : acc.length + 1 ≤ 1000000) :
    Calls Tryz.prog 183 #[.pointer (some ⟨r, 0, none⟩)] w (StepPost w B r vb vf s e acc (stepP F b s e p .txt)) := by
  have HTk := Lib.hid (fun q hpq => take_any h hb he q hpq hl)
  have HRn := Lib.hid (fun q hq => reach_no h q hq)
  have HRy := Lib.hid (fun q hq => reach_yes h q hq)
  have c0 := h.c0
  have c2 := h.c2
  have c3 := h.c3
  have HS := Lib.hid hb
  obtain ⟨Y, hY⟩ : ∃ Y, txE b e (e + 1) p = Y := ⟨_, rfl⟩
  obtain ⟨X, hX⟩ : ∃ X, stepP F b s e p .txt = X := ⟨_, rfl⟩
  have HX := Lib.hid (show X = txR b s e p Y by rw [← hX, ← hY]; exact txR_step F b s e p)
  have HY := Lib.hid hY
  rw [hX]
  obtain ⟨av, cv, rfl, _⟩ := hb
  rw [iz_len] at c0 HTk ⊢
  simp only [iz_len] at HS
  clear hX hY h
  go_enter Tryz.func183, Tryz.ntmps183
  go_wp2_with fail
  go_loopg [2, 3] (e + 1 - p + 1) (fun g v2 v3 wr => ∃ (q : Nat) (m : Bool), v2 = .int .i64 q ∧ v3 = .bool m ∧ p ≤ q ∧ w = wr ∧ ((m = true ∧ q ≤ e ∧ g = e + 1 - q + 1 ∧ ∃ n, e < q + n ∧ Hid (txE b e n q = Y)) ∨ (m = false ∧ g = 0 ∧ Hid (Y = some q))))
  case atStart => exact ⟨p, true, rfl, rfl, Nat.le_refl _, rfl, .inl ⟨rfl, hpe, by omega, e + 1, by omega, HY⟩⟩
  case round =>
    obtain ⟨q, m, rfl, rfl, hpq, rfl, ⟨rfl, hqe, hg, n, hn, HT⟩ | ⟨rfl, hg, HT⟩⟩ := hrel
    · have hw1 : IntKind.i64.wrap ((q : Int) + 1) = ((q + 1 : Nat) : Int) := by rw [IntWalk.i64_in _ (by omega)]; push_cast; rfl
      by_cases hlt : e < q + 1
      · have hYn : Y = none := by rw [← HT.out]; exact txE_stop hlt
        subst hYn
        have hXn : X = .bad 4 s := HX.out
        subst hXn
        have HR := Lib.hid (HRn.out (q + 1) hlt)
        push_cast at HR
        go_wp2_with fail
        refine HR.out.mono ?_; rintro en w1 ⟨rfl, rfl⟩
        exact ⟨rfl, rfl, Aside.refl _ _⟩
      · have HR := Lib.hid (HRy.out (q + 1) hlt)
        push_cast at HR
        obtain ⟨g0, off, c', he0, hg0, hcell⟩ := HS.out.spot q (by rw [iz_len]; omega)
        rw [iz_len] at he0
        injection he0 with he1 he2 he3
        subst he1
        subst he3
        clear he2
        rw [iz_get b q (by omega)] at hcell
        have hgd : b.getD q 0 = b[q] := by rw [List.getD, List.getElem?_eq_getElem (by omega)]; rfl
        obtain ⟨k, rfl⟩ : ∃ k, n = k + 1 := ⟨n - 1, by omega⟩
        have hst := HT.out
        rw [txE, if_neg (by omega), hgd] at hst
        have hc8 : b[q].toNat < 256 := b[q].toNat_lt
        obtain ⟨z, hz⟩ : ∃ z, b[q].toNat = z := ⟨_, rfl⟩
        rw [hz] at hst hcell hc8
        simp only at hst
        have hqb : q < b.length := by omega
        clear hz hgd HT
        by_cases hmore : q + (1 + z) < e
        · rw [if_pos hmore] at hst
          have HST := Lib.hid hst
          have t1 : decide ((q : Int) + (1 + z) < e) = true := by simp; omega
          clear hst
          go_wp2_with fail
          refine HR.out.mono ?_; rintro en w1 ⟨rfl, rfl⟩
          go_wp2_with fail
          go_roundg (e + 1 - (q + (1 + z)) + 1)
          case measure => omega
          case rel => exact ⟨q + (1 + z), true, by go_num, rfl, by omega, rfl, .inl ⟨rfl, by omega, rfl, k, by omega, HST⟩⟩
        · rw [if_neg hmore] at hst
          have HST := Lib.hid hst.symm
          have t1 : decide ((q : Int) + (1 + z) < e) = false := by simp; omega
          clear hst
          go_wp2_with fail
          refine HR.out.mono ?_; rintro en w1 ⟨rfl, rfl⟩
          go_wp2_with fail
          go_roundg 0
          case measure => omega
          case rel => exact ⟨q + (1 + z), false, by go_num, rfl, by omega, rfl, .inr ⟨rfl, rfl, HST⟩⟩
    · have HC := Lib.hid (HTk.out q hpq)
      have hXq : X = cutP b s e p q := by have := HX.out; rw [HT.out] at this; exact this
      rw [← hXq] at HC
      clear hXq
      rcases X with ⟨x, qq⟩ | ⟨cc, aa⟩
      · have HCC := Lib.hid (show Calls Tryz.prog 184 #[.pointer (some ⟨r, 0, none⟩), .int .i64 q] w (Gone w B r (.slice av b.length cv) vf s e qq (acc ++ [x])) from HC.out)
        go_wp2_with fail
        refine HCC.out.mono ?_; rintro en w2 ⟨rfl, hr2, ha2⟩
        have HF := Lib.hid (And.intro hr2 ha2)
        clear hr2 ha2
        go_wp2_with fail
        go_end0
        exact ⟨rfl, HF.out⟩
      · have HCC := Lib.hid (show Calls Tryz.prog 184 #[.pointer (some ⟨r, 0, none⟩), .int .i64 q] w (Lost w B r cc aa) from HC.out)
        go_wp2_with fail
        refine HCC.out.mono ?_; rintro en w2 ⟨rfl, ha2⟩
        exact ⟨rfl, rfl, ha2⟩
end Go.Proofs.YteegekpanadmkaaGreat

/-
  The map of parts, in memory; parts.
-/
namespace Go.Proofs.YteegekpanadmkaaGreat
open Go.RowKit Go.Shelf
set_option linter.unusedVariables false
set_option linter.unusedSimpArgs false
set_option maxRecDepth 100000

theorem keyedI_ : Maps.Keyed Tryz.prog 3 := Maps.int_keyed Tryz.underlying3

/-- A value reads as itself. -/
def heldR (v : Value) : Option (DataW Value × List MemPlace) := some (.held v, [])

def vof (rows : List (Int × Value)) (t : Int) : Option Value := (rows.find? (fun p => p.1 == t)).map (·.2)
theorem vof_snoc (rows : List (Int × Value)) (k : Int) (v : Value) (t : Int) : vof (rows ++ [(k, v)]) t = (vof rows t).or (if k = t then some v else none) := by
  unfold vof
  rw [List.find?_append]
  obtain ⟨y, hy⟩ : ∃ y, rows.find? (fun p => p.1 == t) = y := ⟨_, rfl⟩
  rw [hy]
  cases y with
  | none => by_cases h : k = t <;> simp [h]
  | some x => rfl

/-- The map's datum tells these rows. -/
def RepM (D : DataW Value) (rows : List (Int × Value)) : Prop :=
  Maps.IsMap D ∧ ∀ t : Int, Maps.has D (.int .i64 t) = (vof rows t).isSome ∧ (∀ v, vof rows t = some v → ∀ z, D.atKey (.int .i64 t) z = .held v)

/-- Block bm is a map of these rows. -/
def Pm (w : World) (bm : Nat) (rows : List (Int × Value)) : Prop := ∃ D : DataW Value, w.ownsMap Tryz.prog 3 heldR bm rows.length D ∧ RepM D rows

theorem repM_put {D : DataW Value} {rows : List (Int × Value)} (h : RepM D rows) {k : Int} (hk : vof rows k = none) (v : Value) : RepM (D.put (.int .i64 k) (.held v)) (rows ++ [(k, v)]) := by
  refine ⟨h.1.put _ _, fun t => ?_⟩
  rw [vof_snoc]
  by_cases e : k = t
  · subst e
    rw [hk, if_pos rfl]
    refine ⟨by rw [Maps.has_put_same h.1 (by trivial)]; rfl, fun y hy z => ?_⟩
    have : v = y := by simpa using hy
    subst this
    exact Maps.atKey_put_same h.1 (by trivial) _ _
  · rw [if_neg e, Option.or_none]
    have hne : (Lit.int .i64 t) ≠ Lit.int .i64 k := fun h => e (by injection h with _ h; exact h.symm)
    refine ⟨by rw [Maps.has_put_other hne]; exact (h.2 t).1, fun y hy z => ?_⟩
    rw [Maps.atKey_put_other hne]
    exact (h.2 t).2 y hy z

theorem Pm.made (w : World) : Pm (w.alloc (.map #[] 0)) w.heap.size [] := ⟨.map [], World.ownsMap_made w Tryz.prog 3 heldR, Maps.isMap_empty, fun t => ⟨rfl, fun v h => by simp [vof] at h⟩⟩
theorem Pm.lt {w : World} {bm : Nat} {rows : List (Int × Value)} (h : Pm w bm rows) : bm < w.heap.size := let ⟨_, h, _⟩ := h; h.lt
theorem Pm.aside {G : Nat → Prop} {w w' : World} {bm : Nat} {rows : List (Int × Value)} (h : Pm w bm rows) (ha : Aside G w w') (hG : ¬ G bm) : Pm w' bm rows := by
  have hlt := h.lt
  obtain ⟨D, ⟨es, clock, hb, r⟩, hR⟩ := h
  exact ⟨D, ⟨es, clock, (ha.block bm hlt hG).trans hb, r⟩, hR⟩
theorem Pm.later {w w' : World} {bm : Nat} {rows : List (Int × Value)} (h : Pm w bm rows) (hb : Below w.heap.size w w') : Pm w' bm rows := h.aside (G := fun _ => False) (Aside.of_all hb) (fun h => h)

theorem Pm.store {w : World} {bm : Nat} {rows : List (Int × Value)} (h : Pm w bm rows) (k : Int) (hk : vof rows k = none) (hw : (Lit.int .i64 k).wf = true) (hl : rows.length ≤ 1000) (v : Value) :
    ∃ w', (Instr.mapUpdate 224 (.map (some bm)) (.int .i64 k) v).run Tryz.prog w = .ok () w' ∧ Pm w' bm (rows ++ [(k, v)]) ∧ Aside (fun b => b = bm) w w' := by
  obtain ⟨D, hM, hR⟩ := h
  obtain ⟨w', h1, h2, h3⟩ := hM.update keyedI_ Tryz.underlying224 (by unfold maxLen; omega) (kl := .int .i64 k) (d := .held v) (ps := []) (Maps.keyOf_int_mk Tryz.underlying3 hw) rfl
  exact ⟨w', h1, ⟨_, by rw [List.length_append]; exact h2, repM_put hR hk v⟩, Aside.grown h3 fun b hb => by injection hb with hb; exact hb.symm⟩

theorem zero_parts (w : World) : (zeroValue 222).run Tryz.prog w = .ok (.slice none 0 0) w := by kernel_rfl

theorem Pm.look {w : World} {bm : Nat} {rows : List (Int × Value)} (h : Pm w bm rows) (t : Int) (hw : (Lit.int .i64 t).wf = true) :
    (Instr.lookup 224 (.map (some bm)) (.int .i64 t) true).run Tryz.prog w = .ok (.tuple #[(vof rows t).getD (.slice none 0 0), .bool (vof rows t).isSome]) w := by
  obtain ⟨D, hM, hR⟩ := h
  obtain ⟨v, ps, hrun, hv⟩ := hM.look_ok keyedI_ Tryz.underlying224 (zero_parts w) (zd := .held (.slice none 0 0)) (zp := []) rfl (Maps.keyOf_int_mk Tryz.underlying3 hw)
  rw [(hR.2 t).1] at hrun
  rw [hrun]
  have hv2 : DataW.held v = D.atKey (.int .i64 t) (.held (.slice none 0 0)) := by
    unfold heldR at hv
    injection hv with hv
    injection hv with hv _
  have : v = (vof rows t).getD (.slice none 0 0) := by
    rcases hp : vof rows t with _ | x
    · have h3 := (hR.2 t).1
      rw [hp] at h3
      rw [Maps.atKey_of_not_has h3] at hv2
      injection hv2
    · rw [(hR.2 t).2 x hp] at hv2
      injection hv2
  rw [this]

/-- The function value of a part, in memory; m: the map's block. -/
def PV (W : World) (m : Nat) : PK → Value → Prop
  | .fix n, v => ∃ b, b ≠ m ∧ v = .func (.func 186) #[] #[.pointer (some ⟨b, 0, none⟩)] ∧ W.cell? ⟨b, 0, none⟩ = some (.int .i64 n)
  | .nam, v => v = .func (.func 182) #[] #[]
  | .txt, v => v = .func (.func 183) #[] #[]
  | .rst, v => v = .func (.func 177) #[] #[]

/-- A row of parts, in memory. -/
def RowK (W : World) (m : Nat) (v : Value) (ks : List PK) : Prop := ∃ g c, g ≠ m ∧ v = .slice (some ⟨g, 0, none⟩) ks.length c ∧ ∀ j (h : j < ks.length), ∃ u, W.cell? ⟨g, j, none⟩ = some u ∧ PV W m ks[j] u

theorem PV.aside {W W' : World} {m : Nat} {k : PK} {v : Value} {G : Nat → Prop} (h : PV W m k v) (ha : Aside G W W') (hG : ∀ b, b < W.heap.size → G b → b = m) : PV W' m k v := by
  cases k with
  | fix n =>
    obtain ⟨b, h1, h2, h3⟩ := h
    exact ⟨b, h1, h2, ha.cell_lt h3 fun hg => h1 (hG b (World.block_lt_of_cell? W _ h3) hg)⟩
  | nam => exact h
  | txt => exact h
  | rst => exact h
theorem RowK.aside {W W' : World} {m : Nat} {v : Value} {ks : List PK} {G : Nat → Prop} (h : RowK W m v ks) (ha : Aside G W W') (hG : ∀ b, b < W.heap.size → G b → b = m) : RowK W' m v ks := by
  obtain ⟨g, c, h1, h2, h3⟩ := h
  refine ⟨g, c, h1, h2, fun j hj => ?_⟩
  obtain ⟨u, h4, h5⟩ := h3 j hj
  exact ⟨u, ha.cell_lt h4 fun hg => h1 (hG g (World.block_lt_of_cell? W _ h4) hg), h5.aside ha hG⟩
theorem RowK.later {W W' : World} {m : Nat} {v : Value} {ks : List PK} (h : RowK W m v ks) (hb : Below W.heap.size W W') : RowK W' m v ks := h.aside (G := fun _ => False) (Aside.of_all hb) fun _ _ h => h.elim

/-- The map as it grows. -/
structure PMs (w W : World) (m : Nat) (rows : List (Int × Value)) : Prop where
  map : Pm W m rows
  row : ∀ p ∈ rows, RowK W m p.2 (kinds p.1)
  bel : Below w.heap.size w W
  old : w.heap.size ≤ m

theorem PMs.later {w W W' : World} {m : Nat} {rows : List (Int × Value)} (h : PMs w W m rows) (hb : Below W.heap.size W W') : PMs w W' m rows :=
  ⟨h.map.later hb, fun p hp => (h.row p hp).later hb, bel_call h.bel hb, h.old⟩

theorem PMs.step {w W W1 : World} {m : Nat} {rows : List (Int × Value)} (h : PMs w W m rows) (hb : Below W.heap.size W W1) (t : Int) (v : Value) (hrow : RowK W1 m v (kinds t)) (hn : vof rows t = none) (hw : (Lit.int .i64 t).wf = true) (hl : rows.length ≤ 1000) :
    ∃ W2, (Instr.mapUpdate 224 (.map (some m)) (.int .i64 t) v).run Tryz.prog W1 = .ok () W2 ∧ PMs w W2 m (rows ++ [(t, v)]) := by
  have h1 := h.later hb
  obtain ⟨W2, r1, r2, r3⟩ := h1.map.store t hn hw hl v
  refine ⟨W2, r1, r2, fun p hp => ?_, below_aside h1.bel r3 fun b hb => ⟨Nat.lt_of_lt_of_le hb h1.bel.size, by have := h1.old; omega⟩, h1.old⟩
  rcases List.mem_append.mp hp with hp | hp
  · exact (h1.row p hp).aside r3 fun _ _ h => h
  · obtain rfl := List.mem_singleton.mp hp
    exact hrow.aside r3 fun _ _ h => h

/-- What parts leaves: a map in which each type's parts are found. -/
def PartsPost (w : World) (e : Ending) (w' : World) : Prop :=
  ∃ m, e = .returned (.map (some m)) ∧ Below w.heap.size w w' ∧ ∀ t : Int, (Lit.int .i64 t).wf = true →
    (kinds t = [.rst] ∧ (Instr.lookup 224 (.map (some m)) (.int .i64 t) true).run Tryz.prog w' = .ok (.tuple #[.slice none 0 0, .bool false]) w') ∨
    (∃ v, RowK w' m v (kinds t) ∧ (Instr.lookup 224 (.map (some m)) (.int .i64 t) true).run Tryz.prog w' = .ok (.tuple #[v, .bool true]) w')

theorem parts_fin {w W : World} {m : Nat} {rows : List (Int × Value)} (h : PMs w W m rows) (hk : rows.map (·.1) = [1, 28, 2, 5, 12, 15, 6, 16]) : PartsPost w (.returned (.map (some m))) W := by
  refine ⟨m, rfl, h.bel, fun t hw => ?_⟩
  have hl := h.map.look t hw
  rcases hv : vof rows t with _ | v
  · rw [hv] at hl
    refine .inl ⟨?_, hl⟩
    have hno : ∀ x ∈ rows.map (·.1), x ≠ t := by
      intro x hx e
      subst e
      obtain ⟨p, hp, rfl⟩ := List.mem_map.mp hx
      unfold vof at hv
      have := List.find?_eq_none.mp (Option.map_eq_none_iff.mp hv) p hp
      simp at this
    rw [hk] at hno
    have a1 := hno 1 (by simp)
    have a2 := hno 28 (by simp)
    have a3 := hno 2 (by simp)
    have a4 := hno 5 (by simp)
    have a5 := hno 12 (by simp)
    have a6 := hno 15 (by simp)
    have a7 := hno 6 (by simp)
    have a8 := hno 16 (by simp)
    unfold kinds
    rw [if_neg (fun e => a1 e.symm), if_neg (fun e => a2 e.symm), if_neg (by rintro (e | e | e) <;> simp_all), if_neg (fun e => a6 e.symm), if_neg (fun e => a7 e.symm), if_neg (fun e => a8 e.symm)]
  · rw [hv] at hl
    refine .inr ⟨v, ?_, hl⟩
    unfold vof at hv
    obtain ⟨p, hp, rfl⟩ := Option.map_eq_some_iff.mp hv
    have h1 := List.mem_of_find?_eq_some hp
    have h2 := List.find?_some hp
    have h3 : p.1 = t := by simpa using h2
    rw [← h3]
    exact h.row p h1
end Go.Proofs.YteegekpanadmkaaGreat

/-
  parts: walked.
-/
namespace Go.Proofs.YteegekpanadmkaaGreat
open Go.RowKit Go.Shelf
set_option linter.unusedVariables false
set_option linter.unusedSimpArgs false
set_option maxRecDepth 100000

theorem row_f4 {W : World} {m : Nat} (hm : m < W.heap.size) : RowK ((W.alloc (.cells #[.int .i64 4] 3)).alloc (.cells #[.func (.func 186) #[] #[.pointer (some ⟨W.heap.size, 0, none⟩)]] 228)) m (.slice (some ⟨W.heap.size + 1, 0, none⟩) 1 1) [.fix 4] ∧ Below W.heap.size W ((W.alloc (.cells #[.int .i64 4] 3)).alloc (.cells #[.func (.func 186) #[] #[.pointer (some ⟨W.heap.size, 0, none⟩)]] 228)) := by
  refine ⟨⟨W.heap.size + 1, 1, by omega, rfl, fun j hj => ?_⟩, ((Below.refl _ _).alloc (Nat.le_refl _) _).alloc (by simp) _⟩
  match j, hj with
  | 0, _ => exact ⟨_, by simp [go_sem], ⟨W.heap.size, by omega, rfl, by simp [go_sem]⟩⟩
  | j + 1, hj => simp only [List.length_cons, List.length_nil] at hj; omega

theorem row_f16 {W : World} {m : Nat} (hm : m < W.heap.size) : RowK ((W.alloc (.cells #[.int .i64 16] 3)).alloc (.cells #[.func (.func 186) #[] #[.pointer (some ⟨W.heap.size, 0, none⟩)]] 228)) m (.slice (some ⟨W.heap.size + 1, 0, none⟩) 1 1) [.fix 16] ∧ Below W.heap.size W ((W.alloc (.cells #[.int .i64 16] 3)).alloc (.cells #[.func (.func 186) #[] #[.pointer (some ⟨W.heap.size, 0, none⟩)]] 228)) := by
  refine ⟨⟨W.heap.size + 1, 1, by omega, rfl, fun j hj => ?_⟩, ((Below.refl _ _).alloc (Nat.le_refl _) _).alloc (by simp) _⟩
  match j, hj with
  | 0, _ => exact ⟨_, by simp [go_sem], ⟨W.heap.size, by omega, rfl, by simp [go_sem]⟩⟩
  | j + 1, hj => simp only [List.length_cons, List.length_nil] at hj; omega

theorem row_n {W : World} {m : Nat} (hm : m < W.heap.size) : RowK (W.alloc (.cells #[.func (.func 182) #[] #[]] 228)) m (.slice (some ⟨W.heap.size, 0, none⟩) 1 1) [.nam] ∧ Below W.heap.size W (W.alloc (.cells #[.func (.func 182) #[] #[]] 228)) := by
  refine ⟨⟨W.heap.size, 1, by omega, rfl, fun j hj => ?_⟩, (Below.refl _ _).alloc (Nat.le_refl _) _⟩
  match j, hj with
  | 0, _ => exact ⟨_, by simp [go_sem], rfl⟩
  | j + 1, hj => simp only [List.length_cons, List.length_nil] at hj; omega

theorem row_t {W : World} {m : Nat} (hm : m < W.heap.size) : RowK (W.alloc (.cells #[.func (.func 183) #[] #[]] 228)) m (.slice (some ⟨W.heap.size, 0, none⟩) 1 1) [.txt] ∧ Below W.heap.size W (W.alloc (.cells #[.func (.func 183) #[] #[]] 228)) := by
  refine ⟨⟨W.heap.size, 1, by omega, rfl, fun j hj => ?_⟩, (Below.refl _ _).alloc (Nat.le_refl _) _⟩
  match j, hj with
  | 0, _ => exact ⟨_, by simp [go_sem], rfl⟩
  | j + 1, hj => simp only [List.length_cons, List.length_nil] at hj; omega

theorem row_m {W : World} {m : Nat} (hm : m < W.heap.size) : RowK ((W.alloc (.cells #[.int .i64 2] 3)).alloc (.cells #[.func (.func 186) #[] #[.pointer (some ⟨W.heap.size, 0, none⟩)], .func (.func 182) #[] #[]] 228)) m (.slice (some ⟨W.heap.size + 1, 0, none⟩) 2 2) [.fix 2, .nam] ∧ Below W.heap.size W ((W.alloc (.cells #[.int .i64 2] 3)).alloc (.cells #[.func (.func 186) #[] #[.pointer (some ⟨W.heap.size, 0, none⟩)], .func (.func 182) #[] #[]] 228)) := by
  refine ⟨⟨W.heap.size + 1, 2, by omega, rfl, fun j hj => ?_⟩, ((Below.refl _ _).alloc (Nat.le_refl _) _).alloc (by simp) _⟩
  match j, hj with
  | 0, _ => exact ⟨_, by simp [go_sem], ⟨W.heap.size, by omega, rfl, by simp [go_sem]⟩⟩
  | 1, _ => exact ⟨_, by simp [go_sem], rfl⟩
  | j + 2, hj => simp only [List.length_cons, List.length_nil] at hj; omega

theorem row_s {W : World} {m : Nat} (hm : m < W.heap.size) : RowK ((W.alloc (.cells #[.int .i64 20] 3)).alloc (.cells #[.func (.func 182) #[] #[], .func (.func 182) #[] #[], .func (.func 186) #[] #[.pointer (some ⟨W.heap.size, 0, none⟩)]] 228)) m (.slice (some ⟨W.heap.size + 1, 0, none⟩) 3 3) [.nam, .nam, .fix 20] ∧ Below W.heap.size W ((W.alloc (.cells #[.int .i64 20] 3)).alloc (.cells #[.func (.func 182) #[] #[], .func (.func 182) #[] #[], .func (.func 186) #[] #[.pointer (some ⟨W.heap.size, 0, none⟩)]] 228)) := by
  refine ⟨⟨W.heap.size + 1, 3, by omega, rfl, fun j hj => ?_⟩, ((Below.refl _ _).alloc (Nat.le_refl _) _).alloc (by simp) _⟩
  match j, hj with
  | 0, _ => exact ⟨_, by simp [go_sem], rfl⟩
  | 1, _ => exact ⟨_, by simp [go_sem], rfl⟩
  | 2, _ => exact ⟨_, by simp [go_sem], ⟨W.heap.size, by omega, rfl, by simp [go_sem]⟩⟩
  | j + 3, hj => simp only [List.length_cons, List.length_nil] at hj; omega

theorem pms_size {w W : World} {m : Nat} {rows : List (Int × Value)} (h : PMs w W m rows) : m < W.heap.size := h.map.lt

set_option maxHeartbeats 4000000 in
theorem parts_any (w : World) : Calls Tryz.prog 176 #[] w (PartsPost w) := by
  have hmm := run_makeMap (P := Tryz.prog) 224 w
  have P0 : PMs w (w.alloc (.map #[] 0)) w.heap.size [] := ⟨Pm.made w, fun p hp => by simp at hp, (Below.refl _ _).alloc (Nat.le_refl _) _, Nat.le_refl _⟩
  obtain ⟨W0, hW0⟩ : ∃ W0, w.alloc (.map #[] 0) = W0 := ⟨_, rfl⟩
  obtain ⟨m, hm⟩ : ∃ m, w.heap.size = m := ⟨_, rfl⟩
  rw [hW0] at hmm P0
  have HM := Lib.hid hm
  rw [hm] at hmm P0
  clear hW0 hm
  obtain ⟨W1, r1, P1⟩ := P0.step (row_f4 (pms_size P0)).2 1 _ (row_f4 (pms_size P0)).1 rfl (by decide) (by simp)
  obtain ⟨W2, r2, P2⟩ := P1.step (row_f16 (pms_size P1)).2 28 _ (row_f16 (pms_size P1)).1 rfl (by decide) (by simp)
  obtain ⟨W3, r3, P3⟩ := P2.step (row_n (pms_size P2)).2 2 _ (row_n (pms_size P2)).1 rfl (by decide) (by simp)
  obtain ⟨W4, r4, P4⟩ := P3.step (row_n (pms_size P3)).2 5 _ (row_n (pms_size P3)).1 rfl (by decide) (by simp)
  obtain ⟨W5, r5, P5⟩ := P4.step (row_n (pms_size P4)).2 12 _ (row_n (pms_size P4)).1 rfl (by decide) (by simp)
  obtain ⟨W6, r6, P6⟩ := P5.step (row_m (pms_size P5)).2 15 _ (row_m (pms_size P5)).1 rfl (by decide) (by simp)
  obtain ⟨W7, r7, P7⟩ := P6.step (row_s (pms_size P6)).2 6 _ (row_s (pms_size P6)).1 rfl (by decide) (by simp)
  obtain ⟨W8, r8, P8⟩ := P7.step (row_t (pms_size P7)).2 16 _ (row_t (pms_size P7)).1 rfl (by decide) (by simp)
  have HP := Lib.hid (parts_fin P8 rfl)
  have R1 := r1
  clear P0 P1 P2 P3 P4 P5 P6 P7 P8 R1
  go_enter Tryz.func176, Tryz.ntmps176
  go_wp2_with (go_at_call 181; refine (fixed_any _ _).mono ?_; rintro e w1 ⟨rfl, rfl⟩)
  go_ret
  exact HP.out
end Go.Proofs.YteegekpanadmkaaGreat

/-
  The deferred function that recovers a part that does not fit.
-/
namespace Go.Proofs.YteegekpanadmkaaGreat
open Go.RowKit Go.Shelf
set_option linter.unusedVariables false
set_option linter.unusedSimpArgs false
set_option maxRecDepth 100000

theorem tam_nil (w : World) : (Instr.typeAssert .nilIface 20 220 true).run Tryz.prog w = .ok (.tuple #[.agg #[.int .i64 0, .int .i64 0], .bool false]) w := by kernel_rfl
theorem tam_mis (e a : Int) (w : World) : (Instr.typeAssert (.iface 220 (.agg #[.int .i64 e, .int .i64 a])) 20 220 true).run Tryz.prog w = .ok (.tuple #[.agg #[.int .i64 e, .int .i64 a], .bool true]) w := by kernel_rfl

theorem mcatch_idle (p q : Addr) (w : World) :
    CallsD Tryz.prog 175 #[.pointer (some p), .pointer (some q)] .returning w fun e u' w' => e = .returned (.tuple #[]) ∧ u' = .returning ∧ w' = w.alloc (.cells #[.int .i64 0, .int .i64 0] 220) := by
  refine callsD_of_wpS Tryz.func175 rfl fun c₀ cs hu => ?_
  simp only [Tryz.ntmps175, List.size_toArray, List.length_cons, List.length_nil, Nat.reduceAdd, Nat.reduceSub, Array.replicate_succ, Array.replicate_zero, List.push_toArray, List.append_toArray, List.nil_append, List.cons_append]
  apply wpS_seq
  apply wpS_region
  simp [wpOpsS, go_sem, recoverD, hu, Exit.thenS, tam_nil]
  refine wpS_of_wp ?_
  go_wp2
  cases c₀
  simp_all [bodyPostS, results, Tryz.results175]

/-- What a part that does not fit leaves. -/
def CaughtM (b2 b3 : Nat) (e a : Int) (w w' : World) : Prop :=
  Aside (fun b => b = b2 ∨ b = b3) w w' ∧ w'.cell? ⟨b2, 0, none⟩ = some (.slice none 0 0) ∧ w'.cell? ⟨b3, 0, none⟩ = some (.int .i64 e) ∧ w'.cell? ⟨b3, 1, none⟩ = some (.int .i64 a)

theorem mcatch_fault (b2 b3 : Nat) (hne : b2 ≠ b3) (e a : Int) (w : World) (u : Value) (hp : w.cell? ⟨b2, 0, none⟩ = some u) (h0 : w.cell? ⟨b3, 0, none⟩ = some (.int .i64 0)) (h1 : w.cell? ⟨b3, 1, none⟩ = some (.int .i64 0))
    (hf2 : ∀ j, w.frozen? ⟨b2, j, none⟩ = false) (hf3 : ∀ j, w.frozen? ⟨b3, j, none⟩ = false) :
    CallsD Tryz.prog 175 #[.pointer (some ⟨b2, 0, none⟩), .pointer (some ⟨b3, 0, none⟩)] (.panicking [{ v := .iface 220 (.agg #[.int .i64 e, .int .i64 a]), recovered := false }]) w fun en u' w' =>
      en = .returned (.tuple #[]) ∧ u' = .panicking [{ v := .iface 220 (.agg #[.int .i64 e, .int .i64 a]), recovered := true }] ∧ CaughtM b2 b3 e a w w' := by
  refine callsD_of_wpS Tryz.func175 rfl fun c₀ cs hu => ?_
  simp only [Tryz.ntmps175, List.size_toArray, List.length_cons, List.length_nil, Nat.reduceAdd, Nat.reduceSub, Array.replicate_succ, Array.replicate_zero, List.push_toArray, List.append_toArray, List.nil_append, List.cons_append]
  apply wpS_seq
  apply wpS_region
  simp [wpOpsS, go_sem, recoverD, hu, Exit.thenS, tam_mis]
  refine wpS_of_wp ?_
  have hl2 : b2 < w.heap.size := World.block_lt_of_cell? w _ hp
  have hl3 : b3 < w.heap.size := World.block_lt_of_cell? w _ h0
  obtain ⟨W, hW⟩ : ∃ W, (w.alloc (.cells #[.int .i64 e, .int .i64 a] 220)).drew = W := ⟨_, rfl⟩
  have hbel : Below w.heap.size w W := by rw [← hW]; exact ((Below.refl _ w).alloc (Nat.le_refl _) _).drew
  have g2 : W.cell? ⟨b2, 0, none⟩ = some u := (hbel.cell hl2).trans hp
  have g30 : W.cell? ⟨b3, 0, none⟩ = some (.int .i64 0) := (hbel.cell hl3).trans h0
  have g31 : W.cell? ⟨b3, 1, none⟩ = some (.int .i64 0) := (hbel.cell hl3).trans h1
  have f2 : ∀ j, W.frozen? ⟨b2, j, none⟩ = false := fun j => (hbel.frozen (p := ⟨b2, j, none⟩) hl2).trans (hf2 j)
  have f3 : ∀ j, W.frozen? ⟨b3, j, none⟩ = false := fun j => (hbel.frozen (p := ⟨b3, j, none⟩) hl3).trans (hf3 j)
  obtain ⟨g, hg⟩ : ∃ g, w.heap.size = g := ⟨_, rfl⟩
  have n0 : W.cell? ⟨g, 0, none⟩ = some (.int .i64 e) := by rw [← hW, ← hg]; simp [go_sem]
  have n1 : W.cell? ⟨g, 1, none⟩ = some (.int .i64 a) := by rw [← hW, ← hg]; simp [go_sem]
  have hne2 : ¬ g = b2 := by omega
  have hne3 : ¬ b3 = b2 := fun h => hne h.symm
  have HC : Hid (CaughtM b2 b3 e a w (((W.setCell ⟨b2, 0, none⟩ (.slice none 0 0)).setCell ⟨b3, 0, none⟩ (.int .i64 e)).setCell ⟨b3, 1, none⟩ (.int .i64 a))) := by
    have x2 := World.cell?_setCell_same W ⟨b2, 0, none⟩ (.slice none 0 0) g2
    have y0 : (W.setCell ⟨b2, 0, none⟩ (.slice none 0 0)).cell? ⟨b3, 0, none⟩ = some (.int .i64 0) := by rw [World.cell?_setCell_other _ _ _ _ (by simp [hne3])]; exact g30
    have y1 : (W.setCell ⟨b2, 0, none⟩ (.slice none 0 0)).cell? ⟨b3, 1, none⟩ = some (.int .i64 0) := by rw [World.cell?_setCell_other _ _ _ _ (by simp [hne3])]; exact g31
    obtain ⟨z0, z1⟩ := res_set (.int .i64 e) (.int .i64 a) y0 y1
    refine ⟨?_, ?_, ?_, z1⟩
    · exact (((Aside.of_all hbel).trans (Aside.setCell _ _ (.inl rfl))).trans (Aside.setCell _ _ (.inr rfl))).trans (Aside.setCell _ _ (.inr rfl))
    · rw [World.cell?_setCell_other _ _ _ _ (by simp [hne]), World.cell?_setCell_other _ _ _ _ (by simp [hne])]
      exact x2
    · rw [World.cell?_setCell_other _ _ _ _ (by simp)]
      exact z0
  clear hbel
  go_wp2
  go_region
  exact ⟨rfl, _, rfl, .tuple #[], by simp [results, Tryz.results175], rfl, rfl, HC.out⟩

/-! ### plain -/
theorem kinds_small (t : Int) : (kinds t).length ≤ 3 ∧ ∀ k ∈ kinds t, ∀ n, k = .fix n → n ≤ 20 := by
  unfold kinds
  repeat' split
  all_goals simp

theorem step_le {F : Nat → Got} {b : List UInt8} {s e p : Nat} (hp : p ≤ e) {k : PK} {x : Pc} {q : Nat} (h : stepP F b s e p k = .ok x q) : q ≤ e := by
  cases k with
  | fix n => simp only [stepP, cutP] at h; split at h <;> simp at h; omega
  | nam =>
    simp only [stepP] at h
    split at h
    · simp at h
    · split at h
      · simp at h
      · split at h
        · simp at h
        · rename_i h3; injection h with h1 h2; omega
  | txt =>
    rw [txR_step] at h
    cases hy : txE b e (e + 1) p with
    | none => rw [hy] at h; simp [txR] at h
    | some y => rw [hy] at h; simp only [txR, cutP] at h; split at h <;> simp at h; omega
  | rst => simp only [stepP, cutP] at h; split at h <;> simp at h; omega

/-- What read tells. -/
def ReadPost (w : World) (R : RR) (en : Ending) (w' : World) : Prop :=
  ∃ v, en = .returned (.tuple #[v, .agg #[.int .i64 R.code, .int .i64 R.place]]) ∧ OwnP w' w.heap.size v R.pcs ∧ Below w.heap.size w w'
end Go.Proofs.YteegekpanadmkaaGreat

/-
  read: the data of a type, part by part.
-/
namespace Go.Proofs.YteegekpanadmkaaGreat
open Go.RowKit Go.Shelf
set_option linter.unusedVariables false
set_option linter.unusedSimpArgs false
set_option maxRecDepth 100000

theorem row_r {W : World} : RowK (W.alloc (.cells #[.func (.func 177) #[] #[]] 228)) (W.heap.size + 1) (.slice (some ⟨W.heap.size, 0, none⟩) 1 1) [.rst] ∧ Below W.heap.size W (W.alloc (.cells #[.func (.func 177) #[] #[]] 228)) := by
  refine ⟨⟨W.heap.size, 1, by omega, rfl, fun j hj => ?_⟩, (Below.refl _ _).alloc (Nat.le_refl _) _⟩
  match j, hj with
  | 0, _ => exact ⟨_, by simp [go_sem], rfl⟩
  | j + 1, hj => simp only [List.length_cons, List.length_nil] at hj; omega

/-- A row of parts is as it was, while a reader goes along. -/
theorem RowK.over {w4 wr : World} {m r B n c : Nat} {v : Value} {a : Option Addr} {ks : List PK} (h : RowK w4 m v ks) (h0 : 0 < ks.length) (hc : w4.cell? ⟨r, 0, none⟩ = some (.slice a n c)) (hB : w4.heap.size ≤ B) (ha : Aside (RG B r) w4 wr) : RowK wr m v ks := by
  obtain ⟨g, cc, h1, h2, h3⟩ := h
  have hgr : g ≠ r := by
    obtain ⟨u, hu, hp⟩ := h3 0 h0
    intro e
    subst e
    rw [hc] at hu
    injection hu with hu
    subst hu
    cases hk : ks[0] with
    | fix n => rw [hk] at hp; obtain ⟨b, _, hp, _⟩ := hp; cases hp
    | nam => rw [hk] at hp; cases hp
    | txt => rw [hk] at hp; cases hp
    | rst => rw [hk] at hp; cases hp
  refine ⟨g, cc, h1, h2, fun j hj => ?_⟩
  obtain ⟨u, hu, hp⟩ := h3 j hj
  have hno : ∀ b, b < w4.heap.size → b ≠ r → ¬ RG B r b := fun b hb hr hg => by
    rcases hg with hg | hg
    · exact hr hg
    · omega
  refine ⟨u, ha.cell_lt hu (hno g (World.block_lt_of_cell? _ _ hu) hgr), ?_⟩
  cases hk : ks[j] with
  | fix n =>
    rw [hk] at hp
    obtain ⟨b, b1, b2, b3⟩ := hp
    refine ⟨b, b1, b2, ha.cell_lt b3 (hno b (World.block_lt_of_cell? _ _ b3) fun e => ?_)⟩
    subst e
    rw [hc] at b3
    cases b3
  | nam => rw [hk] at hp; exact hp
  | txt => rw [hk] at hp; exact hp
  | rst => rw [hk] at hp; exact hp

/-- What a reader has at its loop's head. -/
theorem rd_setup {w w4 : World} {f s p e lo hi n c : Nat} {av : Option Addr} {b : List UInt8} {F : Nat → Got} {vf : Value}
    (hb : Below (((w.alloc (.cells #[.slice av n c, .int .i64 s, .int .i64 p, .int .i64 e, vf, .slice none 0 0] 216)).alloc (.cells #[.slice none 0 0] 206)).alloc (.cells #[.int .i64 0, .int .i64 0] 42)).heap.size
      (((w.alloc (.cells #[.slice av n c, .int .i64 s, .int .i64 p, .int .i64 e, vf, .slice none 0 0] 216)).alloc (.cells #[.slice none 0 0] 206)).alloc (.cells #[.int .i64 0, .int .i64 0] 42)) w4)
    (hS : Sl w lo hi (.slice av n c) (iz b)) (hhi : hi ≤ w.heap.size) (hfind : ∀ wx, Sl wx lo hi (.slice av n c) (iz b) → hi ≤ wx.heap.size → ∀ p : Nat, Calls Tryz.prog f #[.slice av n c, .int .i64 p] wx (Tells wx (gotV (F p)))) :
    Rr w4 w4.heap.size w.heap.size (.slice av n c) vf s p e [] ∧ w4.cell? ⟨w.heap.size, 0, none⟩ = some (.slice av n c) ∧
    (∀ wx, Aside (RG w4.heap.size w.heap.size) w4 wx → wx.cell? ⟨w.heap.size + 1, 0, none⟩ = some (.slice none 0 0) ∧ wx.cell? ⟨w.heap.size + 1 + 1, 0, none⟩ = some (.int .i64 0) ∧ wx.cell? ⟨w.heap.size + 1 + 1, 1, none⟩ = some (.int .i64 0) ∧ (∀ j, wx.frozen? ⟨w.heap.size + 1, j, none⟩ = false) ∧ ∀ j, wx.frozen? ⟨w.heap.size + 1 + 1, j, none⟩ = false) ∧
    (∀ wx, Aside (RG w4.heap.size w.heap.size) w4 wx → Sl wx lo hi (.slice av n c) (iz b)) ∧
    FindOk w4 w4.heap.size w.heap.size f (.slice av n c) F ∧
    (∀ wx w9 (cc : Int) (aa : Nat), Aside (RG w4.heap.size w.heap.size) w4 wx → CaughtM (w.heap.size + 1) (w.heap.size + 1 + 1) cc aa wx w9 → ReadPost w (.bad cc aa) (.returned (.tuple #[.slice none 0 0, .agg #[.int .i64 cc, .int .i64 aa]])) w9) ∧
    (∀ wr vp acc, Aside (RG w4.heap.size w.heap.size) w4 wr → OwnP wr w4.heap.size vp acc → ∃ Wf, Wf = (((wr.setCell ⟨w.heap.size + 1, 0, none⟩ vp).setCell ⟨w.heap.size + 1 + 1, 0, none⟩ (.int .i64 0)).setCell ⟨w.heap.size + 1 + 1, 1, none⟩ (.int .i64 0)) ∧ Wf.cell? ⟨w.heap.size + 1, 0, none⟩ = some vp ∧ Wf.cell? ⟨w.heap.size + 1 + 1, 0, none⟩ = some (.int .i64 0) ∧ Wf.cell? ⟨w.heap.size + 1 + 1, 1, none⟩ = some (.int .i64 0) ∧ OwnP Wf w.heap.size vp acc ∧ Below w.heap.size w Wf) := by
  obtain ⟨W0, hW0⟩ : ∃ W0, (((w.alloc (.cells #[.slice av n c, .int .i64 s, .int .i64 p, .int .i64 e, vf, .slice none 0 0] 216)).alloc (.cells #[.slice none 0 0] 206)).alloc (.cells #[.int .i64 0, .int .i64 0] 42)) = W0 := ⟨_, rfl⟩
  have hsz : W0.heap.size = w.heap.size + 1 + 1 + 1 := by rw [← hW0]; simp
  have hbw : Below w.heap.size w W0 := by rw [← hW0]; exact (((Below.refl _ w).alloc (Nat.le_refl _) _).alloc (by simp) _).alloc (by simp; omega) _
  have q0 : W0.cell? ⟨w.heap.size, 0, none⟩ = some (.slice av n c) := by rw [← hW0]; simp [go_sem]
  have q1 : W0.cell? ⟨w.heap.size, 1, none⟩ = some (.int .i64 s) := by rw [← hW0]; simp [go_sem]
  have q2 : W0.cell? ⟨w.heap.size, 2, none⟩ = some (.int .i64 p) := by rw [← hW0]; simp [go_sem]
  have q3 : W0.cell? ⟨w.heap.size, 3, none⟩ = some (.int .i64 e) := by rw [← hW0]; simp [go_sem]
  have q4 : W0.cell? ⟨w.heap.size, 4, none⟩ = some vf := by rw [← hW0]; simp [go_sem]
  have q5 : W0.cell? ⟨w.heap.size, 5, none⟩ = some (.slice none 0 0) := by rw [← hW0]; simp [go_sem]
  have qf : ∀ j, W0.frozen? ⟨w.heap.size, j, none⟩ = false := by intro j; rw [← hW0]; simp [go_sem]
  have z0 : W0.cell? ⟨w.heap.size + 1, 0, none⟩ = some (.slice none 0 0) := by rw [← hW0]; simp [go_sem]
  have z1 : W0.cell? ⟨w.heap.size + 1 + 1, 0, none⟩ = some (.int .i64 0) := by rw [← hW0]; simp [go_sem]
  have z2 : W0.cell? ⟨w.heap.size + 1 + 1, 1, none⟩ = some (.int .i64 0) := by rw [← hW0]; simp [go_sem]
  have z3 : ∀ j, W0.frozen? ⟨w.heap.size + 1, j, none⟩ = false := by intro j; rw [← hW0]; simp [go_sem]
  have z4 : ∀ j, W0.frozen? ⟨w.heap.size + 1 + 1, j, none⟩ = false := by intro j; rw [← hW0]; simp [go_sem]
  rw [hW0] at hb
  clear hW0
  have hs4 := hb.size
  have hb4 : Below w.heap.size w w4 := bel_call hbw hb
  have hKC : ∀ wx, Aside (RG w4.heap.size w.heap.size) w4 wx → wx.cell? ⟨w.heap.size + 1, 0, none⟩ = some (.slice none 0 0) ∧ wx.cell? ⟨w.heap.size + 1 + 1, 0, none⟩ = some (.int .i64 0) ∧ wx.cell? ⟨w.heap.size + 1 + 1, 1, none⟩ = some (.int .i64 0) ∧ (∀ j, wx.frozen? ⟨w.heap.size + 1, j, none⟩ = false) ∧ ∀ j, wx.frozen? ⟨w.heap.size + 1 + 1, j, none⟩ = false := by
    intro wx ha
    have n2 : ¬ RG w4.heap.size w.heap.size (w.heap.size + 1) := by unfold RG; omega
    have n3 : ¬ RG w4.heap.size w.heap.size (w.heap.size + 1 + 1) := by unfold RG; omega
    exact ⟨ha.cell_lt (cell_later hb z0) n2, ha.cell_lt (cell_later hb z1) n3, ha.cell_lt (cell_later hb z2) n3, fun j => (ha.frozen (p := ⟨w.heap.size + 1, j, none⟩) (by show w.heap.size + 1 < _; omega) n2).trans ((hb.frozen (p := ⟨w.heap.size + 1, j, none⟩) (by show w.heap.size + 1 < _; omega)).trans (z3 j)), fun j => (ha.frozen (p := ⟨w.heap.size + 1 + 1, j, none⟩) (by show w.heap.size + 1 + 1 < _; omega) n3).trans ((hb.frozen (p := ⟨w.heap.size + 1 + 1, j, none⟩) (by show w.heap.size + 1 + 1 < _; omega)).trans (z4 j))⟩
  have hSL : ∀ wx, Aside (RG w4.heap.size w.heap.size) w4 wx → Sl wx lo hi (.slice av n c) (iz b) := fun wx ha =>
    (hS.below hb4 hhi).keep fun b o _ h2 => ha.cell (p := ⟨b, o, none⟩) (by show b < _; omega) (by show ¬ RG _ _ b; unfold RG; omega)
  refine ⟨⟨cell_later hb q0, cell_later hb q1, cell_later hb q2, cell_later hb q3, cell_later hb q4, ⟨_, cell_later hb q5, OwnP.nil _ _⟩, fun j => (hb.frozen (p := ⟨w.heap.size, j, none⟩) (by show w.heap.size < _; omega)).trans (qf j), by omega, Nat.le_refl _⟩, cell_later hb q0, hKC, hSL, fun wx ha p => hfind wx (hSL wx ha) (by have := ha.size; omega) p, ?_, ?_⟩
  · intro wx w9 cc aa ha hc
    have hx : Below w.heap.size w wx := below_aside hb4 ha fun b hb => ⟨by omega, by unfold RG; omega⟩
    exact ⟨_, rfl, OwnP.nil _ _, below_aside hx hc.1 fun b hb => ⟨by have := ha.size; omega, by omega⟩⟩
  · intro wr vp acc ha hown
    obtain ⟨k0, k1, k2, _, _⟩ := hKC wr ha
    have hx : Below w.heap.size w wr := below_aside hb4 ha fun b hb => ⟨by omega, by unfold RG; omega⟩
    have x0 := World.cell?_setCell_same wr ⟨w.heap.size + 1, 0, none⟩ vp k0
    have y0 : (wr.setCell ⟨w.heap.size + 1, 0, none⟩ vp).cell? ⟨w.heap.size + 1 + 1, 0, none⟩ = some (.int .i64 0) := by rw [World.cell?_setCell_other _ _ _ _ (by simp)]; exact k1
    have y1 : (wr.setCell ⟨w.heap.size + 1, 0, none⟩ vp).cell? ⟨w.heap.size + 1 + 1, 1, none⟩ = some (.int .i64 0) := by rw [World.cell?_setCell_other _ _ _ _ (by simp)]; exact k2
    obtain ⟨u0, u1⟩ := res_set (.int .i64 0) (.int .i64 0) y0 y1
    have hA : Aside (fun b => b = w.heap.size + 1 ∨ b = w.heap.size + 1 + 1) wr (((wr.setCell ⟨w.heap.size + 1, 0, none⟩ vp).setCell ⟨w.heap.size + 1 + 1, 0, none⟩ (.int .i64 0)).setCell ⟨w.heap.size + 1 + 1, 1, none⟩ (.int .i64 0)) :=
      ((Aside.setCell _ _ (.inl rfl)).trans (Aside.setCell _ _ (.inr rfl))).trans (Aside.setCell _ _ (.inr rfl))
    refine ⟨_, rfl, ?_, ?_, u1, ?_, ?_⟩
    · rw [World.cell?_setCell_other _ _ _ _ (by simp), World.cell?_setCell_other _ _ _ _ (by simp)]; exact x0
    · rw [World.cell?_setCell_other _ _ _ _ (by simp)]; exact u0
    · exact (hown.aside hA fun b hb e => by have := (hown.lt b hb).1; omega).mono (by omega)
    · exact below_aside hx hA fun b hb => ⟨by have := ha.size; omega, by omega⟩

set_option maxHeartbeats 8000000 in
theorem read_read {w : World} {s p e : Nat} {vb : Value} {b : List UInt8} {lo hi : Nat} {F : Nat → Got} (t : Int) (ht : (Lit.int .i64 t).wf = true) (hS : Sl w lo hi vb (iz b)) (hhi : hi ≤ w.heap.size) (hbl : b.length ≤ 1000000) (hpe : p ≤ e) (he : e ≤ b.length)
    (hfind : ∀ wx, Sl wx lo hi vb (iz b) → hi ≤ wx.heap.size → ∀ p : Nat, Calls Tryz.prog 135 #[vb, .int .i64 p] wx (Tells wx (gotV (F p)))) :
    Calls Tryz.prog 170 #[.agg #[vb, .int .i64 s, .int .i64 p, .int .i64 e, (.func (.func 135) #[] #[]), .slice none 0 0], .int .i64 t] w (ReadPost w (goP F b s e (kinds t) p [])) := by
  have hmf : ∀ (fn : Fn) (first cap : Array Value) (w : World), (Instr.makeFunc fn first cap).run Tryz.prog w = .ok (.func fn first cap) w := fun _ _ _ _ => rfl
  have HPt := Lib.hid (fun w => parts_any w)
  obtain ⟨R, hR⟩ : ∃ R, goP F b s e (kinds t) p [] = R := ⟨_, rfl⟩
  rw [hR]
  have HR := Lib.hid hR
  have HSM0 := Lib.hid (kinds_small t).2
  have HL0 := Lib.hid (kinds_small t).1
  have HSH := Lib.hid hS
  have HFD := Lib.hid hfind
  obtain ⟨av, cv, rfl, _⟩ := hS
  rw [iz_len] at HSH HFD ⊢
  clear hR hfind
  go_enter_defers Tryz.func170, Tryz.ntmps170
  go_wp2_with fail
  refine (HPt.out _).mono ?_
  rintro e0 w1 ⟨m, rfl, hb1, hlook⟩
  have HB1 := Lib.hid hb1
  rcases hlook t ht with ⟨hk, hl⟩ | ⟨v, hrow, hl⟩
  · have hrw := row_r (W := w1)
    have hbw := bel_call HB1.out hrw.2
    obtain ⟨ks, hks⟩ : ∃ ks, [PK.rst] = ks := ⟨_, rfl⟩
    rw [hk, hks] at HR HSM0 HL0
    have HN := Lib.hid (show ks.length = 1 by rw [← hks]; rfl)
    have HROW := Lib.hid (show RowK (w1.alloc (.cells #[.func (.func 177) #[] #[]] 228)) (w1.heap.size + 1) (.slice (some ⟨w1.heap.size, 0, none⟩) 1 1) ks from hks ▸ hrw.1)
    obtain ⟨HRR0, HCS0, HKC0, HSLA0, HFI0, HBAD0, HFIN0⟩ := rd_setup (f := 135) hbw HSH.out hhi HFD.out
    have HRR := Lib.hid HRR0
    have HCS := Lib.hid HCS0
    have HKC := Lib.hid HKC0
    have HSLA := Lib.hid HSLA0
    have HFI := Lib.hid HFI0
    have HBAD := Lib.hid HBAD0
    have HFIN := Lib.hid HFIN0
    have HSM := HSM0
    clear HRR0 HCS0 HKC0 HSLA0 HFI0 HBAD0 HFIN0 hbw hrw hks hb1 hlook HB1 HPt
    go_wp2_with fail
    obtain ⟨w4, hw4⟩ : ∃ w4, w1.alloc (.cells #[.func (.func 177) #[] #[]] 228) = w4 := ⟨_, rfl⟩
    rw [hw4] at HROW HRR HCS HKC HSLA HFI HBAD HFIN ⊢
    obtain ⟨mm, hmm⟩ : ∃ mm, w1.heap.size + 1 = mm := ⟨_, rfl⟩
    obtain ⟨gg, hgg⟩ : ∃ gg, w1.heap.size = gg := ⟨_, rfl⟩
    rw [hmm, hgg] at HROW
    rw [hgg]
    clear hw4 hmm hgg
    obtain ⟨B, hB⟩ : ∃ B, w4.heap.size = B := ⟨_, rfl⟩
    have HB := Lib.hid hB
    rw [hB] at HRR HKC HSLA HFI HBAD HFIN
    clear hB
    go_loopg [22] 1 (fun g v22 wr => ∃ (k q : Nat) (acc : List Pc), k + g = 1 ∧ v22 = .int .i64 k ∧ q ≤ e ∧ acc.length = k ∧ Hid (Rr wr B w.heap.size (.slice av b.length cv) (.func (.func 135) #[] #[]) s q e acc) ∧ Hid (Aside (RG B w.heap.size) w4 wr) ∧ Hid (goP F b s e (ks.drop k) q acc = R))
    case atStart => exact ⟨0, p, [], by omega, rfl, hpe, rfl, HRR, Aside.refl _ _, HR⟩
    case round =>
      obtain ⟨k, q, acc, hk, rfl, hqe, hacc, HRr, HAs, HG⟩ := hrel
      by_cases hlt0 : k < 1
      · have hlt : k < ks.length := by have := HN.out; omega
        have hrow := (HROW.out).over (by omega) HCS.out (Nat.le_of_eq HB.out) HAs.out
        obtain ⟨g0, c0, _, he0, hcell⟩ := hrow
        injection he0 with he1 he2 he3
        injection he1 with he1
        injection he1 with he1 _ _
        subst he1
        clear he2 he3
        obtain ⟨u, hu, hpv⟩ := hcell k hlt
        have hg := HG.out
        rw [List.drop_eq_getElem_cons hlt, goP] at hg
        have hle := fun x y => step_le (F := F) (b := b) (s := s) (x := x) (q := y) hqe (k := ks[k])
        have hsm := HSM.out ks[k] (List.getElem_mem hlt)
        have HSL := Lib.hid (HSLA.out _ HAs.out)
        have HFO := Lib.hid (HFI.out.later HAs.out)
        have HST : Hid (∀ k0, ks[k] = k0 → stepP F b s e q ks[k] = stepP F b s e q k0) := fun k0 h => by rw [h]
        obtain ⟨k0, hk0⟩ : ∃ k0, ks[k] = k0 := ⟨_, rfl⟩
        rw [hk0] at hpv hg hle hsm
        obtain ⟨Y, hY⟩ : ∃ Y, stepP F b s e q k0 = Y := ⟨_, rfl⟩
        rw [hY] at hg hle
        clear hcell HST hk0
        cases k0 with
        | fix n =>
          obtain ⟨bx, _, rfl, hbx⟩ := hpv
          have HC : Hid (Calls Tryz.prog 186 #[.pointer (some ⟨w.heap.size, 0, none⟩), .pointer (some ⟨bx, 0, none⟩)] wr (StepPost wr B w.heap.size (.slice av b.length cv) (.func (.func 135) #[] #[]) s e acc Y)) := hY ▸ fixedR_any HRr.out HSL.out he hqe (by have := hsm n rfl; omega) hbl hbx (by omega)
          clear hY
          rcases Y with ⟨x, q'⟩ | ⟨cc, aa⟩
          · have hq' := hle x q' rfl
            have HG2 := Lib.hid hg
            have HCC := Lib.hid (show Calls Tryz.prog 186 #[.pointer (some ⟨w.heap.size, 0, none⟩), .pointer (some ⟨bx, 0, none⟩)] wr (Gone wr B w.heap.size (.slice av b.length cv) (.func (.func 135) #[] #[]) s e q' (acc ++ [x])) from HC.out)
            clear hg hle hsm HC
            go_wp2_with fail
            refine HCC.out.mono ?_; rintro en w5 ⟨rfl, hr5, ha5⟩
            have HR5 := Lib.hid hr5
            have HA5 := Lib.hid (HAs.out.trans ha5)
            clear hr5 ha5
            go_wp2_with fail
            go_roundg (1 - (k + 1))
            case measure => omega
            case rel => exact ⟨k + 1, q', acc ++ [x], by omega, by go_num, hq', by rw [List.length_append, hacc]; rfl, HR5, HA5, HG2⟩
          · have hRb : R = .bad cc aa := hg.symm
            subst hRb
            have HCC := Lib.hid (show Calls Tryz.prog 186 #[.pointer (some ⟨w.heap.size, 0, none⟩), .pointer (some ⟨bx, 0, none⟩)] wr (Lost wr B w.heap.size cc aa) from HC.out)
            clear hg hle hsm HC
            go_wp2_with fail
            refine HCC.out.mono ?_; rintro en w5 ⟨rfl, ha5⟩
            have HAd := Lib.hid (HAs.out.trans ha5)
            obtain ⟨k0, k1, k2, f2, f3⟩ := HKC.out _ HAd.out
            refine leaves_cons (f := 175) (args := #[.pointer (some ⟨w.heap.size + 1, 0, none⟩), .pointer (some ⟨w.heap.size + 1 + 1, 0, none⟩)]) (by simp) (by simp [go_sem]) ?_
            refine (mcatch_fault (w.heap.size + 1) (w.heap.size + 1 + 1) (by omega) cc aa _ _ k0 k1 k2 f2 f3).mono ?_
            rintro e9 u' w9 ⟨rfl, rfl, hc9⟩
            obtain ⟨_, m0, m1, m2⟩ := id hc9
            simp [Leaves, settle, results, Tryz.results170, go_sem, m0, m1, m2]
            exact HBAD.out _ _ _ _ HAd.out hc9
        | nam =>
          have hpv : u = _ := hpv; subst hpv
          have HC : Hid (Calls Tryz.prog 182 #[.pointer (some ⟨w.heap.size, 0, none⟩)] wr (StepPost wr B w.heap.size (.slice av b.length cv) (.func (.func 135) #[] #[]) s e acc Y)) := hY ▸ nameR_read HRr.out HFO.out (by omega) (by omega)
          clear hY
          rcases Y with ⟨x, q'⟩ | ⟨cc, aa⟩
          · have hq' := hle x q' rfl
            have HG2 := Lib.hid hg
            have HCC := Lib.hid (show Calls Tryz.prog 182 #[.pointer (some ⟨w.heap.size, 0, none⟩)] wr (Gone wr B w.heap.size (.slice av b.length cv) (.func (.func 135) #[] #[]) s e q' (acc ++ [x])) from HC.out)
            clear hg hle hsm HC
            go_wp2_with fail
            refine HCC.out.mono ?_; rintro en w5 ⟨rfl, hr5, ha5⟩
            have HR5 := Lib.hid hr5
            have HA5 := Lib.hid (HAs.out.trans ha5)
            clear hr5 ha5
            go_wp2_with fail
            go_roundg (1 - (k + 1))
            case measure => omega
            case rel => exact ⟨k + 1, q', acc ++ [x], by omega, by go_num, hq', by rw [List.length_append, hacc]; rfl, HR5, HA5, HG2⟩
          · have hRb : R = .bad cc aa := hg.symm
            subst hRb
            have HCC := Lib.hid (show Calls Tryz.prog 182 #[.pointer (some ⟨w.heap.size, 0, none⟩)] wr (Lost wr B w.heap.size cc aa) from HC.out)
            clear hg hle hsm HC
            go_wp2_with fail
            refine HCC.out.mono ?_; rintro en w5 ⟨rfl, ha5⟩
            have HAd := Lib.hid (HAs.out.trans ha5)
            obtain ⟨k0, k1, k2, f2, f3⟩ := HKC.out _ HAd.out
            refine leaves_cons (f := 175) (args := #[.pointer (some ⟨w.heap.size + 1, 0, none⟩), .pointer (some ⟨w.heap.size + 1 + 1, 0, none⟩)]) (by simp) (by simp [go_sem]) ?_
            refine (mcatch_fault (w.heap.size + 1) (w.heap.size + 1 + 1) (by omega) cc aa _ _ k0 k1 k2 f2 f3).mono ?_
            rintro e9 u' w9 ⟨rfl, rfl, hc9⟩
            obtain ⟨_, m0, m1, m2⟩ := id hc9
            simp [Leaves, settle, results, Tryz.results170, go_sem, m0, m1, m2]
            exact HBAD.out _ _ _ _ HAd.out hc9
        | txt =>
          have hpv : u = _ := hpv; subst hpv
          have HC : Hid (Calls Tryz.prog 183 #[.pointer (some ⟨w.heap.size, 0, none⟩)] wr (StepPost wr B w.heap.size (.slice av b.length cv) (.func (.func 135) #[] #[]) s e acc Y)) := hY ▸ textsR_any HRr.out HSL.out he hqe hbl (by omega)
          clear hY
          rcases Y with ⟨x, q'⟩ | ⟨cc, aa⟩
          · have hq' := hle x q' rfl
            have HG2 := Lib.hid hg
            have HCC := Lib.hid (show Calls Tryz.prog 183 #[.pointer (some ⟨w.heap.size, 0, none⟩)] wr (Gone wr B w.heap.size (.slice av b.length cv) (.func (.func 135) #[] #[]) s e q' (acc ++ [x])) from HC.out)
            clear hg hle hsm HC
            go_wp2_with fail
            refine HCC.out.mono ?_; rintro en w5 ⟨rfl, hr5, ha5⟩
            have HR5 := Lib.hid hr5
            have HA5 := Lib.hid (HAs.out.trans ha5)
            clear hr5 ha5
            go_wp2_with fail
            go_roundg (1 - (k + 1))
            case measure => omega
            case rel => exact ⟨k + 1, q', acc ++ [x], by omega, by go_num, hq', by rw [List.length_append, hacc]; rfl, HR5, HA5, HG2⟩
          · have hRb : R = .bad cc aa := hg.symm
            subst hRb
            have HCC := Lib.hid (show Calls Tryz.prog 183 #[.pointer (some ⟨w.heap.size, 0, none⟩)] wr (Lost wr B w.heap.size cc aa) from HC.out)
            clear hg hle hsm HC
            go_wp2_with fail
            refine HCC.out.mono ?_; rintro en w5 ⟨rfl, ha5⟩
            have HAd := Lib.hid (HAs.out.trans ha5)
            obtain ⟨k0, k1, k2, f2, f3⟩ := HKC.out _ HAd.out
            refine leaves_cons (f := 175) (args := #[.pointer (some ⟨w.heap.size + 1, 0, none⟩), .pointer (some ⟨w.heap.size + 1 + 1, 0, none⟩)]) (by simp) (by simp [go_sem]) ?_
            refine (mcatch_fault (w.heap.size + 1) (w.heap.size + 1 + 1) (by omega) cc aa _ _ k0 k1 k2 f2 f3).mono ?_
            rintro e9 u' w9 ⟨rfl, rfl, hc9⟩
            obtain ⟨_, m0, m1, m2⟩ := id hc9
            simp [Leaves, settle, results, Tryz.results170, go_sem, m0, m1, m2]
            exact HBAD.out _ _ _ _ HAd.out hc9
        | rst =>
          have hpv : u = _ := hpv; subst hpv
          have HC : Hid (Calls Tryz.prog 177 #[.pointer (some ⟨w.heap.size, 0, none⟩)] wr (StepPost wr B w.heap.size (.slice av b.length cv) (.func (.func 135) #[] #[]) s e acc Y)) := hY ▸ restR_any HRr.out HSL.out he hqe (by omega)
          clear hY
          rcases Y with ⟨x, q'⟩ | ⟨cc, aa⟩
          · have hq' := hle x q' rfl
            have HG2 := Lib.hid hg
            have HCC := Lib.hid (show Calls Tryz.prog 177 #[.pointer (some ⟨w.heap.size, 0, none⟩)] wr (Gone wr B w.heap.size (.slice av b.length cv) (.func (.func 135) #[] #[]) s e q' (acc ++ [x])) from HC.out)
            clear hg hle hsm HC
            go_wp2_with fail
            refine HCC.out.mono ?_; rintro en w5 ⟨rfl, hr5, ha5⟩
            have HR5 := Lib.hid hr5
            have HA5 := Lib.hid (HAs.out.trans ha5)
            clear hr5 ha5
            go_wp2_with fail
            go_roundg (1 - (k + 1))
            case measure => omega
            case rel => exact ⟨k + 1, q', acc ++ [x], by omega, by go_num, hq', by rw [List.length_append, hacc]; rfl, HR5, HA5, HG2⟩
          · have hRb : R = .bad cc aa := hg.symm
            subst hRb
            have HCC := Lib.hid (show Calls Tryz.prog 177 #[.pointer (some ⟨w.heap.size, 0, none⟩)] wr (Lost wr B w.heap.size cc aa) from HC.out)
            clear hg hle hsm HC
            go_wp2_with fail
            refine HCC.out.mono ?_; rintro en w5 ⟨rfl, ha5⟩
            have HAd := Lib.hid (HAs.out.trans ha5)
            obtain ⟨k0, k1, k2, f2, f3⟩ := HKC.out _ HAd.out
            refine leaves_cons (f := 175) (args := #[.pointer (some ⟨w.heap.size + 1, 0, none⟩), .pointer (some ⟨w.heap.size + 1 + 1, 0, none⟩)]) (by simp) (by simp [go_sem]) ?_
            refine (mcatch_fault (w.heap.size + 1) (w.heap.size + 1 + 1) (by omega) cc aa _ _ k0 k1 k2 f2 f3).mono ?_
            rintro e9 u' w9 ⟨rfl, rfl, hc9⟩
            obtain ⟨_, m0, m1, m2⟩ := id hc9
            simp [Leaves, settle, results, Tryz.results170, go_sem, m0, m1, m2]
            exact HBAD.out _ _ _ _ HAd.out hc9
      · have hke : k = ks.length := by have := HN.out; omega
        have hg := HG.out
        rw [List.drop_eq_nil_of_le (by omega), goP] at hg
        have c2 := HRr.out.c2
        have c3 := HRr.out.c3
        have t1 : ¬ ((k : Int) < 1) := by omega
        by_cases hlast : q < e
        · rw [if_pos hlast] at hg
          subst hg
          have t2 : decide ((q : Int) < e) = true := by simp; omega
          have HFl := Lib.hid (rfail_any HRr.out)
          go_wp2_with fail
          refine HFl.out.mono ?_; rintro en w5 ⟨rfl, rfl⟩
          have HAd := Lib.hid (HAs.out)
          obtain ⟨k0, k1, k2, f2, f3⟩ := HKC.out _ HAd.out
          refine leaves_cons (f := 175) (args := #[.pointer (some ⟨w.heap.size + 1, 0, none⟩), .pointer (some ⟨w.heap.size + 1 + 1, 0, none⟩)]) (by simp) (by simp [go_sem]) ?_
          refine (mcatch_fault (w.heap.size + 1) (w.heap.size + 1 + 1) (by omega) 4 s _ _ k0 k1 k2 f2 f3).mono ?_
          rintro e9 u' w9 ⟨rfl, rfl, hc9⟩
          obtain ⟨_, m0, m1, m2⟩ := id hc9
          simp [Leaves, settle, results, Tryz.results170, go_sem, m0, m1, m2]
          exact HBAD.out _ _ _ _ HAd.out hc9
        · rw [if_neg hlast] at hg
          subst hg
          have t2 : decide ((q : Int) < e) = false := by simp; omega
          obtain ⟨vp, c5, hown⟩ := HRr.out.c5
          obtain ⟨ap, cp, hvp⟩ := hown.shape
          obtain ⟨zl, hzl⟩ : ∃ zl, acc.length = zl := ⟨_, rfl⟩
          rw [hzl] at hvp
          subst hvp
          clear hzl
          have HOwn := Lib.hid hown
          obtain ⟨k0, k1, k2, f2, f3⟩ := HKC.out _ HAs.out
          have HF := Lib.hid (HFIN.out _ _ _ HAs.out HOwn.out)
          have f20 := f2 0
          have f30 := f3 0
          have f31 := f3 1
          clear hown f2 f3
          go_wp2_with fail
          obtain ⟨Wf, hWf, x0, x1, x2, ho, hb⟩ := HF.out
          rw [← hWf]
          clear hWf
          refine leaves_cons (f := 175) (args := #[.pointer (some ⟨w.heap.size + 1, 0, none⟩), .pointer (some ⟨w.heap.size + 1 + 1, 0, none⟩)]) (by simp) (by simp [go_sem]) ?_
          refine (mcatch_idle ⟨w.heap.size + 1, 0, none⟩ ⟨w.heap.size + 1 + 1, 0, none⟩ _).mono ?_
          rintro en u' w9 ⟨rfl, rfl, rfl⟩
          have hal : Below Wf.heap.size Wf (Wf.alloc (.cells #[.int .i64 0, .int .i64 0] 220)) := (Below.refl _ Wf).alloc (Nat.le_refl _) _
          have a0 := cell_later hal x0
          have a1 := cell_later hal x1
          have a2 := cell_later hal x2
          simp [Leaves, settle, results, Tryz.results170, go_sem, a0, a1, a2]
          exact ⟨_, rfl, ho.below hal, hb.alloc hb.size _⟩
  · have hrow1 := hrow
    obtain ⟨gg, cg, _, hv, _⟩ := hrow
    subst hv
    obtain ⟨ks, hks⟩ : ∃ ks, kinds t = ks := ⟨_, rfl⟩
    rw [hks] at HR HSM0 HL0 hrow1 hl
    obtain ⟨nn, hn⟩ : ∃ nn, ks.length = nn := ⟨_, rfl⟩
    have HN := Lib.hid hn
    rw [hn] at hl hrow1 HL0
    have HROW := Lib.hid hrow1
    obtain ⟨HRR0, HCS0, HKC0, HSLA0, HFI0, HBAD0, HFIN0⟩ := rd_setup (f := 135) hb1 HSH.out hhi HFD.out
    have HRR := Lib.hid HRR0
    have HCS := Lib.hid HCS0
    have HKC := Lib.hid HKC0
    have HSLA := Lib.hid HSLA0
    have HFI := Lib.hid HFI0
    have HBAD := Lib.hid HBAD0
    have HFIN := Lib.hid HFIN0
    have HSM := HSM0
    have hn3 := HL0.out
    clear HRR0 HCS0 HKC0 HSLA0 HFI0 HBAD0 HFIN0 hrow1 hks hn hb1 hlook HB1 HPt
    go_wp2_with fail
    obtain ⟨w4, hw4⟩ : ∃ w4, w1 = w4 := ⟨_, rfl⟩
    rw [hw4] at HROW HRR HCS HKC HSLA HFI HBAD HFIN ⊢
    clear hw4
    obtain ⟨B, hB⟩ : ∃ B, w4.heap.size = B := ⟨_, rfl⟩
    have HB := Lib.hid hB
    rw [hB] at HRR HKC HSLA HFI HBAD HFIN
    clear hB
    go_loopg [22] nn (fun g v22 wr => ∃ (k q : Nat) (acc : List Pc), k + g = nn ∧ v22 = .int .i64 k ∧ q ≤ e ∧ acc.length = k ∧ Hid (Rr wr B w.heap.size (.slice av b.length cv) (.func (.func 135) #[] #[]) s q e acc) ∧ Hid (Aside (RG B w.heap.size) w4 wr) ∧ Hid (goP F b s e (ks.drop k) q acc = R))
    case atStart => exact ⟨0, p, [], by omega, rfl, hpe, rfl, HRR, Aside.refl _ _, HR⟩
    case round =>
      obtain ⟨k, q, acc, hk, rfl, hqe, hacc, HRr, HAs, HG⟩ := hrel
      by_cases hlt0 : k < nn
      · have hlt : k < ks.length := by have := HN.out; omega
        have hrow := (HROW.out).over (by omega) HCS.out (Nat.le_of_eq HB.out) HAs.out
        obtain ⟨g0, c0, _, he0, hcell⟩ := hrow
        injection he0 with he1 he2 he3
        injection he1 with he1
        injection he1 with he1 _ _
        subst he1
        clear he2 he3
        obtain ⟨u, hu, hpv⟩ := hcell k hlt
        have hg := HG.out
        rw [List.drop_eq_getElem_cons hlt, goP] at hg
        have hle := fun x y => step_le (F := F) (b := b) (s := s) (x := x) (q := y) hqe (k := ks[k])
        have hsm := HSM.out ks[k] (List.getElem_mem hlt)
        have HSL := Lib.hid (HSLA.out _ HAs.out)
        have HFO := Lib.hid (HFI.out.later HAs.out)
        have HST : Hid (∀ k0, ks[k] = k0 → stepP F b s e q ks[k] = stepP F b s e q k0) := fun k0 h => by rw [h]
        obtain ⟨k0, hk0⟩ : ∃ k0, ks[k] = k0 := ⟨_, rfl⟩
        rw [hk0] at hpv hg hle hsm
        obtain ⟨Y, hY⟩ : ∃ Y, stepP F b s e q k0 = Y := ⟨_, rfl⟩
        rw [hY] at hg hle
        clear hcell HST hk0
        cases k0 with
        | fix n =>
          obtain ⟨bx, _, rfl, hbx⟩ := hpv
          have HC : Hid (Calls Tryz.prog 186 #[.pointer (some ⟨w.heap.size, 0, none⟩), .pointer (some ⟨bx, 0, none⟩)] wr (StepPost wr B w.heap.size (.slice av b.length cv) (.func (.func 135) #[] #[]) s e acc Y)) := hY ▸ fixedR_any HRr.out HSL.out he hqe (by have := hsm n rfl; omega) hbl hbx (by omega)
          clear hY
          rcases Y with ⟨x, q'⟩ | ⟨cc, aa⟩
          · have hq' := hle x q' rfl
            have HG2 := Lib.hid hg
            have HCC := Lib.hid (show Calls Tryz.prog 186 #[.pointer (some ⟨w.heap.size, 0, none⟩), .pointer (some ⟨bx, 0, none⟩)] wr (Gone wr B w.heap.size (.slice av b.length cv) (.func (.func 135) #[] #[]) s e q' (acc ++ [x])) from HC.out)
            clear hg hle hsm HC
            go_wp2_with fail
            refine HCC.out.mono ?_; rintro en w5 ⟨rfl, hr5, ha5⟩
            have HR5 := Lib.hid hr5
            have HA5 := Lib.hid (HAs.out.trans ha5)
            clear hr5 ha5
            go_wp2_with fail
            go_roundg (nn - (k + 1))
            case measure => omega
            case rel => exact ⟨k + 1, q', acc ++ [x], by omega, by go_num, hq', by rw [List.length_append, hacc]; rfl, HR5, HA5, HG2⟩
          · have hRb : R = .bad cc aa := hg.symm
            subst hRb
            have HCC := Lib.hid (show Calls Tryz.prog 186 #[.pointer (some ⟨w.heap.size, 0, none⟩), .pointer (some ⟨bx, 0, none⟩)] wr (Lost wr B w.heap.size cc aa) from HC.out)
            clear hg hle hsm HC
            go_wp2_with fail
            refine HCC.out.mono ?_; rintro en w5 ⟨rfl, ha5⟩
            have HAd := Lib.hid (HAs.out.trans ha5)
            obtain ⟨k0, k1, k2, f2, f3⟩ := HKC.out _ HAd.out
            refine leaves_cons (f := 175) (args := #[.pointer (some ⟨w.heap.size + 1, 0, none⟩), .pointer (some ⟨w.heap.size + 1 + 1, 0, none⟩)]) (by simp) (by simp [go_sem]) ?_
            refine (mcatch_fault (w.heap.size + 1) (w.heap.size + 1 + 1) (by omega) cc aa _ _ k0 k1 k2 f2 f3).mono ?_
            rintro e9 u' w9 ⟨rfl, rfl, hc9⟩
            obtain ⟨_, m0, m1, m2⟩ := id hc9
            simp [Leaves, settle, results, Tryz.results170, go_sem, m0, m1, m2]
            exact HBAD.out _ _ _ _ HAd.out hc9
        | nam =>
          have hpv : u = _ := hpv; subst hpv
          have HC : Hid (Calls Tryz.prog 182 #[.pointer (some ⟨w.heap.size, 0, none⟩)] wr (StepPost wr B w.heap.size (.slice av b.length cv) (.func (.func 135) #[] #[]) s e acc Y)) := hY ▸ nameR_read HRr.out HFO.out (by omega) (by omega)
          clear hY
          rcases Y with ⟨x, q'⟩ | ⟨cc, aa⟩
          · have hq' := hle x q' rfl
            have HG2 := Lib.hid hg
            have HCC := Lib.hid (show Calls Tryz.prog 182 #[.pointer (some ⟨w.heap.size, 0, none⟩)] wr (Gone wr B w.heap.size (.slice av b.length cv) (.func (.func 135) #[] #[]) s e q' (acc ++ [x])) from HC.out)
            clear hg hle hsm HC
            go_wp2_with fail
            refine HCC.out.mono ?_; rintro en w5 ⟨rfl, hr5, ha5⟩
            have HR5 := Lib.hid hr5
            have HA5 := Lib.hid (HAs.out.trans ha5)
            clear hr5 ha5
            go_wp2_with fail
            go_roundg (nn - (k + 1))
            case measure => omega
            case rel => exact ⟨k + 1, q', acc ++ [x], by omega, by go_num, hq', by rw [List.length_append, hacc]; rfl, HR5, HA5, HG2⟩
          · have hRb : R = .bad cc aa := hg.symm
            subst hRb
            have HCC := Lib.hid (show Calls Tryz.prog 182 #[.pointer (some ⟨w.heap.size, 0, none⟩)] wr (Lost wr B w.heap.size cc aa) from HC.out)
            clear hg hle hsm HC
            go_wp2_with fail
            refine HCC.out.mono ?_; rintro en w5 ⟨rfl, ha5⟩
            have HAd := Lib.hid (HAs.out.trans ha5)
            obtain ⟨k0, k1, k2, f2, f3⟩ := HKC.out _ HAd.out
            refine leaves_cons (f := 175) (args := #[.pointer (some ⟨w.heap.size + 1, 0, none⟩), .pointer (some ⟨w.heap.size + 1 + 1, 0, none⟩)]) (by simp) (by simp [go_sem]) ?_
            refine (mcatch_fault (w.heap.size + 1) (w.heap.size + 1 + 1) (by omega) cc aa _ _ k0 k1 k2 f2 f3).mono ?_
            rintro e9 u' w9 ⟨rfl, rfl, hc9⟩
            obtain ⟨_, m0, m1, m2⟩ := id hc9
            simp [Leaves, settle, results, Tryz.results170, go_sem, m0, m1, m2]
            exact HBAD.out _ _ _ _ HAd.out hc9
        | txt =>
          have hpv : u = _ := hpv; subst hpv
          have HC : Hid (Calls Tryz.prog 183 #[.pointer (some ⟨w.heap.size, 0, none⟩)] wr (StepPost wr B w.heap.size (.slice av b.length cv) (.func (.func 135) #[] #[]) s e acc Y)) := hY ▸ textsR_any HRr.out HSL.out he hqe hbl (by omega)
          clear hY
          rcases Y with ⟨x, q'⟩ | ⟨cc, aa⟩
          · have hq' := hle x q' rfl
            have HG2 := Lib.hid hg
            have HCC := Lib.hid (show Calls Tryz.prog 183 #[.pointer (some ⟨w.heap.size, 0, none⟩)] wr (Gone wr B w.heap.size (.slice av b.length cv) (.func (.func 135) #[] #[]) s e q' (acc ++ [x])) from HC.out)
            clear hg hle hsm HC
            go_wp2_with fail
            refine HCC.out.mono ?_; rintro en w5 ⟨rfl, hr5, ha5⟩
            have HR5 := Lib.hid hr5
            have HA5 := Lib.hid (HAs.out.trans ha5)
            clear hr5 ha5
            go_wp2_with fail
            go_roundg (nn - (k + 1))
            case measure => omega
            case rel => exact ⟨k + 1, q', acc ++ [x], by omega, by go_num, hq', by rw [List.length_append, hacc]; rfl, HR5, HA5, HG2⟩
          · have hRb : R = .bad cc aa := hg.symm
            subst hRb
            have HCC := Lib.hid (show Calls Tryz.prog 183 #[.pointer (some ⟨w.heap.size, 0, none⟩)] wr (Lost wr B w.heap.size cc aa) from HC.out)
            clear hg hle hsm HC
            go_wp2_with fail
            refine HCC.out.mono ?_; rintro en w5 ⟨rfl, ha5⟩
            have HAd := Lib.hid (HAs.out.trans ha5)
            obtain ⟨k0, k1, k2, f2, f3⟩ := HKC.out _ HAd.out
            refine leaves_cons (f := 175) (args := #[.pointer (some ⟨w.heap.size + 1, 0, none⟩), .pointer (some ⟨w.heap.size + 1 + 1, 0, none⟩)]) (by simp) (by simp [go_sem]) ?_
            refine (mcatch_fault (w.heap.size + 1) (w.heap.size + 1 + 1) (by omega) cc aa _ _ k0 k1 k2 f2 f3).mono ?_
            rintro e9 u' w9 ⟨rfl, rfl, hc9⟩
            obtain ⟨_, m0, m1, m2⟩ := id hc9
            simp [Leaves, settle, results, Tryz.results170, go_sem, m0, m1, m2]
            exact HBAD.out _ _ _ _ HAd.out hc9
        | rst =>
          have hpv : u = _ := hpv; subst hpv
          have HC : Hid (Calls Tryz.prog 177 #[.pointer (some ⟨w.heap.size, 0, none⟩)] wr (StepPost wr B w.heap.size (.slice av b.length cv) (.func (.func 135) #[] #[]) s e acc Y)) := hY ▸ restR_any HRr.out HSL.out he hqe (by omega)
          clear hY
          rcases Y with ⟨x, q'⟩ | ⟨cc, aa⟩
          · have hq' := hle x q' rfl
            have HG2 := Lib.hid hg
            have HCC := Lib.hid (show Calls Tryz.prog 177 #[.pointer (some ⟨w.heap.size, 0, none⟩)] wr (Gone wr B w.heap.size (.slice av b.length cv) (.func (.func 135) #[] #[]) s e q' (acc ++ [x])) from HC.out)
            clear hg hle hsm HC
            go_wp2_with fail
            refine HCC.out.mono ?_; rintro en w5 ⟨rfl, hr5, ha5⟩
            have HR5 := Lib.hid hr5
            have HA5 := Lib.hid (HAs.out.trans ha5)
            clear hr5 ha5
            go_wp2_with fail
            go_roundg (nn - (k + 1))
            case measure => omega
            case rel => exact ⟨k + 1, q', acc ++ [x], by omega, by go_num, hq', by rw [List.length_append, hacc]; rfl, HR5, HA5, HG2⟩
          · have hRb : R = .bad cc aa := hg.symm
            subst hRb
            have HCC := Lib.hid (show Calls Tryz.prog 177 #[.pointer (some ⟨w.heap.size, 0, none⟩)] wr (Lost wr B w.heap.size cc aa) from HC.out)
            clear hg hle hsm HC
            go_wp2_with fail
            refine HCC.out.mono ?_; rintro en w5 ⟨rfl, ha5⟩
            have HAd := Lib.hid (HAs.out.trans ha5)
            obtain ⟨k0, k1, k2, f2, f3⟩ := HKC.out _ HAd.out
            refine leaves_cons (f := 175) (args := #[.pointer (some ⟨w.heap.size + 1, 0, none⟩), .pointer (some ⟨w.heap.size + 1 + 1, 0, none⟩)]) (by simp) (by simp [go_sem]) ?_
            refine (mcatch_fault (w.heap.size + 1) (w.heap.size + 1 + 1) (by omega) cc aa _ _ k0 k1 k2 f2 f3).mono ?_
            rintro e9 u' w9 ⟨rfl, rfl, hc9⟩
            obtain ⟨_, m0, m1, m2⟩ := id hc9
            simp [Leaves, settle, results, Tryz.results170, go_sem, m0, m1, m2]
            exact HBAD.out _ _ _ _ HAd.out hc9
      · have hke : k = ks.length := by have := HN.out; omega
        have hg := HG.out
        rw [List.drop_eq_nil_of_le (by omega), goP] at hg
        have c2 := HRr.out.c2
        have c3 := HRr.out.c3
        have t1 : ¬ ((k : Int) < nn) := by omega
        by_cases hlast : q < e
        · rw [if_pos hlast] at hg
          subst hg
          have t2 : decide ((q : Int) < e) = true := by simp; omega
          have HFl := Lib.hid (rfail_any HRr.out)
          go_wp2_with fail
          refine HFl.out.mono ?_; rintro en w5 ⟨rfl, rfl⟩
          have HAd := Lib.hid (HAs.out)
          obtain ⟨k0, k1, k2, f2, f3⟩ := HKC.out _ HAd.out
          refine leaves_cons (f := 175) (args := #[.pointer (some ⟨w.heap.size + 1, 0, none⟩), .pointer (some ⟨w.heap.size + 1 + 1, 0, none⟩)]) (by simp) (by simp [go_sem]) ?_
          refine (mcatch_fault (w.heap.size + 1) (w.heap.size + 1 + 1) (by omega) 4 s _ _ k0 k1 k2 f2 f3).mono ?_
          rintro e9 u' w9 ⟨rfl, rfl, hc9⟩
          obtain ⟨_, m0, m1, m2⟩ := id hc9
          simp [Leaves, settle, results, Tryz.results170, go_sem, m0, m1, m2]
          exact HBAD.out _ _ _ _ HAd.out hc9
        · rw [if_neg hlast] at hg
          subst hg
          have t2 : decide ((q : Int) < e) = false := by simp; omega
          obtain ⟨vp, c5, hown⟩ := HRr.out.c5
          obtain ⟨ap, cp, hvp⟩ := hown.shape
          obtain ⟨zl, hzl⟩ : ∃ zl, acc.length = zl := ⟨_, rfl⟩
          rw [hzl] at hvp
          subst hvp
          clear hzl
          have HOwn := Lib.hid hown
          obtain ⟨k0, k1, k2, f2, f3⟩ := HKC.out _ HAs.out
          have HF := Lib.hid (HFIN.out _ _ _ HAs.out HOwn.out)
          have f20 := f2 0
          have f30 := f3 0
          have f31 := f3 1
          clear hown f2 f3
          go_wp2_with fail
          obtain ⟨Wf, hWf, x0, x1, x2, ho, hb⟩ := HF.out
          rw [← hWf]
          clear hWf
          refine leaves_cons (f := 175) (args := #[.pointer (some ⟨w.heap.size + 1, 0, none⟩), .pointer (some ⟨w.heap.size + 1 + 1, 0, none⟩)]) (by simp) (by simp [go_sem]) ?_
          refine (mcatch_idle ⟨w.heap.size + 1, 0, none⟩ ⟨w.heap.size + 1 + 1, 0, none⟩ _).mono ?_
          rintro en u' w9 ⟨rfl, rfl, rfl⟩
          have hal : Below Wf.heap.size Wf (Wf.alloc (.cells #[.int .i64 0, .int .i64 0] 220)) := (Below.refl _ Wf).alloc (Nat.le_refl _) _
          have a0 := cell_later hal x0
          have a1 := cell_later hal x1
          have a2 := cell_later hal x2
          simp [Leaves, settle, results, Tryz.results170, go_sem, a0, a1, a2]
          exact ⟨_, rfl, ho.below hal, hb.alloc hb.size _⟩
end Go.Proofs.YteegekpanadmkaaGreat
