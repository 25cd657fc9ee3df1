/-
  The law's cut.
-/
import Derived.Test.YtkoohdacneflfaaGreatDoorZ10
import Derived.Test.YtkoohdacneflfaaGreatDoorZ01
import Derived.BigQuiet
import Derived.Deep.Draws
import Derived.LaidEqlPtr
import Derived.Test.YtkoohdacneflfaaGreatDoorZ02
import Derived.Test.YtkoohdacneflfaaGreatDoorRows
import Derived.Deep.LoopGhost
import Derived.Test.YtkoohdacneflfaaGreatDoorZ00
import Derived.Test.YtkoohdacneflfaaGreatDoorZ06
import Derived.Test.YtkoohdacneflfaaGreatDoorZ04
namespace Go.Proofs.YtkoohdacneflfaaGreatDoor
open Go.RowKit Go.Shelf
set_option linter.unusedVariables false
set_option linter.unusedSimpArgs false
set_option maxRecDepth 100000

/-- A slice of n numbers. -/
def Ints (w : World) (v : Value) (n : Nat) : Prop := ∃ a c, v = .slice a n c ∧ (0 < n → ∃ b off, a = some ⟨b, off, none⟩ ∧ b < w.heap.size ∧ ∀ j, j < n → ∃ x : Int, w.cell? ⟨b, off + j, none⟩ = some (.int .i64 x))

/-- Pieces of older bytes, in a row of the call's own. -/
structure Cut (w W : World) (v : Value) (us : List Value) (ls : List (List UInt8)) : Prop where
  row : OwnS W w.heap.size v us
  len : us.length = ls.length
  each : ∀ j, j < ls.length → Sl w 0 w.heap.size (us.getD j (.slice none 0 0)) (iz (ls.getD j []))

theorem Cut.bl {w W : World} {v : Value} {us : List Value} {ls : List (List UInt8)} (h : Cut w W v us ls) (hb : Below w.heap.size w W) : Bl W v ls :=
  h.row.bl h.len fun j hj => sl_up (h.each j hj) hb

/-- What is ahead of a place. -/
theorem upto_sl {w : World} {lo hi n c p : Nat} {a : Option Addr} {l : List UInt8} (h : Sl w lo hi (.slice a n c) (iz l)) (hn : n = l.length) (hp : p ≤ n) :
    ∃ sa sn sc, (∀ wx, (Instr.slice 28 (.slice a n c) none (some (.int .i64 p)) none).run Tryz.prog wx = .ok (.slice sa sn sc) wx) ∧ Sl w lo hi (.slice sa sn sc) (iz (l.take p)) := by
  subst hn
  have hc : l.length ≤ c := by
    obtain ⟨a', c', he, hc, _⟩ := h
    injection he with _ _ e3
    subst e3
    rwa [iz_len] at hc
  have h2 : Sl w lo hi (.slice a (iz l).length c) (iz l) := by rw [iz_len]; exact h
  obtain ⟨sv, e1, e2⟩ := slice_cut h2 (p := 0) (m := p) (by rw [iz_len]; omega)
  have e3 := e1 w
  rw [iz_len, show ((0 : Nat) : Int) + (p : Nat) = (p : Nat) by omega, run_slice_lh (P := Tryz.prog) w 28 a l.length c Tryz.underlying28 .i64 .i64 (0 : Nat) p (by omega) (by omega) (by omega), size5] at e3
  simp only [Result.andThen, Int.toNat_natCast] at e3
  injection e3 with e3
  rw [iz_cut, List.drop_zero] at e2
  refine ⟨_, _, _, fun wx => ?_, show Sl w lo hi (sliced a 0 p c 1) _ by rw [e3]; exact e2⟩
  rw [run_slice_h (P := Tryz.prog) wx 28 a l.length c Tryz.underlying28 .i64 p (by omega) (by omega), size5]
  simp only [Result.andThen, Int.toNat_natCast]
  rfl
end Go.Proofs.YtkoohdacneflfaaGreatDoor

/-
  Pick: a number from 0 on, below n.
-/
namespace Go.Proofs.YtkoohdacneflfaaGreatDoor
open Go.RowKit
set_option linter.unusedVariables false
set_option maxRecDepth 100000

set_option maxHeartbeats 400000 in
theorem pick_any (x n : Int) (w : World) (h1 : 1 ≤ n) (h2 : n ≤ 100000) : Calls Tryz.prog 30 #[.int .i64 x, .int .i64 n] w fun e w' => ∃ k : Nat, k < n ∧ e = .returned (.int .i64 k) ∧ w = w' := by
  go_enter Tryz.func30, Tryz.ntmps30
  go_wp2
  · go_ret
    refine ⟨(wrap64 (x.tmod n + n)).toNat, ?_, ?_, rfl⟩
    all_goals
      have h3 : -n < x.tmod n := by
        have := Int.tmod_lt_of_pos (-x) (b := n) (by omega)
        rw [Int.neg_tmod] at this
        omega
      have e : wrap64 (x.tmod n + n) = x.tmod n + n := IntWalk.wrap64_in _ ⟨by omega, by omega⟩
      rw [e]
    · omega
    · rw [Int.toNat_of_nonneg (by omega)]; rfl
  · go_ret
    have := Int.tmod_lt_of_pos x (b := n) (by omega)
    refine ⟨(x.tmod n).toNat, by omega, ?_, rfl⟩
    rw [Int.toNat_of_nonneg (by omega)]; rfl
end Go.Proofs.YtkoohdacneflfaaGreatDoor

/-
  The landed reader: its cells; fits, made, length, Want, Left, Broken, New.
-/
namespace Go.Proofs.YtkoohdacneflfaaGreatDoor
open Go.RowKit Go.Shelf
set_option linter.unusedVariables false
set_option linter.unusedSimpArgs false
set_option maxRecDepth 100000
variable {cs : Nat → Option Value}

/-- The reader in block r, whose buffer's row is o: its most, what it keeps, whether it is broken; at most t bytes have been written. -/
def Rr (w : World) (o : Option Nat) (r t M : Nat) (l : List UInt8) (out : Bool) : Prop :=
  ∃ cs : Nat → Option Value, cs 0 = some (.pointer (some ⟨r, 0, none⟩)) ∧ cs 1 = some (.int .i64 M) ∧ cs 5 = some (.bool out) ∧ Bf cs w o r 2 t l

theorem Bf.at {w : World} {o : Option Nat} {b q t : Nat} {l : List UInt8} (h : Bf cs w o b q t l) (j : Nat) (hj : j < q ∨ q + 2 < j) : w.cell? ⟨b, j, none⟩ = cs j := by
  obtain ⟨a, n, c, off, lr, zs, h1, _⟩ := h
  exact (h1.2.2.2 j).2 hj
theorem Bf.lt {w : World} {o : Option Nat} {b q t : Nat} {l : List UInt8} (h : Bf cs w o b q t l) : b < w.heap.size := by
  obtain ⟨a, n, c, off, lr, zs, h1, _⟩ := h
  exact h1.lt
/-- The row is another block than the reader's, and there. -/
theorem Bf.row {w : World} {o : Option Nat} {b q t : Nat} {l : List UInt8} (h : Bf cs w o b q t l) (g : Nat) (hg : o = some g) : g ≠ b ∧ g < w.heap.size := by
  obtain ⟨a, n, c, off, lr, zs, h1, ⟨_, _, ⟨h2, _⟩ | ⟨g', h2, _, h3, h4⟩⟩, _⟩ := h
  · rw [h2] at hg; exact absurd hg (by simp)
  · rw [h2] at hg; injection hg with hg; subst hg; exact ⟨h3, (Array.getElem?_eq_some_iff.mp h4).1⟩

section
variable {w w' : World} {o : Option Nat} {r t M : Nat} {l : List UInt8} {out : Bool} {G : Nat → Prop}
theorem Rr.self (h : Rr w o r t M l out) : w.cell? ⟨r, 0, none⟩ = some (.pointer (some ⟨r, 0, none⟩)) := by
  obtain ⟨cs, h0, h1, h5, hB⟩ := h
  exact (hB.at 0 (by omega)).trans h0
theorem Rr.lt (h : Rr w o r t M l out) : r < w.heap.size := World.block_lt_of_cell? w _ h.self

theorem Rr.aside (h : Rr w o r t M l out) (ha : Aside G w w') (h0 : ¬ G r) (h1 : ∀ g, o = some g → ¬ G g) : Rr w' o r t M l out := by
  obtain ⟨cs, g0, g1, g5, hB⟩ := h
  exact ⟨cs, g0, g1, g5, hB.aside ha h0 h1⟩

theorem Rr.below (h : Rr w o r t M l out) (hb : Below w.heap.size w w') : Rr w' o r t M l out :=
  h.aside (G := fun _ => False) (Aside.of_all hb) (fun h => h) fun _ _ h => h
end

end Go.Proofs.YtkoohdacneflfaaGreatDoor

/-
  The landed reader: Push.
-/
namespace Go.Proofs.YtkoohdacneflfaaGreatDoor
open Go.RowKit Go.Shelf
set_option linter.unusedVariables false
set_option linter.unusedSimpArgs false
set_option maxRecDepth 100000
attribute [local go_sem] Oper.semAt_some

theorem OwnS.but {w w' : World} {B : Nat} {v : Value} {us : List Value} {G : Nat → Prop} (h : OwnS w B v us) (ha : Aside G w w') (hG : ∀ b, v.ownBlock = some b → ¬ G b) : OwnS w' B v us := by
  have hlt := OwnZ.lt h
  rcases h with h2 | ⟨g, cap, hv, hg, h1, h2, hh⟩
  · exact .inl h2
  · exact .inr ⟨g, cap, hv, hg, h1, h2, (ha.block g (by subst hv; exact (hlt g rfl).2) (hG g (by subst hv; rfl))).trans hh⟩

/-- Told messages, none of them in the blocks X, nor the row of them. -/
structure ToldN (W : World) (B : Nat) (v : Value) (us : List Value) (ls : List (List UInt8)) (X : Nat → Prop) : Prop where
  told : Told W B v us ls
  row : ∀ b, v.ownBlock = some b → ¬ X b
  each : ∀ u ∈ us, ∀ b, u.ownBlock = some b → ¬ X b

section
variable {W W' : World} {B : Nat} {v : Value} {us : List Value} {ls : List (List UInt8)} {X X' G : Nat → Prop}
theorem ToldN.own (h : ToldN W B v us ls X) {u : Value} (hu : u ∈ us) : ∃ m, OwnB W B u m := by
  obtain ⟨j, hj, rfl⟩ := List.mem_iff_getElem.mp hu
  have := h.told.each j (by rw [← h.told.len]; exact hj)
  rw [List.getD, List.getElem?_eq_getElem hj] at this
  exact ⟨_, this⟩
theorem ToldN.aside (h : ToldN W B v us ls X) (ha : Aside G W W') (hG : ∀ b, B ≤ b → b < W.heap.size → G b → X b) (hX : ∀ b, B ≤ b → b < W.heap.size → X' b → X b) : ToldN W' B v us ls X' := by
  have hr := OwnZ.lt h.told.row
  refine ⟨⟨h.told.row.but ha fun b hb hg => h.row b hb (hG b (hr b hb).1 (hr b hb).2 hg), h.told.len, fun j hj => ?_⟩, fun b hb hx => h.row b hb (hX b (hr b hb).1 (hr b hb).2 hx), fun u hu b hb hx => ?_⟩
  · have h1 := h.told.each j hj
    have hju : j < us.length := by rw [h.told.len]; exact hj
    have h2 : us.getD j (.slice none 0 0) ∈ us := by rw [List.getD, List.getElem?_eq_getElem hju]; exact List.getElem_mem hju
    exact h1.aside ha fun b hb hg => h.each _ h2 b hb (hG b (h1.lt b hb).1 (h1.lt b hb).2 hg)
  · obtain ⟨m, hm⟩ := h.own hu
    exact h.each u hu b hb (hX b (hm.lt b hb).1 (hm.lt b hb).2 hx)
end

end Go.Proofs.YtkoohdacneflfaaGreatDoor

/-
  What FrameScript wants besides: CopyBytes, OverBytes of any rows, both readers pushed.
-/
namespace Go.Proofs.YtkoohdacneflfaaGreatDoor
open Go.RowKit Go.Shelf
set_option linter.unusedVariables false
set_option linter.unusedSimpArgs false
set_option maxRecDepth 100000

set_option maxHeartbeats 1000000 in
/-- CopyBytes: a row of the call's own. -/
theorem copyB_any {w : World} {lo hi : Nat} {v : Value} {l : List UInt8} (h : Sl w lo hi v (iz l)) (hl : l.length ≤ 900000) :
    Calls Tryz.prog 12 #[v] w fun e w' => ∃ v', e = .returned v' ∧ OwnB w' w.heap.size v' l ∧ Below w.heap.size w w' := by
  have HS := Lib.hid h
  obtain ⟨a, c, rfl, _⟩ := h
  rw [iz_len] at HS ⊢
  have o1 : OwnB (w.alloc (.cells #[] 5)) w.heap.size (.slice (some ⟨w.heap.size, 0, none⟩) 0 0) [] :=
    .inr ⟨w.heap.size, 0, (0, 0), rfl, Nat.le_refl _, Nat.le_refl _, Nat.zero_le _, .inl rfl, heap_alloc_new w _⟩
  have b1 : Below w.heap.size w (w.alloc (.cells #[] 5)) := (Below.refl _ _).alloc (Nat.le_refl _) _
  obtain ⟨a1, c1, X2, r1, o2, g2⟩ := run_appBs w.heap.size _ _ [] l o1 (HS.out.later b1) (by simpa using (by omega : l.length ≤ 1000000)) (by simp)
  simp only [List.length_nil, Nat.zero_add, List.nil_append] at r1 o2
  have b2 : Below w.heap.size w X2 := b1.trans (g2.below fun k hk => ⟨by simp; omega, fun e => by have e2 : w.heap.size = k := (by injection e); omega⟩)
  have HF := Lib.hid (And.intro o2 b2)
  clear o1 o2 b1 b2 g2
  go_enter Tryz.func12, Tryz.ntmps12
  go_wp2_with (at_builtin; refine Lib.wpList_append_run _ rfl _ _ _ _ rfl _ _ rfl rfl _ _ r1 ?_)
  go_ret
  exact ⟨_, rfl, HF.out⟩

set_option maxHeartbeats 400000 in
theorem over_keep (w : World) (g n c : Nat) (hn : n ≤ c) (hc : c ≤ 9223372036854775807) (h : Bytes w g c) : Calls Tryz.prog 19 #[.slice (some ⟨g, 0, none⟩) n c] w fun e w' => e = .returned (.tuple #[]) ∧ Only g w w' ∧ Bytes w' g c := by
  have H := Lib.hid h
  clear h
  go_enter Tryz.func19, Tryz.ntmps19
  go_wp2
  go_loopw [3] (fun i wr => ∃ k : Nat, k ≤ c ∧ i = .int .i64 k ∧ Hid (Bytes wr g c) ∧ Hid (Only g w wr)) (fun i _ => c - (intOf i).toNat)
  case atStart => exact ⟨0, Nat.zero_le _, rfl, H, Lib.hid (Only.refl g w)⟩
  case round =>
    obtain ⟨k, hk, rfl, HB, HO⟩ := hrel
    by_cases hlt : k < c
    · obtain ⟨x, hx⟩ := HB.out.cell hlt
      have hf := HB.out.frozen hlt
      go_wp2
      go_roundw
      case rel => exact ⟨k + 1, by omega, by go_num, Lib.hid (HB.out.set _), Lib.hid (HO.out.set _)⟩
      case measure => simp [intOf]; omega
    · go_wp2
      go_end0
      exact ⟨rfl, HO.out, HB.out⟩

/-- A row of bytes, whatever they are. -/
def OvB (W : World) (B : Nat) (u : Value) : Prop := u = .slice none 0 0 ∨ ∃ g n c, u = .slice (some ⟨g, 0, none⟩) n c ∧ n ≤ c ∧ c ≤ maxLen ∧ B ≤ g ∧ Bytes W g c

theorem OwnB.ov {w : World} {B : Nat} {v : Value} {l : List UInt8} (h : OwnB w B v l) : OvB w B v := by
  rcases h with ⟨rfl, rfl⟩ | ⟨g, cap, fz, rfl, hB, hl, hm, hz, hg⟩
  · exact .inl rfl
  · have hlist : rowB l cap = (iz l ++ List.replicate (cap - l.length) 0).map (Value.int .u8) := by
      unfold rowB
      rw [List.map_append, ub_iz, List.map_replicate]
    exact .inr ⟨g, _, cap, rfl, hl, hm, hB, iz l ++ List.replicate (cap - l.length) 0, fz, by simp; omega, hz, by rw [hg, hlist]⟩

theorem over_ov {w : World} {B : Nat} {v : Value} (h : OvB w B v) : Calls Tryz.prog 19 #[v] w fun e w' => e = .returned (.tuple #[]) ∧ Aside (fun b => v.ownBlock = some b) w w' ∧ ∀ B' u, OvB w B' u → OvB w' B' u := by
  rcases h with rfl | ⟨g, n, c, rfl, hn, hc, hB, hby⟩
  · exact (over_nil w).mono fun e w' ⟨he, hw⟩ => ⟨he, by subst hw; exact ⟨Aside.refl _ w, fun _ _ h => h⟩⟩
  · refine (over_keep w g n c hn (by unfold maxLen at hc; omega) hby).mono fun e w' ⟨he, hw, hb2⟩ => ⟨he, ⟨hw.1, hw.2.1, hw.2.2.1, by rw [hw.2.2.2.1]; exact Nat.le_refl _, fun k hk hk2 => hw.2.2.2.2 k fun e => hk2 (by subst e; rfl)⟩, fun B' u hu => ?_⟩
    rcases hu with h | ⟨g', n', c', h1, h2, h3, h4, h5⟩
    · exact .inl h
    · refine .inr ⟨g', n', c', h1, h2, h3, h4, ?_⟩
      by_cases e : g' = g
      · subst e
        obtain ⟨l1, f1, e1, _, e2⟩ := hby
        obtain ⟨l2, f2, e3, _, e4⟩ := h5
        rw [e2] at e4
        injection e4 with e4
        injection e4 with e5 _ _
        have e6 := congrArg Array.size e5
        simp at e6
        have : c = c' := by omega
        rw [← this]; exact hb2
      · obtain ⟨l2, f2, e3, e5, e4⟩ := h5
        exact ⟨l2, f2, e3, e5, (hw.2.2.2.2 g' e).trans e4⟩

/-- A row of byte slices is another block than those slices'. -/
theorem OwnS.apart {W : World} {B B' : Nat} {v u : Value} {us : List Value} (h : OwnS W B v us) (h' : OvB W B' u) : ∀ b, v.ownBlock = some b → ¬ u.ownBlock = some b := by
  intro b hb hb'
  rcases h with ⟨rfl, _⟩ | ⟨g, cap, rfl, _, _, _, hg⟩
  · cases hb
  rcases h' with rfl | ⟨g', n, c, rfl, _, _, _, l2, f2, _, _, hg'⟩
  · cases hb'
  have e1 : g = b := by injection hb
  have e2 : g' = b := by injection hb'
  subst e1; subst e2
  rw [hg] at hg'
  injection hg' with hg'
  injection hg' with _ h3 _
  exact absurd h3 (by decide)

end Go.Proofs.YtkoohdacneflfaaGreatDoor

/-
  Items in memory: a row of them, and what each leads to.
-/
namespace Go.Proofs.YtkoohdacneflfaaGreatDoor
open Go.RowKit Go.Shelf
set_option linter.unusedVariables false
set_option linter.unusedSimpArgs false
set_option maxRecDepth 100000

section
variable {w w' : World} {B B' k k' n n' : Nat} {e e' : TypeId} {v v' : Value} {xs ys : List Value}
theorem row_apart (h : w.ownsRow B e k v n xs) (h' : w.ownsRow B' e' k' v' n' ys) (he : e ≠ e') (b : Nat) (h1 : v.ownBlock = some b) (h2 : v'.ownBlock = some b) : False := by
  rcases h.2 with ⟨rfl, _⟩ | ⟨g, cap, cur, rfl, _, hg, _⟩
  · simp [Value.ownBlock] at h1
  · rcases h'.2 with ⟨rfl, _⟩ | ⟨g', cap', cur', rfl, _, hg', _⟩
    · simp [Value.ownBlock] at h2
    · simp [Value.ownBlock] at h1 h2
      subst h1; subst h2
      rw [hg] at hg'
      injection hg' with hg'
      injection hg' with _ h3
      exact he h3
theorem row_apartB {l : List UInt8} (h : OwnB w B v l) (h' : w.ownsRow B' e' k' v' n' ys) (he : e' ≠ 5) (b : Nat) (h1 : v.ownBlock = some b) (h2 : v'.ownBlock = some b) : False := by
  rcases h with ⟨rfl, _⟩ | ⟨g, cap, fz, rfl, _, _, _, _, hg⟩
  · simp [Value.ownBlock] at h1
  · rcases h'.2 with ⟨rfl, _⟩ | ⟨g', cap', cur', rfl, _, hg', _⟩
    · simp [Value.ownBlock] at h2
    · simp [Value.ownBlock] at h1 h2
      subst h1; subst h2
      rw [hg] at hg'
      injection hg' with hg'
      injection hg' with _ h3
      exact he h3.symm
/-- A row of bytes, whatever they are now, is another block than a row of others. -/
theorem row_apartV {u : Value} (h : OvB w B u) (h' : w.ownsRow B' e' k' v' n' ys) (he : e' ≠ 5) (b : Nat) (h1 : u.ownBlock = some b) (h2 : v'.ownBlock = some b) : False := by
  rcases h with rfl | ⟨g, n, c, rfl, _, _, _, l2, f2, _, _, hg⟩
  · cases h1
  · rcases h'.2 with ⟨rfl, _⟩ | ⟨g', cap', cur', rfl, _, hg', _⟩
    · simp [Value.ownBlock] at h2
    · simp [Value.ownBlock] at h1 h2
      subst h1; subst h2
      rw [hg] at hg'
      injection hg' with hg'
      injection hg' with _ h3
      exact he h3.symm
end

/-- An item as it lies: what it is, its fields, its body. -/
structure Rp where
  x : Ih
  s : Value
  b : Value
def cI (p : Rp) : List Value := [.int .i64 p.x.st, .string (bs p.x.h.m), .string (bs p.x.h.t), .int .i64 p.x.h.v, p.s, p.b, .bool p.x.k]
def hI (p : Rp) : Value := .agg #[.string (bs p.x.h.m), .string (bs p.x.h.t), .int .i64 p.x.h.v, p.s]
def vI (p : Rp) : Value := .agg #[.int .i64 p.x.st, .string (bs p.x.h.m), .string (bs p.x.h.t), .int .i64 p.x.h.v, p.s, p.b, .bool p.x.k]
def acI (l : List Rp) : List Value := l.flatMap cI
theorem acI_len (l : List Rp) : (acI l).length = l.length * 7 := flat_len (f := cI) (k := 7) (fun _ => rfl) l
theorem acI_app (l m : List Rp) : acI (l ++ m) = acI l ++ acI m := List.flatMap_append

/-- Fields from block N on, a body from block B on; none of it in the blocks X. -/
structure OkI (w : World) (N B : Nat) (X : Nat → Prop) (p : Rp) : Prop where
  f : OwnF w N p.s p.x.h.fs
  fl : p.x.h.fs.length ≤ 1000000
  fx : ∀ b, p.s.ownBlock = some b → ¬ X b
  b : OwnB w B p.b p.x.b
  bx : ∀ b, p.b.ownBlock = some b → ¬ X b
section
variable {w w' : World} {N N' B B' : Nat} {X X' G : Nat → Prop} {p : Rp}
theorem OkI.aside (h : OkI w N B X p) (ha : Aside G w w') (hG : ∀ b, b < w.heap.size → G b → X b) (hX : ∀ b, b < w.heap.size → X' b → X b) : OkI w' N B X' p :=
  ⟨row_aside h.f ha fun b hb hg => h.fx b hb (hG b (h.f.lt b hb).2 hg), h.fl, fun b hb hx => h.fx b hb (hX b (h.f.lt b hb).2 hx), h.b.aside ha fun b hb hg => h.bx b hb (hG b (h.b.lt b hb).2 hg), fun b hb hx => h.bx b hb (hX b (h.b.lt b hb).2 hx)⟩
theorem OkI.below (h : OkI w N B X p) (hb : Below w.heap.size w w') : OkI w' N B X p := h.aside (G := fun _ => False) (Aside.of_all hb) (fun _ _ h => h.elim) fun _ _ h => h
theorem OkI.base (h : OkI w N B X p) (h1 : N' ≤ N) (h2 : B' ≤ B) : OkI w N' B' X p := ⟨row_base h.f h1, h.fl, h.fx, h.b.mono h2, h.bx⟩
theorem OkI.less (h : OkI w N B X p) (hX : ∀ b, b < w.heap.size → X' b → X b) : OkI w N B X' p := h.aside (Aside.refl (fun _ => False) w) (fun _ _ h => h.elim) hX
theorem OkI.one (h : OkI w N B X p) : ∀ u ∈ cI p, u.oneCell' = true := by
  obtain ⟨a, c, h1⟩ := h.f.shape
  obtain ⟨a', c', h2⟩ := h.b.shape
  intro u hu
  simp only [cI, List.mem_cons, List.mem_nil_iff, or_false, h1, h2] at hu
  rcases hu with rfl | rfl | rfl | rfl | rfl | rfl | rfl <;> rfl
theorem OkI.hv (h : OkI w N B X p) : Hv w w.heap.size (hI p) p.x.h := ⟨_, rfl, h.f.sf h.fl⟩
end

/-- A row of items of the call's own. -/
def OwnI (w : World) (B : Nat) (v : Value) (l : List Rp) : Prop := w.ownsRow B 44 7 v l.length (acI l)
/-- The cells of an item stand at a place. -/
structure AtI (w : World) (b o : Nat) (p : Rp) : Prop where
  c0 : w.cell? ⟨b, o, none⟩ = some (.int .i64 p.x.st)
  c1 : w.cell? ⟨b, o + 1, none⟩ = some (.string (bs p.x.h.m))
  c2 : w.cell? ⟨b, o + 2, none⟩ = some (.string (bs p.x.h.t))
  c3 : w.cell? ⟨b, o + 3, none⟩ = some (.int .i64 p.x.h.v)
  c4 : w.cell? ⟨b, o + 4, none⟩ = some p.s
  c5 : w.cell? ⟨b, o + 5, none⟩ = some p.b
  c6 : w.cell? ⟨b, o + 6, none⟩ = some (.bool p.x.k)
theorem AtI.keep {w w' : World} {b o : Nat} {p : Rp} (h : AtI w b o p) (hk : ∀ o, w'.cell? ⟨b, o, none⟩ = w.cell? ⟨b, o, none⟩) : AtI w' b o p :=
  ⟨(hk _).trans h.c0, (hk _).trans h.c1, (hk _).trans h.c2, (hk _).trans h.c3, (hk _).trans h.c4, (hk _).trans h.c5, (hk _).trans h.c6⟩

/-- Told items: the row, and each. -/
structure TI (w : World) (N B : Nat) (X : Nat → Prop) (v : Value) (l : List Rp) : Prop where
  row : OwnI w B v l
  rx : ∀ b, v.ownBlock = some b → ¬ X b
  each : ∀ p ∈ l, OkI w N B X p
section
variable {w w' : World} {N N' B B' : Nat} {X X' G : Nat → Prop} {v : Value} {l : List Rp}
theorem TI.nil (w : World) (N B : Nat) (X : Nat → Prop) : TI w N B X (.slice none 0 0) [] := ⟨World.ownsRow_nil _ _ _ _, fun b h => (by cases h), fun p h => (by simp at h)⟩
theorem TI.lt (h : TI w N B X v l) : ∀ k, v.ownBlock = some k → B ≤ k ∧ k < w.heap.size := World.ownsRow.lt h.row
theorem TI.shape (h : TI w N B X v l) : ∃ a c, v = .slice a l.length c := row_shape h.row
theorem TI.aside (h : TI w N B X v l) (ha : Aside G w w') (hG : ∀ b, b < w.heap.size → G b → X b) (hX : ∀ b, b < w.heap.size → X' b → X b) : TI w' N B X' v l :=
  ⟨row_aside h.row ha fun b hb hg => h.rx b hb (hG b (h.lt b hb).2 hg), fun b hb hx => h.rx b hb (hX b (h.lt b hb).2 hx), fun p hp => (h.each p hp).aside ha hG hX⟩
theorem TI.below (h : TI w N B X v l) (hb : Below w.heap.size w w') : TI w' N B X v l := h.aside (G := fun _ => False) (Aside.of_all hb) (fun _ _ h => h.elim) fun _ _ h => h
theorem TI.base (h : TI w N B X v l) (h1 : N' ≤ N) (h2 : B' ≤ B) : TI w N' B' X v l := ⟨row_base h.row h2, h.rx, fun p hp => (h.each p hp).base h1 h2⟩
theorem TI.less (h : TI w N B X v l) (hX : ∀ b, b < w.heap.size → X' b → X b) : TI w N B X' v l := h.aside (Aside.refl (fun _ => False) w) (fun _ _ h => h.elim) hX
theorem TI.at_ {a : Option Addr} {n c : Nat} (h : TI w N B X (.slice a n c) l) (h0 : 0 < l.length) : ∃ b, a = some ⟨b, 0, none⟩ ∧ b < w.heap.size ∧ ∀ j (hj : j < l.length), AtI w b (j * 7) l[j] := by
  have hl := World.ownsRow.lt h.row
  rcases h.row.2 with ⟨e, h1⟩ | ⟨g, cap, cur, e, hB, hg, hc, hx⟩
  · omega
  · injection e with e1 e2 e3
    refine ⟨g, e1, (hl g (by rw [e1]; rfl)).2, fun j hj => ?_⟩
    have cs := World.ownsRow.cells h.row (g := g) (by rw [e1]; rfl)
    have key : ∀ i u, (cI l[j])[i]? = some u → w.cell? ⟨g, j * 7 + i, none⟩ = some u := fun i u hu => by
      have := cs (j * 7 + i) u (flat_at (f := cI) (k := 7) (fun _ => rfl) l j hj i u hu)
      rw [WideShapes.add_plain, Nat.zero_add] at this
      exact this
    exact ⟨key 0 _ rfl, key 1 _ rfl, key 2 _ rfl, key 3 _ rfl, key 4 _ rfl, key 5 _ rfl, key 6 _ rfl⟩
end

/-! ### appends -/
theorem info_it : (Tryz.prog.info? 44).map (fun i => (i.zero, i.size, i.bytes)) = some (some (.agg #[.int .i64 0, .string ⟨#[]⟩, .string ⟨#[]⟩, .int .i64 0, .slice none 0 0, .slice none 0 0, .bool false]), 7, 104) := by kernel_rfl

theorem run_appI {w : World} {B hi m : Nat} {v u : Value} {l l' : List Rp} (h : OwnI w B v l) (hx : Lst w hi u l'.length (acI l')) (h1 : ∀ u ∈ acI l', u.oneCell' = true) (hnm : l.length + l'.length ≤ 1000000) (hB : B ≤ w.heap.size) :
    ∃ a' c' w', (Builtin.append_ #[32, 32] 32 #[v, u]).run Tryz.prog w = .ok (.slice a' (l.length + l'.length) c') w' ∧ OwnI w' B (.slice a' (l.length + l'.length) c') (l ++ l') ∧ Aside (fun b => v.ownBlock = some b) w w' ∧
      ((Value.slice a' (l.length + l'.length) c').ownBlock = v.ownBlock ∨ (Value.slice a' (l.length + l'.length) c').ownBlock = some w.heap.size) := by
  obtain ⟨i0, hi, hz0, hz1, hz2⟩ := info_parts' info_it
  obtain ⟨a', c', w', r1, r2, r3, r4⟩ := row_more 104 Tryz.underlying32 hi hz0 hz1 hz2 (by rfl) (by decide) (by decide) h hx (by rw [acI_len]) h1 hnm hB
  exact ⟨a', c', w', r1, by unfold OwnI; rw [acI_app, List.length_append]; exact r2, r3, r4⟩

/-- Behind an append to a row: all that stands apart from the row's block. -/
theorem ti_of {w w' : World} {N B B' : Nat} {X : Nat → Prop} {v v' : Value} {l l' : List Rp} (h : TI w N B X v l) (h' : ∀ p ∈ l', OkI w N B X p) (hr : OwnI w' B v' (l ++ l')) (ha : Aside (fun b => v.ownBlock = some b) w w')
    (hv : v'.ownBlock = v.ownBlock ∨ v'.ownBlock = some w.heap.size) (hX : ∀ b, X b → b < w.heap.size) : TI w' N B X v' (l ++ l') := by
  have step : ∀ p, OkI w N B X p → OkI w' N B X p := fun p hp =>
    ⟨row_aside hp.f ha fun b h1 h2 => row_apart h.row hp.f (by decide) b h2 h1, hp.fl, hp.fx, hp.b.aside ha fun b h1 h2 => row_apartB hp.b h.row (by decide) b h1 h2, hp.bx⟩
  refine ⟨hr, fun b hb hx => ?_, fun p hp => ?_⟩
  · rcases hv with hv | hv
    · exact h.rx b (hv ▸ hb) hx
    · rw [hv] at hb
      injection hb with hb
      have := hX b hx
      omega
  · rcases List.mem_append.mp hp with hp | hp
    · exact step p (h.each p hp)
    · exact step p (h' p hp)

theorem lst_one (w : World) (p : Rp) : Lst (w.alloc (.cells #[.int .i64 p.x.st, .string (bs p.x.h.m), .string (bs p.x.h.t), .int .i64 p.x.h.v, p.s, p.b, .bool p.x.k] 44)) (w.heap.size + 1) (.slice (some ⟨w.heap.size, 0, none⟩) 1 1) 1 (acI [p]) :=
  ⟨_, 1, rfl, by simp, fun h => by simp at h, fun _ => ⟨w.heap.size, 0, rfl, by omega, fun i u hu => by
    rw [Nat.zero_add]
    match i, hu with
    | 0, hu => simpa [acI, cI, go_sem] using hu
    | 1, hu => simpa [acI, cI, go_sem] using hu
    | 2, hu => simpa [acI, cI, go_sem] using hu
    | 3, hu => simpa [acI, cI, go_sem] using hu
    | 4, hu => simpa [acI, cI, go_sem] using hu
    | 5, hu => simpa [acI, cI, go_sem] using hu
    | 6, hu => simpa [acI, cI, go_sem] using hu
    | i + 7, hu => simp [acI, cI] at hu⟩⟩

/-- An item more. -/
theorem ti_add {w : World} {N B : Nat} {X : Nat → Prop} {v : Value} {l : List Rp} {p : Rp} (h : TI w N B X v l) (hp : OkI w N B X p) (hl : l.length + 1 ≤ 1000000) (hB : B ≤ w.heap.size) (hX : ∀ b, X b → b < w.heap.size) :
    ∃ a' c' w', (Builtin.append_ #[32, 32] 32 #[v, .slice (some ⟨w.heap.size, 0, none⟩) 1 1]).run Tryz.prog (w.alloc (.cells #[.int .i64 p.x.st, .string (bs p.x.h.m), .string (bs p.x.h.t), .int .i64 p.x.h.v, p.s, p.b, .bool p.x.k] 44)) = .ok (.slice a' (l.length + 1) c') w' ∧
      TI w' N B X (.slice a' (l.length + 1) c') (l ++ [p]) ∧ Aside (fun b => v.ownBlock = some b) w w' ∧ ((Value.slice a' (l.length + 1) c').ownBlock = v.ownBlock ∨ ∃ g, w.heap.size ≤ g ∧ (Value.slice a' (l.length + 1) c').ownBlock = some g) := by
  have b1 : Below w.heap.size w (w.alloc (.cells #[.int .i64 p.x.st, .string (bs p.x.h.m), .string (bs p.x.h.t), .int .i64 p.x.h.v, p.s, p.b, .bool p.x.k] 44)) := (Below.refl _ _).alloc (Nat.le_refl _) _
  obtain ⟨a', c', w', r1, r2, r3, r4⟩ := run_appI (m := 1) (l' := [p]) (show OwnI _ B v l from row_below h.row b1) (lst_one w p) (by intro u hu; simp only [acI, List.flatMap_cons, List.flatMap_nil, List.append_nil] at hu; exact hp.one u hu) (by simpa using hl) (Nat.le_trans hB b1.size)
  refine ⟨a', c', w', r1, ti_of (B' := B) (h.below b1) (fun q hq => by rw [List.mem_singleton] at hq; rw [hq]; exact hp.below b1) r2 r3 r4 (fun b hb => Nat.lt_of_lt_of_le (hX b hb) b1.size), (Aside.of_all b1).trans r3, ?_⟩
  rcases r4 with r4 | r4
  · exact .inl r4
  · exact .inr ⟨_, b1.size, r4⟩

/-- A list of items more. -/
theorem ti_cat {w : World} {N B B' : Nat} {X : Nat → Prop} {v u : Value} {l l' : List Rp} (h : TI w N B X v l) (h' : TI w N B X u l') (hl : l.length + l'.length ≤ 1000000) (hB : B ≤ w.heap.size) (hX : ∀ b, X b → b < w.heap.size) :
    ∃ a' c' w', (Builtin.append_ #[32, 32] 32 #[v, u]).run Tryz.prog w = .ok (.slice a' (l.length + l'.length) c') w' ∧
      TI w' N B X (.slice a' (l.length + l'.length) c') (l ++ l') ∧ Aside (fun b => v.ownBlock = some b) w w' := by
  obtain ⟨a', c', w', r1, r2, r3, r4⟩ := run_appI (m := 1) h.row (Lst.own h'.row (by omega)) (by
    intro x hx
    obtain ⟨p, hp, hx⟩ := List.mem_flatMap.mp hx
    exact (h'.each p hp).one x hx) hl hB
  exact ⟨a', c', w', r1, ti_of (B' := B) h h'.each r2 r3 r4 hX, r3⟩
end Go.Proofs.YtkoohdacneflfaaGreatDoor

/-
  The landed reader: what it is in memory; made, Left, Over, New, end; a reader that is none.
-/
namespace Go.Proofs.YtkoohdacneflfaaGreatDoor
open Go.RowKit Go.Shelf
set_option linter.unusedVariables false
set_option linter.unusedSimpArgs false
set_option maxRecDepth 100000

theorem info_rdr : (Tryz.prog.info? 49).map (fun i => decide (i.size = 0)) = some false := by kernel_rfl
theorem ptr_self (w : World) (r : Nat) : (binOp .eql 23 (.pointer (some ⟨r, 0, none⟩)) (.pointer (some ⟨r, 0, none⟩))).run Tryz.prog w = .ok (.bool true) w := by
  obtain ⟨j, hj, _⟩ := Option.map_eq_some_iff.1 info_rdr
  exact run_eql_ptr_same w ⟨r, 0, none⟩ Tryz.underlying23 hj

theorem ptr_nil (w : World) (r : Nat) : (binOp .eql 23 (.pointer none) (.pointer (some ⟨r, 0, none⟩))).run Tryz.prog w = .ok (.bool false) w := by
  have h : ∀ d : Nat, (Op.equalIn (d + 1) 23 (.pointer none) (.pointer (some ⟨r, 0, none⟩))).run Tryz.prog w = .ok false w := fun d => by
    simp [Op.equalIn, run_underlying Tryz.underlying23]
  simp only [binOp]
  simp [Op.equal, Op.maxDepth, h 9999]

/-! ### functions against nil -/
theorem run_store_func {P : Program} {w : World} {a : Addr} {m : Mode} (f : Fn) (x y : Array Value) : (store a (.func f x y) m).run P w = stored P w a (.func f x y) m := run_store P w a _ m rfl
attribute [local go_sem] run_store_func
section
variable (w : World) (f : Fn) (x y : Array Value)
theorem fn_in (d : Nat) : (Op.equalIn (d + 1) 45 (.func f x y) .nilFunc).run Tryz.prog w = .ok false w := by simp [Op.equalIn, run_underlying Tryz.underlying45]
theorem fn_in0 (d : Nat) : (Op.equalIn (d + 1) 45 .nilFunc .nilFunc).run Tryz.prog w = .ok true w := by simp [Op.equalIn, run_underlying Tryz.underlying45]
theorem fn_eq : (binOp .eql 45 (.func f x y) .nilFunc).run Tryz.prog w = .ok (.bool false) w := by
  simp only [binOp]
  simp [Op.equal, Op.maxDepth, fn_in w f x y 9999]
theorem fn_eq0 : (binOp .eql 45 .nilFunc .nilFunc).run Tryz.prog w = .ok (.bool true) w := by
  simp only [binOp]
  simp [Op.equal, Op.maxDepth, fn_in0 w 9999]
theorem fn_ne : (binOp .neq 45 (.func f x y) .nilFunc).run Tryz.prog w = .ok (.bool true) w := by
  simp only [binOp]
  simp [Op.equal, Op.maxDepth, fn_in w f x y 9999]
theorem fn_ne0 : (binOp .neq 45 .nilFunc .nilFunc).run Tryz.prog w = .ok (.bool false) w := by
  simp only [binOp]
  simp [Op.equal, Op.maxDepth, fn_in0 w 9999]
end

/-- The cells of a reader. -/
def cR (r : Nat) (nx kv : Value) (h : Hd) (s : Value) (fr te : Int) : List Value := [.pointer (some ⟨r, 0, none⟩), nx, kv, .string (bs h.m), .string (bs h.t), .int .i64 h.v, s, .int .i64 fr, .int .i64 te]
/-- What a reader does next: look for a head's end, or wait for a body's. -/
def nxH (r : Nat) : Value := .func (.func 25) #[.pointer (some ⟨r, 0, none⟩)] #[]
def nxB (r : Nat) : Value := .func (.func 35) #[.pointer (some ⟨r, 0, none⟩)] #[]
def Md (r : Nat) (b : List UInt8) (nx : Value) (h : Hd) (fr te : Int) : Prop :=
  nx = nxH r ∨ (nx = nxB r ∧ ∃ k n : Nat, endL b = some k ∧ askH (b.take k) = (200, n, h) ∧ fr = k ∧ te = (k + n : Nat))
theorem Md.app {r : Nat} {b : List UInt8} {nx : Value} {h : Hd} {fr te : Int} (hm : Md r b nx h fr te) (t : List UInt8) : Md r (b ++ t) nx h fr te := by
  rcases hm with hm | ⟨hm, k, n, h1, h2, h3⟩
  · exact .inl hm
  · refine .inr ⟨hm, k, n, endL_app h1 t, ?_, h3⟩
    rw [List.take_append_of_le_length (endL_bound h1).2.1]
    exact h2

/-- The block of a reader that is not over. -/
structure Rb (w : World) (N r : Nat) (nx kv : Value) (b : List UInt8) (h : Hd) (s : Value) (fr te : Int) : Prop where
  c : Cel w r (cR r nx kv h s fr te)
  f : OwnF w N s h.fs
  fl : h.fs.length ≤ 1000000
  fne : ∀ b, s.ownBlock = some b → b ≠ r
  md : Md r b nx h fr te
  lo : N ≤ r
section
variable {w w' : World} {N r : Nat} {nx kv s : Value} {b : List UInt8} {h : Hd} {fr te : Int} {G : Nat → Prop}
theorem cR_pos : 0 < (cR r nx kv h s fr te).length := by simp [cR]
theorem Rb.lt (hr : Rb w N r nx kv b h s fr te) : r < w.heap.size := hr.c.lt cR_pos
theorem Rb.aside (hr : Rb w N r nx kv b h s fr te) (ha : Aside G w w') (h0 : ¬ G r) (h1 : ∀ b, s.ownBlock = some b → ¬ G b) : Rb w' N r nx kv b h s fr te :=
  ⟨hr.c.aside cR_pos ha h0, row_aside hr.f ha h1, hr.fl, hr.fne, hr.md, hr.lo⟩
theorem Rb.below (hr : Rb w N r nx kv b h s fr te) (hb : Below w.heap.size w w') : Rb w' N r nx kv b h s fr te := hr.aside (G := fun _ => False) (Aside.of_all hb) (fun h => h) fun _ _ h => h
end

/-- A reader: over or not; o: the block of what it keeps. -/
def Rk (w : World) (N : Nat) (o : Option Nat) (r : Nat) (b : List UInt8) (out : Bool) : Prop :=
  ∃ kv, OwnB w N kv b ∧ kv.ownBlock = o ∧ o ≠ some r ∧ N ≤ r ∧ ((out = false ∧ ∃ nx h s fr te, Rb w N r nx kv b h s fr te) ∨ (out = true ∧ b = [] ∧ kv = .slice none 0 0 ∧ Cel w r (cR r .nilFunc (.slice none 0 0) z0 (.slice none 0 0) 0 0)))

section
variable {w w' : World} {N r : Nat} {o : Option Nat} {b : List UInt8} {out : Bool} {G : Nat → Prop}
theorem Rk.lt (h : Rk w N o r b out) : r < w.heap.size := by
  obtain ⟨kv, _, _, _, _, ⟨_, nx, h, s, fr, te, hr⟩ | ⟨_, _, _, hc⟩⟩ := h
  · exact hr.lt
  · exact hc.lt cR_pos
theorem Rk.lo (h : Rk w N o r b out) : N ≤ r := by obtain ⟨kv, _, _, _, h, _⟩ := h; exact h
theorem Rk.olt (h : Rk w N o r b out) : ∀ g, o = some g → N ≤ g ∧ g < w.heap.size ∧ g ≠ r := fun g hg => by
  obtain ⟨kv, h1, h2, h3, _⟩ := h
  have := h1.lt g (h2.trans hg)
  exact ⟨this.1, this.2, fun e => h3 (by rw [hg, e])⟩
/-- What turns in blocks of bytes, and not in what it keeps, does not matter. -/
theorem Rk.aside (h : Rk w N o r b out) (ha : Aside G w w') (h0 : ¬ G r) (h1 : ∀ g, o = some g → ¬ G g) (hf : ∀ g, G g → g < N ∨ w.heap.size ≤ g ∨ ∃ z fz e, w.heap[g]? = some (.cells z e fz) ∧ e ≠ 71) : Rk w' N o r b out := by
  obtain ⟨kv, hk, ho, hor, hN, hx⟩ := h
  refine ⟨kv, hk.aside ha fun b hb => h1 b (ho ▸ hb), ho, hor, hN, ?_⟩
  rcases hx with ⟨e, nx, h, s, fr, te, hr⟩ | ⟨e1, e2, e3, hc⟩
  · refine .inl ⟨e, nx, h, s, fr, te, hr.aside ha h0 fun g hg hG => ?_⟩
    have hlt := hr.f.lt g hg
    rcases hf g hG with h2 | h2 | ⟨z, fz, e, h2, h3⟩
    · omega
    · omega
    · rcases hr.f.2 with ⟨h4, _⟩ | ⟨g', cap, cur, h4, _, h5, _⟩
      · rw [h4] at hg; cases hg
      · rw [h4] at hg
        have : g' = g := by injection hg
        subst this
        rw [h2] at h5
        injection h5 with h5
        injection h5 with _ h6
        exact h3 h6
  · exact .inr ⟨e1, e2, e3, hc.aside cR_pos ha h0⟩
theorem Rk.below (h : Rk w N o r b out) (hb : Below w.heap.size w w') : Rk w' N o r b out := h.aside (G := fun _ => False) (Aside.of_all hb) (fun h => h) (fun _ _ h => h) fun _ h => h.elim
theorem Rk.drewN (h : Rk w N o r b out) (n : Nat) : Rk (w.drewN n) N o r b out := h.below (below_drewN (Below.refl _ _) n)
/-- Its cells. -/
theorem Rk.cells (h : Rk w N o r b out) : ∃ nx kv hd s fr te, Cel w r (cR r nx kv hd s fr te) ∧ OwnB w N kv b ∧ kv.ownBlock = o ∧ ((out = true ∧ nx = .nilFunc) ∨ (out = false ∧ (nx = nxH r ∨ nx = nxB r))) := by
  obtain ⟨kv, hk, ho, hor, hN, ⟨e, nx, h, s, fr, te, hr⟩ | ⟨e1, e2, e3, hc⟩⟩ := h
  · refine ⟨nx, kv, h, s, fr, te, hr.c, hk, ho, .inr ⟨e, ?_⟩⟩
    rcases hr.md with h | ⟨h, _⟩
    · exact .inl h
    · exact .inr h
  · subst e3
    exact ⟨_, _, _, _, _, _, hc, hk, ho, .inl ⟨e1, rfl⟩⟩
end

/-! ### small functions -/
set_option maxHeartbeats 1000000 in
theorem made_yes {w : World} {r : Nat} (h : w.cell? ⟨r, 0, none⟩ = some (.pointer (some ⟨r, 0, none⟩))) :
    Calls Tryz.prog 26 #[.pointer (some ⟨r, 0, none⟩)] w fun e w' => e = .returned (.bool true) ∧ w' = w := by
  have hs := ptr_self w
  have hn := ptr_nil w
  go_enter Tryz.func26, Tryz.ntmps26
  go_wp2
  go_ret
  exact ⟨rfl, rfl⟩

set_option maxHeartbeats 1000000 in
theorem made_none (w : World) : Calls Tryz.prog 26 #[.pointer none] w fun e w' => e = .returned (.bool false) ∧ w' = w := by
  have hs := ptr_self w
  have hn := ptr_nil w
  go_enter Tryz.func26, Tryz.ntmps26
  go_wp2
  go_ret
  exact ⟨rfl, rfl⟩

set_option maxHeartbeats 1000000 in
theorem made_no {w : World} {r : Nat} (h : w.cell? ⟨r, 0, none⟩ = some (.pointer none)) :
    Calls Tryz.prog 26 #[.pointer (some ⟨r, 0, none⟩)] w fun e w' => e = .returned (.bool false) ∧ w' = w := by
  have hs := ptr_self w
  have hn := ptr_nil w
  go_enter Tryz.func26, Tryz.ntmps26
  go_wp2
  go_ret
  exact ⟨rfl, rfl⟩

set_option maxHeartbeats 1000000 in
theorem left_any {w : World} {N : Nat} {o : Option Nat} {r : Nat} {b : List UInt8} {out : Bool} (h : Rk w N o r b out) :
    Calls Tryz.prog 17 #[.pointer (some ⟨r, 0, none⟩)] w fun e w' => e = .returned (.int .i64 b.length) ∧ w' = w := by
  obtain ⟨nx, kv, hd, s, fr, te, hc, hk, ho, _⟩ := h.cells
  have HM := Lib.hid (made_yes (hc.c 0 (by simp [cR])))
  have c2 := hc.c 2 (by simp [cR])
  obtain ⟨a, c, rfl⟩ := hk.shape
  simp only [cR, List.getElem_cons_succ, List.getElem_cons_zero] at c2
  clear hc hk ho h
  go_enter Tryz.func17, Tryz.ntmps17
  go_wp2_with fail
  refine HM.out.mono ?_; rintro e w1 ⟨rfl, rfl⟩
  go_wp2_with fail
  go_ret
  exact ⟨rfl, rfl⟩

set_option maxHeartbeats 1000000 in
theorem over_any {w : World} {N : Nat} {o : Option Nat} {r : Nat} {b : List UInt8} {out : Bool} (h : Rk w N o r b out) :
    Calls Tryz.prog 18 #[.pointer (some ⟨r, 0, none⟩)] w fun e w' => e = .returned (.bool out) ∧ w' = w := by
  obtain ⟨nx, kv, hd, s, fr, te, hc, hk, ho, hx⟩ := h.cells
  have HM := Lib.hid (made_yes (hc.c 0 (by simp [cR])))
  have c1 := hc.c 1 (by simp [cR])
  simp only [cR, List.getElem_cons_succ, List.getElem_cons_zero] at c1
  clear hc hk ho h
  rcases hx with ⟨rfl, rfl⟩ | ⟨rfl, rfl | rfl⟩
  all_goals
    have e0 := fn_eq0
    have e1 := fn_eq
    try unfold nxH at c1
    try unfold nxB at c1
    go_enter Tryz.func18, Tryz.ntmps18
    go_wp2_with fail
    refine HM.out.mono ?_; rintro e w1 ⟨rfl, rfl⟩
    go_wp2_with fail
    go_ret
    exact ⟨rfl, rfl⟩

section
variable {w : World} {v : Value}
/-- A reader that is none, or that New did not make. -/
def Unmade (w : World) (v : Value) : Prop := v = .pointer none ∨ ∃ r, v = .pointer (some ⟨r, 0, none⟩) ∧ w.cell? ⟨r, 0, none⟩ = some (.pointer none)

theorem Unmade.no (h : Unmade w v) : Calls Tryz.prog 26 #[v] w fun e w' => e = .returned (.bool false) ∧ w' = w := by
  obtain rfl | ⟨r, rfl, h⟩ := h
  · exact made_none w
  · exact made_no h

set_option maxHeartbeats 1000000 in
theorem left_no (h : Unmade w v) : Calls Tryz.prog 17 #[v] w fun e w' => e = .returned (.int .i64 0) ∧ w' = w := by
  have HM := Lib.hid h.no
  clear h
  go_enter Tryz.func17, Tryz.ntmps17
  go_wp2_with fail
  refine HM.out.mono ?_; rintro e w1 ⟨rfl, rfl⟩
  go_wp2_with fail
  go_ret
  exact ⟨rfl, rfl⟩

set_option maxHeartbeats 1000000 in
theorem over_no (h : Unmade w v) : Calls Tryz.prog 18 #[v] w fun e w' => e = .returned (.bool false) ∧ w' = w := by
  have HM := Lib.hid h.no
  clear h
  go_enter Tryz.func18, Tryz.ntmps18
  go_wp2_with fail
  refine HM.out.mono ?_; rintro e w1 ⟨rfl, rfl⟩
  go_wp2_with fail
  go_ret
  exact ⟨rfl, rfl⟩

set_option maxHeartbeats 1000000 in
theorem push_no {bv : Value} (h : Unmade w v) : Calls Tryz.prog 13 #[v, bv] w fun e w' => e = .returned (.tuple #[.slice none 0 0, .int .i64 1]) ∧ w' = w := by
  have HM := Lib.hid h.no
  clear h
  go_enter Tryz.func13, Tryz.ntmps13
  go_wp2_with fail
  refine HM.out.mono ?_; rintro e w1 ⟨rfl, rfl⟩
  go_wp2_with fail
  go_ret2
  exact ⟨rfl, rfl⟩
end

set_option maxHeartbeats 1000000 in
theorem push_out {w : World} {N : Nat} {o : Option Nat} {r : Nat} {b : List UInt8} {bv : Value} (h : Rk w N o r b true) :
    Calls Tryz.prog 13 #[.pointer (some ⟨r, 0, none⟩), bv] w fun e w' => e = .returned (.tuple #[.slice none 0 0, .int .i64 9]) ∧ w' = w := by
  obtain ⟨nx, kv, hd, s, fr, te, hc, hk, ho, hx⟩ := h.cells
  have HM := Lib.hid (made_yes (hc.c 0 (by simp [cR])))
  have c1 := hc.c 1 (by simp [cR])
  simp only [cR, List.getElem_cons_succ, List.getElem_cons_zero] at c1
  have : nx = .nilFunc := by rcases hx with ⟨_, h⟩ | ⟨h, _⟩; exact h; cases h
  subst this
  have e0 := fn_eq0
  clear hc hk ho h hx
  go_enter Tryz.func13, Tryz.ntmps13
  go_wp2_with fail
  refine HM.out.mono ?_; rintro e w1 ⟨rfl, rfl⟩
  go_wp2_with fail
  go_ret2
  exact ⟨rfl, rfl⟩

set_option maxHeartbeats 1000000 in
theorem new_any (w : World) (N : Nat) (hN : N ≤ w.heap.size) :
    Calls Tryz.prog 9 #[] w fun e w' => e = .returned (.pointer (some ⟨w.heap.size, 0, none⟩)) ∧ Rk w' N none w.heap.size [] false ∧ Below w.heap.size w w' := by
  have HNN := Lib.hid hN
  go_enter Tryz.func9, Tryz.ntmps9
  go_wp2_with fail
  go_ret
  refine ⟨rfl, ⟨.slice none 0 0, OwnB.nil _ _, rfl, by simp, HNN.out, .inl ⟨rfl, nxH w.heap.size, z0, .slice none 0 0, 0, 0, ⟨⟨fun j hj => ?_, fun j => ?_⟩, OwnF.nil _ _, by simp [z0], fun b h => (by cases h), .inl rfl, HNN.out⟩⟩⟩, ?_⟩
  · match j, hj with
    | 0, _ => simp [go_sem, cR, nxH, z0, bs]
    | 1, _ => simp [go_sem, cR, nxH, z0, bs]
    | 2, _ => simp [go_sem, cR, nxH, z0, bs]
    | 3, _ => simp [go_sem, cR, nxH, z0, bs]
    | 4, _ => simp [go_sem, cR, nxH, z0, bs]
    | 5, _ => simp [go_sem, cR, nxH, z0, bs]
    | 6, _ => simp [go_sem, cR, nxH, z0, bs]
    | 7, _ => simp [go_sem, cR, nxH, z0, bs]
    | 8, _ => simp [go_sem, cR, nxH, z0, bs]
  · simp [go_sem]
  · exact (Below.refl _ w).alloc (Nat.le_refl _) _
end Go.Proofs.YtkoohdacneflfaaGreatDoor

/-
  bytes.Index at two lines' ends in a row.
-/
namespace Go.Proofs.YtkoohdacneflfaaGreatDoor
open Go.RowKit Go.Shelf
set_option linter.unusedVariables false
set_option linter.unusedSimpArgs false
set_option maxRecDepth 100000

theorem occ_take (l : List UInt8) (j : Nat) : Lib.occAt l cc4 j = true ↔ (l.drop j).take 4 = cc4 := by
  unfold Lib.occAt
  rw [List.isPrefixOf_iff_prefix, List.prefix_iff_eq_take]
  exact ⟨fun h => h.symm, fun h => h.symm⟩
/-- The first place, as endF tells it. -/
theorem idx_end (l : List UInt8) : (Lib.index l cc4 = -1 ∧ endF 0 l = none) ∨ ∃ k : Nat, Lib.index l cc4 = k ∧ endF 0 l = some (k + 4) := by
  rcases Lib.index_spec l cc4 with ⟨h, hn⟩ | ⟨i, h, hi, ho, hn⟩
  · refine .inl ⟨h, endF_none l 0 fun j hj => ?_⟩
    by_cases hjl : j ≤ l.length
    · have := hn j hjl
      rw [(occ_take l j).mpr hj] at this
      cases this
    · rw [List.drop_eq_nil_of_le (by omega)] at hj
      exact absurd hj (by decide)
  · refine .inr ⟨i, h, ?_⟩
    rw [endF_first i l 0 ((occ_take l i).mp ho) fun j hj hc => ?_, Nat.zero_add]
    have := hn j hj
    rw [(occ_take l j).mpr hc] at this
    cases this

/-- Where a head ends, told less the four bytes; -1: nowhere. -/
def endI (b : List UInt8) : Int := match endL b with
  | none => -1
  | some k => (k : Int) - 4
theorem idx_endI (b : List UInt8) : Lib.index (b.take 4096) cc4 = endI b := by
  unfold endI endL
  rcases idx_end (b.take 4096) with ⟨h1, h2⟩ | ⟨k, h1, h2⟩
  · rw [h1, h2]
  · rw [h1, h2]
    simp only
    omega

theorem index_any {w : World} {lo hi lo' hi' : Nat} {v u : Value} (l : List UInt8) (hs : Sl w lo hi v (iz l)) (hu : Sl w lo' hi' u (iz cc4)) (hE : Env w) (hl : l.length ≤ 1000000) :
    Calls Tryz.prog 33 #[v, u] w fun e w' => e = .returned (.int .i64 (Lib.index l cc4)) ∧ Below w.heap.size w w' := by
  obtain ⟨m, hm⟩ := hE.mx
  obtain ⟨a, c, rfl, hc, hn, hp⟩ := hs
  obtain ⟨a', c', rfl, hc', hn', hp'⟩ := hu
  have hb : ∀ x : List UInt8, ∀ n ∈ iz x, 0 ≤ n ∧ n < 256 := fun x n hn => by have := iz_byte x n hn; omega
  obtain ⟨b', o', rfl, _, _, hx'⟩ := hp' (by decide)
  rcases Nat.eq_zero_or_pos l.length with h0 | h0
  · have hl0 : l = [] := List.eq_nil_of_length_eq_zero h0
    subst hl0
    cases a with
    | none =>
      have h0 := hn rfl
      subst h0
      refine (Tryz.bytes_Index_nil (some ⟨b', o', none⟩) (iz cc4).length c' w (by decide) (fun h => absurd h (by decide))).mono ?_
      rintro e w' ⟨rfl, rfl⟩
      exact ⟨by rw [if_neg (by decide)]; rfl, Below.refl _ _⟩
    | some a =>
      refine (Tryz.bytes_Index_at a ⟨b', o', none⟩ (iz []).length c (iz cc4).length c' (iz []) (iz cc4) m w rfl rfl (hb []) (hb cc4) (fun i hi => absurd hi (by simp [iz])) (fun i hi => by rw [WideShapes.add_plain]; exact hx' i hi) hc (by decide) (by decide) hm).mono ?_
      rintro e w' ⟨rfl, q, rfl⟩
      rw [bytes_iz, bytes_iz]
      exact ⟨rfl, below_drewN (Below.refl _ w) q⟩
  · obtain ⟨b, o, rfl, _, _, hx⟩ := hp (by rw [iz_len]; exact h0)
    refine (Tryz.bytes_Index_at ⟨b, o, none⟩ ⟨b', o', none⟩ (iz l).length c (iz cc4).length c' (iz l) (iz cc4) m w rfl rfl (hb l) (hb cc4) (fun i hi => by rw [WideShapes.add_plain]; exact hx i hi) (fun i hi => by rw [WideShapes.add_plain]; exact hx' i hi) hc (by rw [iz_len]; omega) (by decide) hm).mono ?_
    rintro e w' ⟨rfl, q, rfl⟩
    rw [bytes_iz, bytes_iz]
    exact ⟨rfl, below_drewN (Below.refl _ w) q⟩
end Go.Proofs.YtkoohdacneflfaaGreatDoor

/-
  What is written is parsed as it was, blanks or none; what is parsed may be, but for how long it is.
-/
namespace Go.Proofs.YtkoohdacneflfaaGreatDoor
open Go.RowKit Go.Shelf
set_option linter.unusedVariables false
set_option linter.unusedSimpArgs false
set_option maxRecDepth 100000

/-! ### lines -/
def joinL (L : List (List UInt8)) : List UInt8 := L.flatMap (· ++ crlf)
theorem scan_join : ∀ (L : List (List UInt8)), (∀ x ∈ L, clean x ∧ x ≠ []) → scan false [] (joinL L ++ crlf) = some L
  | [], _ => rfl
  | x :: r, h => by
    have h1 := h x (by simp)
    have e : joinL (x :: r) ++ crlf = x ++ 13 :: 10 :: (joinL r ++ crlf) := by
      unfold joinL
      rw [List.flatMap_cons]
      simp [crlf]
    rw [e, scan_clean _ _ _ h1.1, List.nil_append, scan_end, if_neg h1.2, scan_join r fun y hy => h y (by simp [hy])]
    rfl
theorem lines_join (L : List (List UInt8)) (h : ∀ x ∈ L, clean x ∧ x ≠ []) : linesB (joinL L ++ crlf) = L := by
  unfold linesB; rw [scan_join L h]; rfl
theorem scan_size : ∀ (b : List UInt8) (l : List UInt8) (ls : List (List UInt8)), (scan false l b = some ls → l.length + b.length = (joinL ls).length + 2) ∧ (scan true l b = some ls → l.length + 1 + b.length = (joinL ls).length + 2)
  | [], l, ls => ⟨fun h => by simp [scan] at h, fun h => by simp [scan] at h⟩
  | c :: r, l, ls => by
    refine ⟨fun h => ?_, fun h => ?_⟩
    · rw [scan] at h
      split at h
      · have := (scan_size r l ls).2 h
        rw [List.length_cons]; omega
      · split at h
        · cases h
        · have := (scan_size r (l ++ [c]) ls).1 h
          rw [List.length_append] at this
          simp at this ⊢; omega
    · rw [scan] at h
      split at h
      · split at h
        · rename_i hl
          split at h
          · rename_i hr
            injection h with h
            subst h; subst hl; subst hr
            rfl
          · cases h
        · cases hs : scan false [] r with
          | none => rw [hs] at h; cases h
          | some m =>
            rw [hs] at h
            injection h with h
            subst h
            have := (scan_size r [] m).1 hs
            unfold joinL at this ⊢
            rw [List.flatMap_cons, List.length_append, List.length_append]
            simp [crlf] at this ⊢
            omega
      · cases h
theorem lines_size {b : List UInt8} {l : List UInt8} {ls : List (List UInt8)} (h : linesB b = l :: ls) : b.length = (joinL (l :: ls)).length + 2 := by
  unfold linesB at h
  cases hs : scan false [] b with
  | none => rw [hs] at h; cases h
  | some m =>
    rw [hs] at h
    have e : m = l :: ls := h
    subst e
    simpa using (scan_size b [] _).1 hs
/-! ### which bytes may stand where -/
theorem only_mem {r s : List UInt8} (h : onlyR r s = true) : ∀ x ∈ s, inR r x.toNat = true := List.all_eq_true.mp h
theorem word_not {s : List UInt8} {most : Nat} (h : wordL s most = true) : clean s ∧ (32 : UInt8) ∉ s ∧ (58 : UInt8) ∉ s ∧ s ≠ [] := by
  unfold wordL at h
  simp only [Bool.and_eq_true, decide_eq_true_eq] at h
  have ho := only_mem h.2.2
  refine ⟨fun x hx => ⟨?_, ?_⟩, fun hx => ?_, fun hx => ?_, ?_⟩
  · rintro rfl; exact absurd (ho _ hx) (by decide +kernel)
  · rintro rfl; exact absurd (ho _ hx) (by decide +kernel)
  · exact absurd (ho _ hx) (by decide +kernel)
  · exact absurd (ho _ hx) (by decide +kernel)
  · rintro rfl; simp at h
theorem tgt_not {s : List UInt8} (h : tgtL s = true) : clean s ∧ (32 : UInt8) ∉ s ∧ s ≠ [] ∧ s.length ≤ 2048 := by
  unfold tgtL at h
  simp only [Bool.and_eq_true, decide_eq_true_eq] at h
  have ho := only_mem h.1.2.2
  refine ⟨fun x hx => ⟨?_, ?_⟩, fun hx => ?_, ?_, h.1.2.1⟩
  · rintro rfl; exact absurd (ho _ hx) (by decide +kernel)
  · rintro rfl; exact absurd (ho _ hx) (by decide +kernel)
  · exact absurd (ho _ hx) (by decide +kernel)
  · rintro rfl; simp at h
theorem val_not {s : List UInt8} (h : valL s = true) : clean s ∧ trimB s = s := by
  unfold valL at h
  simp only [Bool.and_eq_true, beq_iff_eq] at h
  have ho := only_mem h.1
  refine ⟨fun x hx => ⟨?_, ?_⟩, h.2⟩
  · rintro rfl; exact absurd (ho _ hx) (by decide +kernel)
  · rintro rfl; exact absurd (ho _ hx) (by decide +kernel)
theorem clean_app {a b : List UInt8} (ha : clean a) (hb : clean b) : clean (a ++ b) := fun x hx => (List.mem_append.mp hx).elim (ha x) (hb x)
theorem clean_blank {a : List UInt8} (h : ∀ x ∈ a, blk x = true) : clean a := fun x hx => by
  rcases (blk_iff x).1 (h x hx) with rfl | rfl <;> decide

/-! ### a line of a field -/
def okF (f : Fd) : Bool := wordL f.1 64 && valL f.2
/-- A line that says this field. -/
def Gd (f : Fd) (l : List UInt8) : Prop := ∃ a b, (∀ x ∈ a, blk x = true) ∧ (∀ x ∈ b, blk x = true) ∧ l = f.1 ++ 58 :: (a ++ f.2 ++ b)
theorem gd_reads {f : Fd} {l : List UInt8} (h : Gd f l) (ho : okF f = true) : badF l = false ∧ (ahd l, trimB (bhd l)) = f ∧ clean l ∧ l ≠ [] := by
  obtain ⟨a, b, ha, hb, rfl⟩ := h
  unfold okF at ho
  rw [Bool.and_eq_true] at ho
  obtain ⟨hw, _, h58, hne⟩ := word_not ho.1
  obtain ⟨hv, htv⟩ := val_not ho.2
  have e1 : (f.1 ++ 58 :: (a ++ f.2 ++ b)).takeWhile (· != 58) = f.1 := by
    rw [List.takeWhile_append_of_pos (fun x hx => by
      rw [bne_iff_ne]; rintro rfl; exact h58 hx)]
    simp
  have e2 : (f.1 ++ 58 :: (a ++ f.2 ++ b)).dropWhile (· != 58) = 58 :: (a ++ f.2 ++ b) := by
    have := List.takeWhile_append_dropWhile (p := (· != 58)) (l := f.1 ++ 58 :: (a ++ f.2 ++ b))
    rw [e1] at this
    exact List.append_cancel_left this
  have h1 : ahd (f.1 ++ 58 :: (a ++ f.2 ++ b)) = f.1 := e1
  have h2 : trimB (bhd (f.1 ++ 58 :: (a ++ f.2 ++ b))) = f.2 := by
    unfold bhd
    rw [e2]
    show trimB (a ++ f.2 ++ b) = f.2
    rw [trimB_mid _ _ _ ha hb, htv]
  refine ⟨?_, by rw [h1, h2], ?_, by simp⟩
  · unfold badF
    rw [h1, h2, ho.1, ho.2]
    simp
  · refine clean_app hw fun x hx => ?_
    rcases List.mem_cons.mp hx with rfl | hx
    · decide
    · exact clean_app (clean_app (clean_blank ha) hv) (clean_blank hb) x hx
def GdL : List Fd → List (List UInt8) → Prop
  | [], [] => True
  | f :: fs, l :: ls => (Gd f l ∧ okF f = true) ∧ GdL fs ls
  | _, _ => False
theorem gdL_reads : ∀ (fs : List Fd) (ls : List (List UInt8)) (acc : List Fd), GdL fs ls → acc.length + fs.length ≤ 32 → fldsA acc ls = (acc ++ fs, 200)
  | [], [], acc, _, _ => by simp [fldsA]
  | f :: fs, l :: ls, acc, h, hl => by
    obtain ⟨h1, h2, _⟩ := gd_reads h.1.1 h.1.2
    rw [List.length_cons] at hl
    rw [fldsA_go (by omega) h1, h2, gdL_reads fs ls _ h.2 (by simp; omega)]
    simp
  | [], _ :: _, _, h, _ => h.elim
  | _ :: _, [], _, h, _ => h.elim
theorem gdL_clean : ∀ (fs : List Fd) (ls : List (List UInt8)), GdL fs ls → ∀ x ∈ ls, clean x ∧ x ≠ []
  | [], [], _ => by simp
  | f :: fs, l :: ls, h => by
    intro x hx
    rcases List.mem_cons.mp hx with rfl | hx
    · exact ⟨(gd_reads h.1.1 h.1.2).2.2.1, (gd_reads h.1.1 h.1.2).2.2.2⟩
    · exact gdL_clean fs ls h.2 x hx
  | [], _ :: _, h => h.elim
  | _ :: _, [], h => h.elim

/-! ### the first line -/
def ver (v : Int) : List UInt8 := [72, 84, 84, 80, 47, 49, 46] ++ dgt v
def fst1 (h : Hd) : List UInt8 := h.m ++ 32 :: (h.t ++ 32 :: ver h.v)
theorem ver_L (v : Int) (hv : v = 0 ∨ v = 1) : verL (ver v) = (v, 200) ∧ (32 : UInt8) ∉ ver v ∧ clean (ver v) ∧ ver v ≠ [] := by
  rcases hv with rfl | rfl
  · exact ⟨by rfl, by decide, by unfold clean; decide, by decide⟩
  · exact ⟨by rfl, by decide, by unfold clean; decide, by decide⟩
theorem fst_reads {h : Hd} (hm : wordL h.m 16 = true) (ht : tgtL h.t = true) (hv : h.v = 0 ∨ h.v = 1) : fstL (fst1 h) = (⟨h.m, h.t, h.v, []⟩, 200) ∧ clean (fst1 h) ∧ fst1 h ≠ [] := by
  obtain ⟨m1, m2, _, m4⟩ := word_not hm
  obtain ⟨t1, t2, t3, t4⟩ := tgt_not ht
  obtain ⟨v1, v2, v3, v4⟩ := ver_L h.v hv
  have hs : spl 32 (fst1 h) = [h.m, h.t, ver h.v] := by
    unfold fst1
    rw [spl_app _ _ _ m2, spl_app _ _ _ t2, spl_no _ _ v2]
  refine ⟨?_, ?_, by unfold fst1; simp⟩
  · rw [fstL_3 hs]
    unfold fst3
    rw [if_neg (by simp [m4, t3, v4]), if_neg (by rw [hm]; simp), if_neg (by rw [v1]; simp), if_neg (by omega), if_neg (by rw [ht]; simp), v1]
  · unfold fst1
    refine clean_app m1 fun x hx => ?_
    rcases List.mem_cons.mp hx with rfl | hx
    · decide
    · refine clean_app t1 (fun y hy => ?_) x hx
      rcases List.mem_cons.mp hy with rfl | hy
      · decide
      · exact v3 y hy

/-! ### what is written -/
theorem par_good {h : Hd} {ls : List (List UInt8)} (hm : wordL h.m 16 = true) (ht : tgtL h.t = true) (hv : h.v = 0 ∨ h.v = 1) (hg : GdL h.fs ls) (hl : h.fs.length ≤ 32) (ho : hostL h.fs h.v = true)
    (hn : (joinL (fst1 h :: ls) ++ crlf).length ≤ 4096) : parH (joinL (fst1 h :: ls) ++ crlf) = (h, 200) := by
  obtain ⟨f1, f2, f3⟩ := fst_reads hm ht hv
  unfold parH
  rw [if_neg (by omega), lines_join _ (fun x hx => by
    rcases List.mem_cons.mp hx with rfl | hx
    · exact ⟨f2, f3⟩
    · exact gdL_clean _ _ hg x hx)]
  rw [par1, f1, if_neg (by simp)]
  unfold par2
  rw [gdL_reads h.fs ls [] hg (by simpa using hl)]
  simp [ho]
theorem gdL_self (fs : List Fd) (h : ∀ f ∈ fs, okF f = true) : GdL fs (fs.map fun f => f.1 ++ 58 :: ([32] ++ f.2 ++ [])) := by
  induction fs with
  | nil => trivial
  | cons f r ih => exact ⟨⟨⟨[32], [], by simp [blk], by simp, rfl⟩, h f (by simp)⟩, ih fun g hg => h g (by simp [hg])⟩
theorem wr_join (h : Hd) : wrH h = joinL (fst1 h :: h.fs.map fun f => f.1 ++ 58 :: ([32] ++ f.2 ++ [])) ++ crlf := by
  have e1 : (h.fs.flatMap pcF).flatten = joinL (h.fs.map fun f => f.1 ++ 58 :: ([32] ++ f.2 ++ [])) := by
    unfold joinL
    generalize h.fs = l
    induction l with
    | nil => rfl
    | cons f r ih =>
      rw [List.flatMap_cons, List.flatten_append, ih, List.map_cons, List.flatMap_cons]
      simp [pcF]
  have e2 : joinL (fst1 h :: h.fs.map fun f => f.1 ++ 58 :: ([32] ++ f.2 ++ [])) = fst1 h ++ crlf ++ joinL (h.fs.map fun f => f.1 ++ 58 :: ([32] ++ f.2 ++ [])) := by
    unfold joinL; rw [List.flatMap_cons]
  rw [e2, ← e1]
  unfold wrH
  rw [pcs_eq, List.flatten_append, List.flatten_append]
  unfold pc0 fst1 ver htp
  simp
theorem mayH_all {h : Hd} (hm : mayH h = true) : wordL h.m 16 = true ∧ tgtL h.t = true ∧ (h.v = 0 ∨ h.v = 1) ∧ h.fs.length ≤ 32 ∧ (∀ f ∈ h.fs, okF f = true) ∧ hostL h.fs h.v = true ∧ (wrH h).length ≤ 4096 := by
  unfold mayH at hm
  simp only [Bool.and_eq_true, decide_eq_true_eq, Bool.or_eq_true, beq_iff_eq] at hm
  obtain ⟨h1, h2, h3, h4, h5, h6, h7⟩ := hm
  exact ⟨h1, h2, h3, h4, fun f hf => by have := List.all_eq_true.mp h5 f hf; exact this, h6, h7⟩
/-- **What is written is parsed as it was.** -/
theorem par_wr {h : Hd} (hm : mayH h = true) : parH (wrH h) = (h, 200) := by
  obtain ⟨h1, h2, h3, h4, h5, h6, h7⟩ := mayH_all hm
  rw [wr_join] at h7 ⊢
  exact par_good h1 h2 h3 (gdL_self _ h5) h4 h6 h7
end Go.Proofs.YtkoohdacneflfaaGreatDoor
