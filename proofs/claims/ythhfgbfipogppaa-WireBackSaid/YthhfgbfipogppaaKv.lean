/-
  The statement about names that are told and read: what its rows and its packer are, round for round.
-/
import Derived.Test.YthhfgbfipogppaaKu
namespace Go.Proofs.Ythhfgbfipogppaa
open Go.RowKit Go.Shelf
set_option linter.unusedVariables false

structure Bk (w wr : World) (p bm B0 : Nat) (v7 v8 v9 : Value) (b : List UInt8) (q : List Nat) (n : List (List UInt8)) (K : List (List UInt8 × Nat)) (e : Nat) : Prop where
  rb : OwnB wr B0 v7 b
  ri : OwnI wr B0 v8 q
  rt : OwnT wr B0 v9 n
  pk : Pk wr p bm K e
  bel : Below w.heap.size w wr
  size : B0 ≤ wr.heap.size
  hp : p < B0
  hm : bm < B0
  h0 : w.heap.size ≤ p ∧ w.heap.size ≤ bm

section
variable {w wr w' : World} {p bm B0 e : Nat} {v7 v8 v9 : Value} {b : List UInt8} {q : List Nat} {n : List (List UInt8)} {K : List (List UInt8 × Nat)}

theorem Bk.later (h : Bk w wr p bm B0 v7 v8 v9 b q n K e) (hb : Below wr.heap.size wr w') : Bk w w' p bm B0 v7 v8 v9 b q n K e :=
  ⟨h.rb.below hb, OwnZ.below h.ri hb, OwnZ.below h.rt hb, h.pk.later hb, bel_call h.bel hb, Nat.le_trans h.size hb.size, h.hp, h.hm, h.h0⟩

theorem Bk.name {K' : List (List UInt8 × Nat)} {e' : Nat} (h : Bk w wr p bm B0 v7 v8 v9 b q n K e) (ha : Aside (fun x => x = p ∨ x = bm) wr w') (hk : Pk w' p bm K' e') : Bk w w' p bm B0 v7 v8 v9 b q n K' e' := by
  have h1 := h.hp
  have h2 := h.hm
  have h3 := h.h0
  refine ⟨h.rb.aside ha fun x hx => ?_, OwnZ.but h.ri ha fun x hx => ?_, OwnZ.but h.rt ha fun x hx => ?_, hk, below_aside h.bel ha fun x hx => ⟨Nat.lt_of_lt_of_le hx h.bel.size, by omega⟩, Nat.le_trans h.size ha.size, h1, h2, h3⟩
  · have := (h.rb.lt x hx).1; omega
  · have := (OwnZ.lt h.ri x hx).1; omega
  · have := (OwnZ.lt h.rt x hx).1; omega

theorem Bk.appB (h : Bk w wr p bm B0 v7 v8 v9 b q n K e) {xv : Value} {l' : List UInt8} {lo hi : Nat} (hx : Sl wr lo hi xv (iz l')) (hb : b.length + l'.length ≤ 1000000) :
    ∃ a' c' w', (Builtin.append_ #[22, 22] 22 #[v7, xv]).run Try.prog wr = .ok (.slice a' (b.length + l'.length) c') w' ∧ Bk w w' p bm B0 (.slice a' (b.length + l'.length) c') v8 v9 (b ++ l') q n K e := by
  obtain ⟨a', c', w', h1, h2, ha⟩ := run_appBs B0 v7 xv b l' h.rb hx hb h.size
  have hlt := h.rb.lt
  have g1 := h.hp
  have g2 := h.hm
  have g3 := h.h0
  refine ⟨a', c', w', h1, h2, OwnZ.but h.ri ha fun x hx hg => apart_BZ h.rb h.ri (by decide) x hg hx, OwnZ.but h.rt ha fun x hx hg => apart_BZ h.rb h.rt (by decide) x hg hx, h.pk.aside ha (fun hg => by have := (hlt p hg).1; omega) (fun hg => by have := (hlt bm hg).1; omega),
    below_aside h.bel ha fun x hx => ⟨Nat.lt_of_lt_of_le hx h.bel.size, fun hg => by have := (hlt x hg).1; omega⟩, Nat.le_trans h.size ha.size, g1, g2, g3⟩

theorem Bk.appI (h : Bk w wr p bm B0 v7 v8 v9 b q n K e) (x : Nat) (hb : q.length + 1 ≤ 1000000) :
    ∃ a' c' w', (Builtin.append_ #[47, 47] 47 #[v8, .slice (some ⟨wr.heap.size, 0, none⟩) 1 1]).run Try.prog (wr.alloc (.cells #[.int .i64 (x : Int)] 3)) = .ok (.slice a' (q.length + 1) c') w' ∧ Bk w w' p bm B0 v7 (.slice a' (q.length + 1) c') v9 b (q ++ [x]) n K e ∧ ∀ B v (l : List UInt8), OwnB wr B v l → OwnB w' B v l := by
  have hal : Below wr.heap.size wr (wr.alloc (.cells #[.int .i64 (x : Int)] 3)) := (Below.refl _ _).alloc (Nat.le_refl _) _
  have h := h.later hal
  obtain ⟨a', c', w', h1, h2, ha⟩ := run_appI B0 v8 q x wr.heap.size h.ri (by simp [go_sem]) hb h.size
  have hlt := OwnZ.lt h.ri
  have g1 := h.hp
  have g2 := h.hm
  have g3 := h.h0
  refine ⟨a', c', w', h1, ⟨h.rb.aside ha fun y hy hg => apart_BZ h.rb h.ri (by decide) y hy hg, h2, OwnZ.but h.rt ha fun y hy hg => apart_ZZ h.ri h.rt (by decide) y hg hy, h.pk.aside ha (fun hg => by have := (hlt p hg).1; omega) (fun hg => by have := (hlt bm hg).1; omega),
    below_aside h.bel ha fun y hy => ⟨Nat.lt_of_lt_of_le hy h.bel.size, fun hg => by have := (hlt y hg).1; omega⟩, Nat.le_trans h.size ha.size, g1, g2, g3⟩, fun B v l ho => (ho.below hal).aside ha fun y hy hg => apart_BZ (ho.below hal) h.ri (by decide) y hy hg⟩

theorem Bk.appT (h : Bk w wr p bm B0 v7 v8 v9 b q n K e) (y : List UInt8) (hb : n.length + 1 ≤ 1000000) :
    ∃ a' c' w', (Builtin.append_ #[48, 48] 48 #[v9, .slice (some ⟨wr.heap.size, 0, none⟩) 1 1]).run Try.prog (wr.alloc (.cells #[.string (bs y)] 9)) = .ok (.slice a' (n.length + 1) c') w' ∧ Bk w w' p bm B0 v7 v8 (.slice a' (n.length + 1) c') b q (n ++ [y]) K e ∧ ∀ B v (l : List UInt8), OwnB wr B v l → OwnB w' B v l := by
  have hal : Below wr.heap.size wr (wr.alloc (.cells #[.string (bs y)] 9)) := (Below.refl _ _).alloc (Nat.le_refl _) _
  have h := h.later hal
  obtain ⟨a', c', w', h1, h2, h3⟩ := run_appT B0 v9 n y wr.heap.size h.rt (by simp [go_sem, tv]) hb h.size
  have ha := aside_grown h3
  have hlt := OwnZ.lt h.rt
  have g1 := h.hp
  have g2 := h.hm
  have g3 := h.h0
  refine ⟨a', c', w', h1, ⟨h.rb.aside ha fun y hy hg => apart_BZ h.rb h.rt (by decide) y hy hg, OwnZ.but h.ri ha fun y hy hg => apart_ZZ h.rt h.ri (by decide) y hg hy, h2, h.pk.aside ha (fun hg => by have := (hlt p hg).1; omega) (fun hg => by have := (hlt bm hg).1; omega),
    below_aside h.bel ha fun y hy => ⟨Nat.lt_of_lt_of_le hy h.bel.size, fun hg => by have := (hlt y hg).1; omega⟩, Nat.le_trans h.size ha.size, g1, g2, g3⟩, fun B v l ho => (ho.below hal).aside ha fun y hy hg => apart_BZ (ho.below hal) h.rt (by decide) y hy hg⟩
end

theorem longA_no {l : List AV} (h : longA l = false) : l.length ≤ 60 ∧ ∀ k (hk : k < l.length), l[k].1.length ≤ 400 := by
  unfold longA at h
  rw [Bool.or_eq_false_iff] at h
  obtain ⟨h1, h2⟩ := h
  have h3 : l.length ≤ 60 := by simpa using h2
  rw [List.take_of_length_le (by omega)] at h1
  exact ⟨h3, fun k hk => by
    have := List.any_eq_false.mp h1 l[k] (List.getElem_mem hk)
    simpa using this⟩
end Go.Proofs.Ythhfgbfipogppaa
