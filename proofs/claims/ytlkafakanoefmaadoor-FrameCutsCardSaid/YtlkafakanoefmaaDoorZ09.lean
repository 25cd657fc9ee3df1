/-
  The law FrameScript: how its loop stands.
-/
import Derived.Test.YtlkafakanoefmaaDoorZ08
import Derived.BigQuiet
import Derived.Deep.Matrix
import Derived.SizedLaws
import Derived.LaidMore
import Derived.LaidLaws
import Derived.LaidHandle
namespace Go.Proofs.YtlkafakanoefmaaDoor
open Go.RowKit Go.Shelf
set_option linter.unusedVariables false
set_option linter.unusedSimpArgs false
set_option maxRecDepth 100000

/-- The document's reader, what it keeps in block k. -/
def RdK (w : World) (r M k : Nat) (l : List UInt8) (out : Bool) : Prop :=
  ∃ v, w.cell? ⟨r, 0, none⟩ = some (.int .i64 M) ∧ w.cell? ⟨r, 1, none⟩ = some v ∧ w.cell? ⟨r, 2, none⟩ = some (.bool out) ∧ (∀ j, w.frozen? ⟨r, j, none⟩ = false) ∧ Sl w k (k + 1) v (iz l) ∧ k < w.heap.size

section
variable {w w' : World} {r M k B : Nat} {l : List UInt8} {out : Bool} {G : Nat → Prop}
theorem RdK.lt (h : RdK w r M k l out) : r < w.heap.size := by
  obtain ⟨v, h1, _⟩ := h
  exact World.block_lt_of_cell? w _ h1
theorem RdK.aside (h : RdK w r M k l out) (ha : Aside G w w') (h0 : ¬ G r) (h1 : ¬ G k) : RdK w' r M k l out := by
  have hlt := h.lt
  obtain ⟨v, c0, c1, c2, c3, hs, hk⟩ := h
  exact ⟨v, (ha.cell hlt h0).trans c0, (ha.cell hlt h0).trans c1, (ha.cell hlt h0).trans c2, fun j => (ha.frozen (p := ⟨r, j, none⟩) hlt h0).trans (c3 j), sl_apart hs ha hk h1, Nat.lt_of_lt_of_le hk ha.size⟩
theorem RdK.below (h : RdK w r M k l out) (hb : Below w.heap.size w w') : RdK w' r M k l out := h.aside (G := fun _ => False) (Aside.of_all hb) (fun h => h) fun h => h
theorem RdK.rd (h : RdK w r M k l out) : Rd w r M 0 l out := by
  obtain ⟨v, c0, c1, c2, c3, hs, hk⟩ := h
  exact ⟨v, c0, c1, c2, c3, hs.wide (Nat.zero_le _) hk⟩
theorem Sl.none_any {v : Value} {lo hi k : Nat} (h : Sl w lo hi v (iz [])) : Sl w k (k + 1) v (iz []) := by
  obtain ⟨a, c, rfl, h1, h2, h3⟩ := h
  exact ⟨a, c, rfl, h1, h2, fun h => by simp [iz] at h⟩
theorem Rd.one (h : Rd w r M B l out) : ∃ k, ((B ≤ k ∧ k < w.heap.size) ∨ k = r) ∧ RdK w r M k l out := by
  have hlt := h.lt
  obtain ⟨v, c0, c1, c2, c3, hs⟩ := h
  by_cases hl : l = []
  · subst hl
    exact ⟨r, .inr rfl, v, c0, c1, c2, c3, hs.none_any, hlt⟩
  · have hB : B < w.heap.size := by
      obtain ⟨a, c, rfl, h1, h2, h3⟩ := hs
      obtain ⟨b, o, _, h4, h5, _⟩ := h3 (by rw [iz_len]; exact List.length_pos_iff.mpr hl)
      omega
    obtain ⟨k, h1, h2, h3⟩ := Sl.one hs hB
    exact ⟨k, .inl ⟨h1, h2⟩, v, c0, c1, c2, c3, h3, h2⟩
theorem OwnB.one {v : Value} (h : OwnB w B v l) (k0 : Nat) : ∃ k, ((B ≤ k ∧ k < w.heap.size) ∨ k = k0) ∧ Sl w k (k + 1) v (iz l) := by
  by_cases hl : l = []
  · subst hl
    exact ⟨k0, .inr rfl, h.sl.none_any⟩
  · obtain ⟨g, c, _, hg⟩ := h.some_ (List.length_pos_iff.mpr hl)
    exact ⟨g, .inl (h.lt g hg), h.in_ hg⟩
end

/-- How FrameScript's loop stands. -/
structure FsI (w : World) (D M : Nat) (ls : List (List UInt8)) (k : Nat) (o : Option Nat) (l : List UInt8) (t kb : Nat) (out : Bool) (W : World) : Prop where
  rr : Rr W o w.heap.size t M l out
  rd : RdK W D M kb l out
  ok : okS M l out
  tlen : t ≤ (ls.take k).flatten.length
  off : ∀ g, o = some g → D < g ∧ g ≠ kb
  kne : kb ≠ w.heap.size
  dlt : w.heap.size < D
  bel : Below w.heap.size w W

/-- Behind the landed reader's push. -/
theorem FsI.one {w wr w1 w2 : World} {D M k t kb : Nat} {ls : List (List UInt8)} {o : Option Nat} {l p : List UInt8} {out : Bool} {vi : Value} {o2 : Option Nat} (h : FsI w D M ls k o l t kb out wr)
    (oi : OwnB w1 wr.heap.size vi p) (bi : Below wr.heap.size wr w1) (ho2 : ∀ g, o2 = some g → o = some g ∨ w1.heap.size ≤ g) (ha : Aside (fun j => j = w.heap.size ∨ o = some j) w1 w2) :
    RdK w2 D M kb l out ∧ OwnB w2 wr.heap.size vi p ∧ Below w.heap.size w w2 ∧ (∀ g, o2 = some g → D < g ∧ (g < wr.heap.size ∨ w1.heap.size ≤ g)) := by
  have hR := h.rr.lt
  have hD := h.rd.lt
  have hs1 := bi.size
  refine ⟨(h.rd.below bi).aside ha (fun e => ?_) (fun e => ?_), oi.aside ha (fun b hb e => ?_), (h.bel.trans (bi.mono (by omega))).trans (ha.below fun b hb => ⟨by omega, fun e => ?_⟩), fun g hg => ?_⟩
  · rcases e with e | e
    · have := h.dlt; omega
    · have := h.off _ e; omega
  · rcases e with e | e
    · exact h.kne e
    · have := h.off _ e; omega
  · have h1 := (oi.lt b hb).1
    rcases e with e | e
    · omega
    · have := (h.rr.olt b e).1; omega
  · rcases e with e | e
    · omega
    · have := h.off _ e; have := h.dlt; omega
  · rcases ho2 g hg with e | e
    · exact ⟨(h.off g e).1, .inl (h.rr.olt g e).1⟩
    · exact ⟨by omega, .inr e⟩

theorem OvB.below {w w' : World} {B : Nat} {u : Value} (h : OvB w B u) (hb : Below w.heap.size w w') : OvB w' B u := by
  rcases h with h | ⟨g, n, c, h1, h2, h3, h4, l, fz, h5, h6, h7⟩
  · exact .inl h
  · exact .inr ⟨g, n, c, h1, h2, h3, h4, l, fz, h5, h6, (hb.block g (Array.getElem?_eq_some_iff.mp h7).1).trans h7⟩

/-- Within a round, behind both pushes. -/
structure Mid (w : World) (D M B4 B5 T kb : Nat) (o : Option Nat) (l : List UInt8) (out : Bool) (vx : Value) (us : List Value) (W : World) : Prop where
  rr : Rr W o w.heap.size T M l out
  rd : RdK W D M kb l out
  row : OwnS W B4 vx us
  ov : ∀ u ∈ us, OvB W B4 u
  lim : ∀ u ∈ us, ∀ b, u.ownBlock = some b → B4 ≤ b ∧ b < B5 ∧ o ≠ some b
  off : ∀ g, o = some g → D < g ∧ g ≠ kb
  kne : kb ≠ w.heap.size ∧ (B5 ≤ kb ∨ kb = D)
  dlt : w.heap.size < D ∧ D < B4 ∧ B4 ≤ B5
  bel : Below w.heap.size w W

section
variable {w W W' : World} {D M B4 B5 T kb : Nat} {o : Option Nat} {l : List UInt8} {out : Bool} {vx : Value} {us : List Value}
theorem Mid.turn {G : Nat → Prop} (h : Mid w D M B4 B5 T kb o l out vx us W) (ha : Aside G W W') (hG : ∀ b, G b → w.heap.size < b ∧ b ≠ D ∧ b ≠ kb ∧ o ≠ some b ∧ vx.ownBlock ≠ some b) (hov : ∀ B' u, OvB W B' u → OvB W' B' u) : Mid w D M B4 B5 T kb o l out vx us W' := by
  have hs := h.bel.size
  exact ⟨h.rr.aside ha (fun e => by have := (hG _ e).1; omega) (fun g hg e => (hG g e).2.2.2.1 hg), h.rd.aside ha (fun e => (hG _ e).2.1 rfl) (fun e => (hG _ e).2.2.1 rfl), h.row.but ha (fun b hb e => (hG b e).2.2.2.2 hb), fun u hu => hov _ _ (h.ov u hu), h.lim, h.off, h.kne, h.dlt, h.bel.trans (ha.below fun b hb => ⟨by omega, fun e => by have := (hG b e).1; omega⟩)⟩
theorem Mid.below (h : Mid w D M B4 B5 T kb o l out vx us W) (hb : Below W.heap.size W W') : Mid w D M B4 B5 T kb o l out vx us W' :=
  h.turn (G := fun _ => False) (Aside.of_all hb) (fun _ h => h.elim) fun _ _ hu => hu.below hb
/-- A told message is written over. -/
theorem Mid.over (h : Mid w D M B4 B5 T kb o l out vx us W) {u : Value} (hu : u ∈ us) (ha : Aside (fun b => u.ownBlock = some b) W W') (hov : ∀ B' u, OvB W B' u → OvB W' B' u) : Mid w D M B4 B5 T kb o l out vx us W' :=
  h.turn ha (fun b hb => by
    have h1 := h.lim u hu b hb
    have h2 := h.dlt
    have h3 := h.kne
    exact ⟨by omega, by omega, by omega, h1.2.2, fun e => OwnS.apart h.row (h.ov u hu) b e hb⟩) hov
end

/-- Behind the document's push. -/
theorem FsI.two {w wr w4 w5 w6 : World} {D M k t kb T : Nat} {ls : List (List UInt8)} {o : Option Nat} {l : List UInt8} {out : Bool} {vx : Value} {us : List Value} {o2 : Option Nat} {ms : List (List UInt8)} {l' : List UInt8} {out' : Bool} (h : FsI w D M ls k o l t kb out wr)
    (hs4 : wr.heap.size ≤ w4.heap.size) (hs5 : w4.heap.size ≤ w5.heap.size) (b5 : Below w.heap.size w w5) (tx : ToldN w5 w4.heap.size vx us ms (fun b => o2 = some b)) (r5 : Rr w5 o2 w.heap.size T M l' out') (off5 : ∀ g, o2 = some g → D < g ∧ (g < wr.heap.size ∨ w4.heap.size ≤ g)) (rd6 : Rd w6 D M w5.heap.size l' out') (ha6 : Aside (fun j => j = D) w5 w6) :
    ∃ kb', Mid w D M w4.heap.size w5.heap.size T kb' o2 l' out' vx us w6 := by
  have hd := h.dlt
  have hD := h.rd.lt
  obtain ⟨kb', hk, hr⟩ := rd6.one
  have t6 : ToldN w6 w4.heap.size vx us ms (fun b => o2 = some b) := tx.aside ha6 (fun b hb hlt e => by omega) fun _ _ _ h => h
  refine ⟨kb', r5.aside ha6 (by omega) (fun g hg e => by have := (off5 g hg).1; omega), hr, t6.told.row, fun u hu => ?_, fun u hu b hb => ?_, fun g hg => ?_, ⟨by omega, by omega⟩, ⟨by omega, by omega, hs5⟩, b5.trans (ha6.below fun b hb => ⟨by have := b5.size; omega, by omega⟩)⟩
  · obtain ⟨m, hm⟩ := t6.own hu
    exact hm.ov
  · obtain ⟨m, hm⟩ := tx.own hu
    exact ⟨(hm.lt b hb).1, (hm.lt b hb).2, fun e => tx.each u hu b hb e⟩
  · have h1 := (off5 g hg).1
    have h2 := (r5.olt g hg).1
    exact ⟨h1, by omega⟩

/-- The round's end. -/
theorem Mid.next {w W : World} {D M B4 B5 kb k t : Nat} {ls : List (List UInt8)} {o : Option Nat} {l p : List UInt8} {out : Bool} {vx : Value} {us : List Value} (h : Mid w D M B4 B5 (t + p.length) kb o l out vx us W) (hok : okS M l out) (ht : t ≤ (ls.take k).flatten.length) (hft : (ls.take (k + 1)).flatten.length = (ls.take k).flatten.length + p.length) :
    FsI w D M ls (k + 1) o l (t + p.length) kb out W :=
  ⟨h.rr, h.rd, hok, by omega, h.off, h.kne.1, h.dlt.1, h.bel⟩

theorem OwnS.cell {W : World} {B n c : Nat} {a : Option Addr} {us : List Value} (h : OwnS W B (.slice a n c) us) (j : Nat) (hj : j < us.length) : ∃ g u, a = some ⟨g, 0, none⟩ ∧ u ∈ us ∧ W.cell? ⟨g, j, none⟩ = some u := by
  rcases h with ⟨e, h0⟩ | ⟨g, cap, e, _, _, _, hg⟩
  · subst h0; simp at hj
  · injection e with e1 _ _
    refine ⟨g, us[j], e1, List.getElem_mem hj, ?_⟩
    rw [World.cell?, hg]
    simp [List.getElem?_append_left hj, hj]

theorem FsI.drewN {w W : World} {D M k t kb : Nat} {ls : List (List UInt8)} {o : Option Nat} {l : List UInt8} {out : Bool} (h : FsI w D M ls k o l t kb out W) (n : Nat) : FsI w D M ls k o l t kb out (W.drewN n) :=
  ⟨h.rr.drewN n, h.rd.below (below_drewN (Below.refl _ _) n), h.ok, h.tlen, h.off, h.kne, h.dlt, below_drewN h.bel n⟩
end Go.Proofs.YtlkafakanoefmaaDoor

/-
  The law FrameScript: the walk.
-/
namespace Go.Proofs.YtlkafakanoefmaaDoor
open Go.RowKit Go.Shelf
set_option linter.unusedVariables false
set_option linter.unusedSimpArgs false
set_option maxRecDepth 100000

set_option maxHeartbeats 8000000 in
theorem script_any {w : World} {m : Int} {lv : Value} {ls : List (List UInt8)} (h : Bl w lv ls) (hl : ls.length ≤ 140737488355328) (he : ∀ j, j < ls.length → (ls.getD j []).length ≤ 140737488355328) :
    Calls Tryd.prog 4 #[.int .i64 m, lv] w fun e w' => e = .returned (.bool true) ∧ Below w.heap.size w w' := by
  have HA := Lib.hid awake_any
  have HB := Lib.hid h
  have HLO := Lib.hid (long12_any h hl he)
  obtain ⟨a, c, rfl, hlc, hel⟩ := h.one
  have HE := Lib.hid hel
  clear h hel he
  obtain ⟨LB, hLB⟩ : ∃ b, longF ls = b := ⟨_, rfl⟩
  rw [hLB] at HLO
  cases LB with
  | true =>
    clear hLB
    go_enter Tryd.func4, Tryd.ntmps4
    go_wp2_with fail
    refine HLO.out.mono ?_; rintro e w1 ⟨rfl, rfl⟩
    go_wp2_with fail
    refine (HA.out _).mono ?_; rintro e w1 ⟨rfl, b1⟩
    have B1 := Lib.hid b1
    clear b1
    go_wp2_with fail
    go_ret
    exact ⟨rfl, B1.out⟩
  | false =>
    have hl60 : ls.length ≤ 60 := by
      unfold longF at hLB
      simp at hLB
      omega
    have hfl : ls.flatten.length ≤ 70000 := by
      unfold longF at hLB
      have h2 := (Bool.or_eq_false_iff.mp hLB).2
      have := of_decide_eq_false h2
      omega
    clear hLB
    by_cases hM : m < 12 ∨ 65535 < m
    · have HN := Lib.hid (new_no w m hM)
      have HR := Lib.hid (newR_no w m hM)
      clear hM
      go_enter Tryd.func4, Tryd.ntmps4
      go_wp2_with fail
      refine HLO.out.mono ?_; rintro e w1 ⟨rfl, rfl⟩
      go_wp2_with fail
      refine HN.out.mono ?_; rintro e w2 ⟨rfl, rfl⟩
      go_wp2_with fail
      refine HR.out.mono ?_; rintro e w3 ⟨rfl, rfl⟩
      go_wp2_with fail
      refine (HA.out _).mono ?_; rintro e w4 ⟨rfl, b4⟩
      have B4 := Lib.hid b4
      clear b4
      go_wp2_with fail
      go_ret
      exact ⟨rfl, B4.out⟩
    · obtain ⟨M, rfl⟩ : ∃ M : Nat, m = M := ⟨m.toNat, by omega⟩
      have hM1 : 12 ≤ M := by omega
      have hM2 : M ≤ 65535 := by omega
      have HN := Lib.hid (new_ok w M hM1 hM2)
      clear hM hl
      go_enter Tryd.func4, Tryd.ntmps4
      go_wp2_with fail
      refine HLO.out.mono ?_; rintro e w1 ⟨rfl, rfl⟩
      go_wp2_with fail
      refine HN.out.mono ?_; rintro e w2 ⟨rfl, r2, b2⟩
      have HR := Lib.hid (newR_ok w2 M 0 hM1 hM2)
      have R2 := Lib.hid r2
      have B2 := Lib.hid b2
      clear r2 b2
      go_wp2_with fail
      refine HR.out.mono ?_; rintro e w3 ⟨rfl, r3, b3⟩
      have hD := R2.out.lt
      obtain ⟨D, hDD⟩ : ∃ D, w2.heap.size = D := ⟨_, rfl⟩
      have HI0 : Hid (∃ kb, FsI w1 D M ls 0 none [] 0 kb false w3) := by
        obtain ⟨kb, _, hkb⟩ := r3.one
        obtain ⟨v, c0, c1, c2, c3, hs, _⟩ := hkb
        have hDl : D < w3.heap.size := by rw [← hDD]; exact World.block_lt_of_cell? _ _ c0
        rw [hDD] at c0 c1 c2 c3
        exact Lib.hid ⟨D, R2.out.below b3, ⟨v, c0, c1, c2, c3, hs.none_any, hDl⟩, runF_nil M, Nat.zero_le _, fun g hg => by simp at hg, by omega, by omega, B2.out.trans (b3.mono (by omega))⟩
      rw [hDD]
      clear r3 b3 hD hDD
      go_wp2_with fail
      go_loopg [9, 10, 11, 12, 13, 14, 15] ls.length (fun g i _ _ _ _ _ _ wr => ∃ (k t kb : Nat) (o : Option Nat) (l : List UInt8) (out : Bool), k + g = ls.length ∧ i = .int .i64 k ∧ Hid (FsI w1 D M ls k o l t kb out wr))
      case atStart =>
        obtain ⟨kb, h0⟩ := HI0.out
        exact ⟨0, 0, kb, none, [], false, by omega, rfl, h0⟩
      case round =>
        obtain ⟨k, t, kb, o, l, out, hk, rfl, HI⟩ := hrel
        have hRw := HI.out.rr.lt
        have hDw := HI.out.rd.lt
        have hdl := HI.out.dlt
        by_cases hlt : k < ls.length
        · have t1 : (k : Int) < ls.length := by omega
          obtain ⟨eb, eo, ek, eu, ea, hel1, hel2, hel3, hel4⟩ := HE.out k hlt
          subst ea
          have q1 := ((Aside.of_all (G := fun _ => False) HI.out.bel).cell (p := ⟨eb, eo + k, none⟩) hel1 fun h => h).trans hel3
          have HQ := Lib.hid (fun W (hb : Below w1.heap.size w1 W) => ((Aside.of_all (G := fun _ => False) hb).cell (p := ⟨eb, eo + k, none⟩) hel1 fun h => h).trans hel3)
          have HS := Lib.hid (fun W (hb : Below w1.heap.size w1 W) => sl_apart hel4 (Aside.of_all (G := fun _ => False) hb) hel2 fun h => h)
          have hfd := flat_drop_le ls k hlt
          have hft := flat_take ls k hlt
          obtain ⟨p, hp⟩ : ∃ p, ls.getD k [] = p := ⟨_, rfl⟩
          rw [hp] at HS hfd hft
          obtain ⟨pa, pc, heu⟩ : ∃ pa pc, eu = .slice pa p.length pc := by
            obtain ⟨pa, pc, h, _⟩ := id (HS.out w1 (Below.refl _ _))
            rw [iz_len] at h
            exact ⟨pa, pc, h⟩
          subst heu
          have HFT := Lib.hid hft
          have hp7 : p.length ≤ 70000 := by omega
          have hok := okS_len hM1 HI.out.ok
          have htl := HI.out.tlen
          have HCP := Lib.hid (copyB_any (HS.out wr HI.out.bel) (by omega))
          clear hel3 hel4 hft hp
          go_wp2_with fail
          refine HCP.out.mono ?_; rintro e w4 ⟨vi, rfl, oi, bi⟩
          obtain ⟨ia, ic, hvi⟩ := oi.shape
          subst hvi
          have q4 := HQ.out w4 (HI.out.bel.trans (bi.mono (by omega)))
          have hs4 := bi.size
          obtain ⟨ki, hki, hks⟩ := oi.one D
          have HPB := Lib.hid (pushB_any (HI.out.rr.below bi) hks (by omega) (by omega) (fun e => by
            have h1 := HI.out.off _ e
            have h2 := (HI.out.rr.olt _ e).1
            omega) HI.out.ok hM1 hM2 (by omega) (by rw [List.length_append]; omega))
          unfold PushB at HPB
          have HSL1 := Lib.hid (stepS_len M l out p)
          have HOK1 := Lib.hid (okS_step M hM1 l out p)
          have HPC := Lib.hid (fun W (hr : RdK W D M kb l out) (hv : Sl W 0 W.heap.size (.slice pa p.length pc) (iz p)) => pushC_any hr.rd hv HI.out.ok hM2 (by omega))
          unfold PushC at HPC
          obtain ⟨⟨ms, l', E, out'⟩, hX⟩ : ∃ X : List (List UInt8) × List UInt8 × Int × Bool, stepS M l out p = X := ⟨_, rfl⟩
          rw [hX] at HPB HSL1 HOK1
          simp only [hX] at HPC
          dsimp only at HPB HSL1 HOK1
          have OI := Lib.hid oi
          have BI := Lib.hid bi
          clear oi bi hks hX
          go_wp2_with fail
          refine HPB.out.mono ?_; rintro e w5 ⟨vx, usx, o2, rfl, tx, r5, ho2, ha5⟩
          obtain ⟨rd5, oi5, b5, off5⟩ := HI.out.one OI.out BI.out ho2 ha5
          have hs5 := ha5.size
          have HPC5 := Lib.hid (HPC.out w5 rd5 ((HS.out w5 b5).wide (Nat.zero_le _) (by have := b5.size; omega)))
          obtain ⟨xa, xc, hvx⟩ := tx.told.row.shape
          subst hvx
          have q5 := HQ.out w5 b5
          have TX := Lib.hid tx
          have R5 := Lib.hid r5
          have OFF5 := Lib.hid off5
          have B5 := Lib.hid b5
          have OI5 := Lib.hid oi5
          clear tx r5 ho2 ha5 rd5 oi5 b5 off5 HPB
          go_wp2_with fail
          refine HPC5.out.mono ?_; rintro e w6 ⟨vy, usy, rfl, ty, rd6, ha6⟩
          obtain ⟨kb', hmid⟩ := HI.out.two hs4 hs5 B5.out TX.out R5.out OFF5.out rd6 ha6
          have M6 := Lib.hid hmid
          have hs6 := ha6.size
          have OI6 := Lib.hid (OI5.out.aside ha6 fun b hb e => by have := (OI5.out.lt b hb).1; omega)
          have TX6 := Lib.hid (TX.out.aside (X' := fun b => o2 = some b) ha6 (fun b hb hl e => by omega) fun _ _ _ h => h)
          have HSL := Lib.hid (sameL_any TX6.out.bl ty.bl (by have := HSL1.out; omega))
          obtain ⟨ya, yc, hvy⟩ := ty.row.shape
          subst hvy
          clear hmid ty rd6 ha6
          go_wp2_with fail
          refine HSL.out.mono ?_; rintro e w7 ⟨rfl, b7⟩
          have M7 := Lib.hid (M6.out.below b7)
          have OI7 := Lib.hid (OI6.out.below b7)
          have q7 := HQ.out w7 M7.out.bel
          have HSB := Lib.hid (same_any OI7.out.sl (HS.out w7 M7.out.bel))
          have hs7 := b7.size
          clear b7
          go_wp2_with fail
          refine HSB.out.mono ?_; rintro e w8 ⟨rfl, rfl⟩
          have HOV := Lib.hid (over_ov OI7.out.ov)
          go_wp2_with fail
          refine HOV.out.mono ?_; rintro e w8 ⟨rfl, ha8, hov8⟩
          have M8 := Lib.hid (M7.out.turn ha8 (fun b hb => by
            have h1 := OI.out.lt b hb
            have h2 := M7.out.kne
            have h3 := M7.out.dlt
            refine ⟨by omega, by omega, by omega, fun e => ?_, fun e => ?_⟩
            · have := (OFF5.out b e).2; omega
            · have := (OwnZ.lt M7.out.row b e).1; omega) hov8)
          clear ha8 hov8 HCP HPC HPC5 HSL HSB HOV q1 q4 q5 q7
          have hus : usx.length ≤ 150000 := by have h1 := TX.out.told.len; have h2 := HSL1.out; omega
          obtain ⟨n1, hn1⟩ : ∃ n, n = gk := ⟨_, rfl⟩
          go_wp2_with fail
          go_loopg [15] usx.length (fun g2 i wy => ∃ j : Nat, j + g2 = usx.length ∧ i = .int .i64 j ∧ Hid (Mid w1 D M w4.heap.size w5.heap.size (t + p.length) kb' o2 l' out' (.slice xa usx.length xc) usx wy))
          case atStart => exact ⟨0, by omega, rfl, M8⟩
          case round =>
            obtain ⟨j, hj, rfl, HM⟩ := hrel
            by_cases hju : j < usx.length
            · have u1 : (j : Int) < usx.length := by omega
              obtain ⟨gx, u, hxa, hmem, hcell⟩ := HM.out.row.cell j hju
              subst hxa
              have HO2 := Lib.hid (over_ov (HM.out.ov u hmem))
              obtain ⟨ua, un, uc, hu⟩ : ∃ ua un uc, u = .slice ua un uc := by
                rcases HM.out.ov u hmem with h | ⟨g, n, c, h, _⟩
                · exact ⟨_, _, _, h⟩
                · exact ⟨_, _, _, h⟩
              subst hu
              go_wp2_with fail
              refine HO2.out.mono ?_; rintro e w9 ⟨rfl, ha9, hov9⟩
              have HM9 := Lib.hid (HM.out.over hmem ha9 hov9)
              clear ha9 hov9 hmem hcell
              go_wp2_with fail
              go_roundg (usx.length - (j + 1))
              case measure => omega
              case rel => exact ⟨j + 1, by omega, by go_num, HM9⟩
            · have u1 : ¬ (j : Int) < usx.length := by omega
              have HI9 := Lib.hid (HM.out.next HOK1.out HI.out.tlen HFT.out)
              have HL9 := Lib.hid (fun n => left_any (HM.out.rr.drewN n))
              have HW9 := Lib.hid (fun n => want_rr (HM.out.rr.drewN n) (by have := okS_len hM1 HOK1.out; omega))
              have HB9 := Lib.hid (fun n => broken_any (HM.out.rr.drewN n))
              have HR9 := Lib.hid (fun n => wantR (w := wr.drewN n) (HM.out.rd.below (below_drewN (Below.refl _ _) n)).rd (by have := okS_len hM1 HOK1.out; omega))
              obtain ⟨bv, d0, d1, d2, d3, ds, _⟩ := HM.out.rd
              obtain ⟨ba, bc, hbv⟩ : ∃ ba bc, bv = .slice ba l'.length bc := by
                obtain ⟨ba, bc, h, _⟩ := id ds
                rw [iz_len] at h
                exact ⟨ba, bc, h⟩
              subst hbv
              obtain ⟨wv, hwv⟩ : ∃ x, wantF l' = x := ⟨_, rfl⟩
              rw [hwv] at HW9 HR9
              clear ds d3 hwv
              go_wp2_with fail
              go_quiet (first | (go_at_call 23; exact Calls.quiet_of (HL9.out _)) | (go_at_call 24; exact Calls.quiet_of (HW9.out _)) | (go_at_call 25; exact Calls.quiet_of (HR9.out _)) | (go_at_call 26; exact Calls.quiet_of_same (HB9.out _)))
              go_wp2_with fail
              go_roundg (ls.length - (k + 1))
              case measure => omega
              case rel => exact ⟨k + 1, t + p.length, kb', o2, l', out', by omega, by go_num, HI9.out.drewN nq⟩
        · have t1 : ¬ (k : Int) < ls.length := by omega
          have B1 := Lib.hid HI.out.bel
          go_wp2_with fail
          refine (HA.out _).mono ?_; rintro e w4 ⟨rfl, b4⟩
          have B4 := Lib.hid (B1.out.trans (b4.mono B1.out.size))
          clear b4
          go_wp2_with fail
          go_ret
          exact ⟨rfl, B4.out⟩
end Go.Proofs.YtlkafakanoefmaaDoor

/-
  What came in: a list of byte slices, a slice of numbers; what is laid when the call begins.
-/
namespace Go.Proofs.YtlkafakanoefmaaDoor
open Go.RowKit Go.Shelf Go.Deep Go.ChangeShapes
set_option linter.unusedVariables false
set_option linter.unusedSimpArgs false
set_option maxRecDepth 100000

theorem weights_all {H : Type} {P : Program} {e : TypeId} {d : DataW H} : ∀ {l : List (DataW H)}, d ∈ l → ∀ n ∈ d.weights P e, n ∈ DataW.weightsAll P e l
  | d0 :: r, hd, n, hn => by
    rw [DataW.weightsAll]
    rcases List.mem_cons.mp hd with rfl | hd
    · exact List.mem_append_left _ hn
    · exact List.mem_append_right _ (weights_all hd n hn)

theorem addr_plain {w : World} {a : Addr} {v : Value} (h : w.cell? (a.add 0) = some v) : ∃ b off, a = ⟨b, off, none⟩ := by
  obtain ⟨b, off, spot⟩ := a
  have hspot : spot = none := by simpa [Addr.add] using World.cell?_spot h
  exact ⟨b, off, by rw [hspot]⟩

/-- The bytes of a row that came in. -/
theorem open_row1 {w : World} {A : Option Addr} {L C : Nat} {Z : List Int} (h1 : L ≤ C) (h2 : Z.length = C) (h3 : ∀ n ∈ Z, (Lit.int .u8 n).wf = true) (h4 : A = none → C = 0) (h5 : ∀ a', A = some a' → ∀ c, c < C → w.cell? (a'.add c) = some (.int .u8 (Z.getD c 0))) :
    ∃ l : List UInt8, l.length = L ∧ Sl w 0 w.heap.size (.slice A L C) (iz l) := by
  have hlen : (Z.take L).length = L := by rw [List.length_take]; omega
  obtain ⟨l, hl⟩ := iz_of (l := Z.take L) fun n hn => u8_of_wf (h3 n (List.mem_of_mem_take hn))
  have hll : l.length = L := by rw [← iz_len l, ← hl, hlen]
  refine ⟨l, hll, A, C, by rw [iz_len, hll], by rw [iz_len, hll]; exact h1, h4, fun h0 => ?_⟩
  rw [iz_len, hll] at h0 ⊢
  cases A with
  | none => have := h4 rfl; omega
  | some x =>
    have hx := h5 x rfl
    obtain ⟨b, off, rfl⟩ := addr_plain (hx 0 (by omega))
    have hcell : ∀ j, j < L → w.cell? ⟨b, off + j, none⟩ = some (.int .u8 ((iz l).getD j 0)) := fun j hj => by
      have := hx j (by omega)
      rw [WideShapes.add_plain] at this
      rw [this, ← hl, List.getD, List.getD, List.getElem?_take, if_pos hj]
    exact ⟨b, off, rfl, Nat.zero_le _, World.block_lt_of_cell? w _ (hcell 0 h0), hcell⟩

section
variable {H : Type} {enc : TypeId × Value → H} {w : World} {base : Nat} {held : Bool} {fuel : Nat} {cs : List Value} {x : DataW H × List MemPlace}
theorem open_bl (h : DataW.trod enc Tryd.prog w base (fun _ => true) held fuel 31 cs = some x) (hw : ∀ n ∈ x.1.weights Tryd.prog 31, n ≤ reachBytes) :
    ∃ a len cap ls, cs = [.slice a len cap] ∧ Bl w (.slice a len cap) ls ∧ ls.length ≤ 140737488355328 ∧ ∀ j, j < ls.length → (ls.getD j []).length ≤ 140737488355328 := by
  rcases open_int_rows Tryd.underlying31 Tryd.underlying22 Tryd.underlying5 (by kernel_rfl) (by kernel_rfl) h with ⟨rfl, rfl⟩ | ⟨a, len, cap, A, L, C, Z, rfl, hb, hl, hm, rfl, hr⟩
  · exact ⟨none, 0, 0, [], rfl, ⟨none, 0, rfl, Nat.le_refl _, fun h => by simp at h⟩, by simp, fun j hj => by simp at hj⟩
  · have hex : ∀ r, r < len → ∃ l : List UInt8, l.length = L r ∧ Sl w 0 w.heap.size (.slice (A r) (L r) (C r)) (iz l) := fun r hrl => by
      obtain ⟨_, h1, _, h2, h3, h4, h5⟩ := hr r (by omega)
      exact open_row1 h1 h2 h3 h4 fun a' ha' => (h5 a' ha').2
    have hbyt : Tryd.prog.bytesOf 5 = 1 := by kernel_rfl
    have hbyS : Tryd.prog.bytesOf 22 = 24 := by kernel_rfl
    have hreach : reachBytes = 140737488351232 := by decide
    have hcap : cap ≤ 140737488355328 := by
      have := hw (len * 24 + (cap - len) * 24) (by
        simp only [DataW.weights, Tryd.underlying31, hbyS, List.length_map, List.length_range]
        rw [← Nat.add_mul]; exact List.mem_cons_self)
      omega
    have hLr : ∀ r, r < len → L r ≤ 140737488355328 := fun r hrl => by
      obtain ⟨_, h1, _, h2, h3, h4, h5⟩ := hr r (by omega)
      cases hA : A r with
      | none => have := h4 hA; omega
      | some a' =>
        have := hw (C r) (by
          simp only [DataW.weights, Tryd.underlying31]
          refine List.mem_cons_of_mem _ (List.mem_append_left _ (weights_all (d := intRow .u8 (A r) (L r) (Z r)) (List.mem_map.mpr ⟨r, List.mem_range.mpr hrl, rfl⟩) _ ?_))
          rw [hA]
          simp only [intRow, DataW.weights, Tryd.underlying22, hbyt, lits, List.length_map, List.length_take, List.length_drop, Nat.mul_one]
          rw [show min (L r) (Z r).length + ((Z r).length - L r) = C r by omega]
          exact List.mem_cons_self)
        omega
    obtain ⟨f, hf⟩ : ∃ f : Nat → List UInt8, ∀ r, r < len → (f r).length = L r ∧ Sl w 0 w.heap.size (.slice (A r) (L r) (C r)) (iz (f r)) :=
      ⟨fun r => if hrl : r < len then (hex r hrl).choose else [], fun r hrl => by simp only [dif_pos hrl]; exact (hex r hrl).choose_spec⟩
    have hll : ((List.range len).map f).length = len := by simp
    have hget : ∀ j, j < len → ((List.range len).map f).getD j [] = f j := fun j hj => by
      rw [List.getD, List.getElem?_map, List.getElem?_range hj]; rfl
    refine ⟨some a, len, cap, (List.range len).map f, rfl, ⟨some a, cap, by rw [hll], by rw [hll]; exact hl, fun h0 => ?_⟩, by rw [hll]; omega, fun j hj => ?_⟩
    · rw [hll] at h0 ⊢
      obtain ⟨b, off, rfl⟩ := addr_plain (hr 0 (by omega)).1
      refine ⟨b, off, rfl, World.block_lt_of_cell? w _ (hr 0 (by omega)).1, fun j hj => ⟨.slice (A j) (L j) (C j), ?_, ?_⟩⟩
      · have := (hr j (by omega)).1
        rwa [WideShapes.add_plain] at this
      · rw [hget j hj]; exact (hf j hj).2
    · rw [hll] at hj
      rw [hget j hj, (hf j hj).1]
      exact hLr j hj
end

/-- A slice of numbers that came in. -/
theorem ints_in {w : World} {a : Option Addr} {len cap : Nat} {zs : List Int}
    (h : (a = none ∧ len = 0 ∧ cap = 0 ∧ zs = []) ∨ ∃ x, a = some x ∧ len ≤ cap ∧ cap ≤ maxLen ∧ zs.length = cap ∧ (∀ i, i < zs.length → w.cell? (x.add i) = some (.int .i64 (zs.getD i 0))) ∧ ∀ n ∈ zs, (Lit.int .i64 n).wf = true) :
    Ints w (.slice a len cap) len := by
  rcases h with ⟨rfl, rfl, rfl, rfl⟩ | ⟨x, rfl, hl, hm, hz, hc, hw⟩
  · exact ⟨none, 0, rfl, fun h => by omega⟩
  · refine ⟨some x, cap, rfl, fun h0 => ?_⟩
    obtain ⟨b, off, rfl⟩ := addr_plain (hc 0 (by omega))
    refine ⟨b, off, rfl, World.block_lt_of_cell? w _ (hc 0 (by omega)), fun j hj => ⟨zs.getD j 0, ?_⟩⟩
    have := hc j (by omega)
    rwa [WideShapes.add_plain] at this

/-- The door's own heap meets the condition. -/
theorem door_met (os : Os) (args : Array Value) : laidMetH Tryd.prog [("bytes.ErrTooLarge", Rows.laid_bytes_ErrTooLarge)] ((World.doorLaid Tryd.prog 28 os).forCall (fun _ _ => 0) ⟨#[], args, []⟩).memory :=
  laidMetH_of_parts3 (fuel := 8) (laidMet_of_run' 8 (by kernel_rfl) (by kernel_rfl)) (by kernel_rfl) (by kernel_rfl)
end Go.Proofs.YtlkafakanoefmaaDoor
