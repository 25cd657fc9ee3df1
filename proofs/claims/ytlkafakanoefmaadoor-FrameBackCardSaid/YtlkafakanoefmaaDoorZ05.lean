/-
  The document's reader: Push.
-/
import Derived.Test.YtlkafakanoefmaaDoorZ04
import Derived.Test.YtlkafakanoefmaaDoorZ00
import Derived.BigQuiet
import Derived.Deep.Draws
import Derived.LaidEqlPtr
import Derived.Lib.BufferMore
import Derived.Deep.RegionHeld
namespace Go.Proofs.YtlkafakanoefmaaDoor
open Go.RowKit Go.Shelf
set_option linter.unusedVariables false
set_option linter.unusedSimpArgs false
set_option maxRecDepth 100000

/-- What is behind a place. -/
theorem from_sl {w : World} {lo hi n c p : Nat} {a : Option Addr} {l : List UInt8} (h : Sl w lo hi (.slice a n c) (iz l)) (hn : n = l.length) (hp : p ≤ n) :
    ∃ sa sn sc, (∀ wx, (Instr.slice 22 (.slice a n c) (some (.int .i64 p)) none none).run Tryd.prog wx = .ok (.slice sa sn sc) wx) ∧ ∀ w', Sl w' lo hi (.slice a n c) (iz l) → Sl w' lo hi (.slice sa sn sc) (iz (l.drop p)) := by
  subst hn
  have hc : l.length ≤ c := by
    obtain ⟨a', c', he, hc, _⟩ := h
    injection he with _ _ e3
    subst e3
    rwa [iz_len] at hc
  refine ⟨_, _, _, from_eq a hp hc, fun w' h' => ?_⟩
  have h2 : Sl w' lo hi (.slice a (iz l).length c) (iz l) := by rw [iz_len]; exact h'
  obtain ⟨sv, e1, e2⟩ := slice_cut h2 (p := p) (m := l.length - p) (by rw [iz_len]; omega)
  have e3 := e1 w'
  rw [iz_len, show (p : Int) + (l.length - p : Nat) = (l.length : Nat) by omega, run_slice_lh (P := Tryd.prog) w' 22 a l.length c Tryd.underlying22 .i64 .i64 p l.length (by omega) (by omega) (by omega), size5] at e3
  simp only [Result.andThen, Int.toNat_natCast] at e3
  injection e3 with e3
  show Sl w' lo hi (sliced a p l.length c 1) _
  rw [e3]
  rw [iz_cut] at e2
  have e4 : (l.drop p).take (l.length - p) = l.drop p := List.take_of_length_le (by rw [List.length_drop]; exact Nat.le_refl _)
  rwa [e4] at e2

/-- Push, by the document. -/
def PushPost (w : World) (r M : Nat) (l : List UInt8) (e : Ending) (w' : World) : Prop :=
  ∃ v us, e = .returned (.tuple #[v, .int .i64 (runF M l).2.2]) ∧ Told w' w.heap.size v us (runF M l).1 ∧ Rd w' r M w.heap.size (runF M l).2.1 (decide ((runF M l).2.2 ≠ 0)) ∧ Aside (fun j => j = r) w w'

theorem Told.aside {G : Nat → Prop} {W W' : World} {B : Nat} {v : Value} {us : List Value} {ls : List (List UInt8)} (h : Told W B v us ls) (ha : Aside G W W') (hG : ∀ b, B ≤ b → ¬ G b) : Told W' B v us ls :=
  ⟨OwnZ.aside h.row ha hG, h.len, fun j hj => (h.each j hj).aside ha fun b hb => hG b ((h.each j hj).lt b hb).1⟩

/-- The end of Push. -/
theorem push_fin {w W W' : World} {r M k : Nat} {L rest : List UInt8} {o sv : Value} {us : List Value} {ls : List (List UInt8)} {E : Int} {q : Bool} (hr : r < w.heap.size) (hT : Told W w.heap.size o us ls) (hrun : runF M L = (ls ++ (runF M (L.drop k)).1, (runF M (L.drop k)).2)) (hb : Below w.heap.size w W) (hX : runF M (L.drop k) = ([], rest, E))
    (ha : Aside (fun j => j = r) W W') (c0 : W'.cell? ⟨r, 0, none⟩ = some (.int .i64 M)) (c1 : W'.cell? ⟨r, 1, none⟩ = some sv) (c2 : W'.cell? ⟨r, 2, none⟩ = some (.bool q)) (hq : q = decide (E ≠ 0)) (c3 : ∀ j, W'.frozen? ⟨r, j, none⟩ = false) (hs : Sl W' w.heap.size W'.heap.size sv (iz rest)) :
    PushPost w r M L (.returned (.tuple #[o, .int .i64 E])) W' := by
  subst hq
  rw [hX, List.append_nil] at hrun
  refine ⟨o, us, by rw [hrun], ?_, ?_, (Aside.of_all hb).trans ha⟩
  · rw [hrun]
    exact hT.aside ha fun b hb e => by omega
  · rw [hrun]
    exact ⟨sv, c0, c1, c2, c3, hs⟩

set_option maxHeartbeats 1000000 in
theorem pushR_out {w : World} {r M B : Nat} {l : List UInt8} (h : Rd w r M B l true) (bv : Value) :
    Calls Tryd.prog 21 #[.pointer (some ⟨r, 0, none⟩), bv] w fun e w' => e = .returned (.tuple #[.slice none 0 0, .int .i64 9]) ∧ w' = w := by
  obtain ⟨v, c0, c1, c2, c3, hs⟩ := h
  go_enter Tryd.func21, Tryd.ntmps21
  go_wp2_with fail
  go_ret2
  exact ⟨rfl, rfl⟩

set_option maxHeartbeats 4000000 in
theorem pushR {w : World} {r M B0 : Nat} {l p : List UInt8} (h : Rd w r M B0 l false) {bv : Value} (hb : Sl w 0 w.heap.size bv (iz p)) (hl : l.length + p.length ≤ 900000) (hM : M ≤ 65535) :
    Calls Tryd.prog 21 #[.pointer (some ⟨r, 0, none⟩), bv] w (PushPost w r M (l ++ p)) := by
  have HR := Lib.hid h
  have hrlt := h.lt
  obtain ⟨v, c0, c1, c2, c3, hs⟩ := h
  have o1 : OwnB (w.alloc (.cells #[] 5)) w.heap.size (.slice (some ⟨w.heap.size, 0, none⟩) 0 0) [] :=
    .inr ⟨w.heap.size, 0, (0, 0), rfl, Nat.le_refl _, Nat.le_refl _, Nat.zero_le _, .inl rfl, heap_alloc_new w _⟩
  have b1 : Below w.heap.size w (w.alloc (.cells #[] 5)) := (Below.refl _ _).alloc (Nat.le_refl _) _
  obtain ⟨a1, c1', X2, r1, o2, g2⟩ := run_appBs w.heap.size _ v [] l o1 (hs.later b1) (by simp; omega) (by simp)
  simp only [List.length_nil, Nat.zero_add, List.nil_append] at r1 o2
  have b2 : Below w.heap.size w X2 := b1.trans (g2.below fun k hk => ⟨by simp; omega, fun e => by have e2 : w.heap.size = k := (by injection e); omega⟩)
  obtain ⟨a2, c2', X3, r2, o3, g3⟩ := run_appBs w.heap.size _ bv l p o2 (hb.later b2) (by omega) b2.size
  have b3 : Below w.heap.size w X3 := b2.trans (g3.below fun k hk => ⟨Nat.lt_of_lt_of_le hk b2.size, fun e => by have := (o2.lt k e).1; omega⟩)
  have hLl : l.length + p.length = (l ++ p).length := List.length_append.symm
  obtain ⟨L, hL⟩ : ∃ L, l ++ p = L := ⟨_, rfl⟩
  rw [hL] at o3 hLl ⊢
  rw [hLl] at r2 o3 hl
  have HO := Lib.hid o3
  have HB := Lib.hid b3
  have d0 := ((Aside.of_all (G := fun _ => False) b3).cell (p := ⟨r, 0, none⟩) hrlt fun h => h).trans c0
  have d1 := ((Aside.of_all (G := fun _ => False) b1).cell (p := ⟨r, 1, none⟩) hrlt fun h => h).trans c1
  clear o1 o2 o3 b1 b2 b3 g2 g3 hs hb hL hLl
  go_enter Tryd.func21, Tryd.ntmps21
  go_wp2_with (at_builtin; first | refine Lib.wpList_append_run _ rfl _ _ _ _ rfl _ _ rfl rfl _ _ r1 ?_ | refine Lib.wpList_append_run _ rfl _ _ _ _ rfl _ _ rfl rfl _ _ r2 ?_)
  have HW := Lib.hid (show r < w.heap.size ∧ w.cell? ⟨r, 0, none⟩ = some (.int .i64 M) ∧ w.cell? ⟨r, 1, none⟩ = some v ∧ w.cell? ⟨r, 2, none⟩ = some (.bool false) ∧ ∀ j, w.frozen? ⟨r, j, none⟩ = false from ⟨hrlt, c0, c1, c2, c3⟩)
  clear c0 c1 c2 d0 d1 r1 r2 hrlt c3
  go_loopw [7, 8] (fun o i wr => ∃ (us : List Value) (ls : List (List UInt8)) (k : Nat), k ≤ L.length ∧ i = .int .i64 k ∧ Hid (Told wr w.heap.size o us ls ∧ runF M L = (ls ++ (runF M (L.drop k)).1, (runF M (L.drop k)).2) ∧ Below w.heap.size w wr ∧ OwnB wr w.heap.size (.slice a2 L.length c2') L)) (fun o i _ => L.length - (intOf i).toNat)
  case atStart => exact ⟨[], [], 0, Nat.zero_le _, rfl, Lib.hid ⟨Told.nil _ _, by rw [List.drop_zero, List.nil_append], HB.out, HO.out⟩⟩
  case round =>
    obtain ⟨us, ls, k, hk, rfl, H⟩ := hrel
    have hA := Aside.of_all (G := fun _ => False) H.out.2.2.1
    have e0 := (hA.cell (p := ⟨r, 0, none⟩) HW.out.1 fun h => h).trans HW.out.2.1
    have e1 := (hA.cell (p := ⟨r, 1, none⟩) HW.out.1 fun h => h).trans HW.out.2.2.1
    have e2 := (hA.cell (p := ⟨r, 2, none⟩) HW.out.1 fun h => h).trans HW.out.2.2.2.1
    have e3 := fun j => (hA.frozen (p := ⟨r, j, none⟩) HW.out.1 fun h => h).trans (HW.out.2.2.2.2 j)
    have f1 := e3 1
    have f2 := e3 2
    have E0 := Lib.hid e0
    have E1 := Lib.hid e1
    have E2 := Lib.hid e2
    have E3 := Lib.hid e3
    have hsl := H.out.2.2.2.sl
    obtain ⟨sa, sn, sc, hfr, hfs⟩ := from_sl hsl rfl hk
    have FS := Lib.hid hfs
    clear hA e3 hsl hfs
    have fin0 : ∀ (n : Nat) (Wn : World), Wn = wr.drewN n → runF M (L.drop k) = ([], L.drop k, 0) → PushPost w r M L (.returned (.tuple #[u7, .int .i64 0])) (Wn.setCell ⟨r, 1, none⟩ (.slice sa sn sc)) := fun n Wn hWn hX => by
      subst hWn
      have ha : Aside (fun j => j = r) wr ((wr.drewN n).setCell ⟨r, 1, none⟩ (.slice sa sn sc)) := (Aside.drewN _ _).trans (Aside.setCell _ _ rfl)
      refine push_fin HW.out.1 H.out.1 H.out.2.1 H.out.2.2.1 hX ha ((World.cell?_setCell_other _ _ _ _ (by simp)).trans E0.out) (World.cell?_setCell_same _ _ _ E1.out) ((World.cell?_setCell_other _ _ _ _ (by simp)).trans E2.out) rfl (fun j => by rw [World.frozen?_setCell]; exact E3.out j) ?_
      have hk2 : OwnB ((wr.drewN n).setCell ⟨r, 1, none⟩ (.slice sa sn sc)) w.heap.size (.slice a2 L.length c2') L := H.out.2.2.2.aside ha fun b hb e => by have := (H.out.2.2.2.lt b hb).1; have := HW.out.1; omega
      have hz : ((wr.drewN n).setCell ⟨r, 1, none⟩ (.slice sa sn sc)).heap.size = wr.heap.size := by simp [World.setCell, World.drewN]
      exact (FS.out _ (hz ▸ hk2.sl)).wide (Nat.le_refl _) (Nat.le_of_eq hz.symm)
    by_cases h2 : L.length - k < 2
    · have t1 : ¬ (2 : Int) ≤ (L.length : Int) - k := by omega
      have HF := Lib.hid (fin0 0 _ rfl (runF_part M _ (by rw [List.length_drop]; exact h2)))
      clear fin0
      go_wp2_with fail
      go_ret2
      exact HF.out
    · have hDl : (L.drop k).length = L.length - k := List.length_drop
      obtain ⟨g, cg, hv, hg⟩ := H.out.2.2.2.some_ (by omega)
      injection hv with hv1 _ hv3
      subst hv1; subst hv3
      have dx := H.out.2.2.2.cells hg k (by omega)
      have dy := H.out.2.2.2.cells hg (k + 1) (by omega)
      obtain ⟨x, hx⟩ : ∃ x : Nat, (L.getD k 0).toNat = x := ⟨_, rfl⟩
      obtain ⟨y, hy⟩ : ∃ y : Nat, (L.getD (k + 1) 0).toNat = y := ⟨_, rfl⟩
      have hx1 : x < 256 := by rw [← hx]; exact (L.getD k 0).toNat_lt
      have hy1 : y < 256 := by rw [← hy]; exact (L.getD (k + 1) 0).toNat_lt
      have hn : hd2 (L.drop k) = 256 * x + y := by
        unfold hd2
        rw [← hx, ← hy, List.getD, List.getD, List.getD, List.getD, List.getElem?_drop, List.getElem?_drop, Nat.add_zero]
      rw [hx] at dx
      rw [hy] at dy
      have t1 : (2 : Int) ≤ (L.length : Int) - k := by omega
      have finE : ∀ (E : Int), E ≠ 0 → runF M (L.drop k) = ([], [], E) → PushPost w r M L (.returned (.tuple #[u7, .int .i64 E])) ((wr.drew.setCell ⟨r, 2, none⟩ (.bool true)).setCell ⟨r, 1, none⟩ (.slice none 0 0)) := fun E hE hX => by
        have ha : Aside (fun j => j = r) wr ((wr.drew.setCell ⟨r, 2, none⟩ (.bool true)).setCell ⟨r, 1, none⟩ (.slice none 0 0)) := ((Aside.of_all (Below.refl _ wr).drew).trans (Aside.setCell (G := fun j => j = r) _ _ rfl)).trans (Aside.setCell _ _ rfl)
        refine push_fin (q := true) HW.out.1 H.out.1 H.out.2.1 H.out.2.2.1 hX ha ((World.cell?_setCell_other _ _ _ _ (by simp)).trans ((World.cell?_setCell_other _ _ _ _ (by simp)).trans E0.out)) (World.cell?_setCell_same _ _ _ ((World.cell?_setCell_other _ _ _ _ (by simp)).trans E1.out)) ((World.cell?_setCell_other _ _ _ _ (by simp)).trans (World.cell?_setCell_same _ _ _ E2.out)) (by simp [hE]) (fun j => by rw [World.frozen?_setCell, World.frozen?_setCell]; exact E3.out j) ?_
        exact ⟨none, 0, rfl, Nat.le_refl _, fun _ => rfl, fun h => by simp at h⟩
      clear hx hy
      by_cases hlow : 256 * x + y < 12
      · have t2 : (256 : Int) * x + y < 12 := by omega
        have HF := Lib.hid (finE 4 (by decide) (runF_low M _ (by omega) (by omega)))
        clear fin0 finE hn hDl
        go_wp2_with fail
        go_region
        go_wp2_with fail
        go_ret2
        exact HF.out
      · have t2 : ¬ (256 : Int) * x + y < 12 := by omega
        by_cases hhigh : M < 256 * x + y
        · have t3 : (M : Int) < (256 : Int) * x + y := by omega
          have HF := Lib.hid (finE 3 (by decide) (runF_high M _ (by omega) (by omega) (by omega)))
          clear fin0 finE hn hDl
          go_wp2_with fail
          go_region
          go_wp2_with fail
          go_ret2
          exact HF.out
        · have t3 : ¬ (M : Int) < (256 : Int) * x + y := by omega
          by_cases hwait : L.length - k - 2 < 256 * x + y
          · have t4 : (L.length : Int) - k - 2 < (256 : Int) * x + y := by omega
            have HF := Lib.hid (fin0 1 wr.drew rfl (runF_wait M _ (by omega) (by omega) (by omega) (by omega)))
            clear fin0 finE hn hDl
            go_wp2_with fail
            go_region
            go_wp2_with fail
            go_ret2
            exact HF.out
          · have t4 : ¬ (L.length : Int) - k - 2 < (256 : Int) * x + y := by omega
            have hs0 : Sl wr w.heap.size wr.heap.size (.slice (some ⟨g, 0, none⟩) (iz L).length c2') (iz L) := by rw [iz_len]; exact H.out.2.2.2.sl
            obtain ⟨sv, hcut0, hcs⟩ := slice_cut hs0 (p := k + 2) (m := 256 * x + y) (by rw [iz_len]; omega)
            rw [iz_cut] at hcs
            have hcut : ∀ wx, (Instr.slice 22 (.slice (some ⟨g, 0, none⟩) L.length c2') (some (.int .i64 ((k : Int) + 2))) (some (.int .i64 ((k : Int) + 2 + ((256 : Int) * x + y)))) none).run Tryd.prog wx = .ok sv wx := fun wx => by
              have := hcut0 wx
              rw [iz_len] at this
              push_cast at this
              exact this
            obtain ⟨m, hm⟩ : ∃ m, (L.drop (k + 2)).take (256 * x + y) = m := ⟨_, rfl⟩
            rw [hm] at hcs
            have hml : m.length = 256 * x + y := by rw [← hm, List.length_take, List.length_drop]; omega
            have hmore := runF_more M (L.drop k) (by omega) (by omega) (by omega) (by omega)
            rw [hn, List.drop_drop, List.drop_drop, hm] at hmore
            have hul : 14 * ls.length ≤ L.length := by
              have h1 := (runF_len M L).1
              rw [H.out.2.1, List.length_append] at h1
              omega
            have hus := H.out.1.len
            obtain ⟨a3, c3, X5, a4, c4, X6, r3, r4, hT, hb6, hkeep⟩ := told_one (W := wr.drew) (H.out.1.below (Below.refl _ _).drew) (hcs.later (Below.refl _ _).drew) (show w.heap.size ≤ wr.drew.heap.size from H.out.2.2.1.size) (by omega) (by omega)
            have HF := Lib.hid (show Told X6 w.heap.size (.slice a4 (us.length + 1) c4) (us ++ [.slice a3 m.length c3]) (ls ++ [m]) ∧ runF M L = ((ls ++ [m]) ++ (runF M (L.drop (k + 2 + (256 * x + y)))).1, (runF M (L.drop (k + 2 + (256 * x + y)))).2) ∧ Below w.heap.size w X6 ∧ OwnB X6 w.heap.size (.slice (some ⟨g, 0, none⟩) L.length c2') L from
              ⟨hT, by rw [H.out.2.1, hmore, List.append_assoc, Nat.add_assoc]; rfl, (H.out.2.2.1.drew).trans hb6, hkeep _ _ _ (H.out.2.2.2.below (Below.refl _ _).drew)⟩)
            have R3 := Lib.hid r3
            clear r3
            clear fin0 finE hn hDl hcut0 hcs hs0 hm hmore hT hb6 hkeep hul hus hml
            go_wp2_with fail
            go_region
            have r3 := R3.out
            obtain ⟨WD, hWD⟩ : ∃ W, wr.drew = W := ⟨_, rfl⟩
            have e0d : wr.drew.cell? ⟨r, 0, none⟩ = some (.int .i64 M) := E0.out
            rw [hWD] at r3 e0d ⊢
            clear hWD R3
            go_wp2_with (at_builtin; first | refine Lib.wpList_append_run _ rfl _ _ _ _ rfl _ _ rfl rfl _ _ r3 ?_ | refine Lib.wpList_append_run _ rfl _ _ _ _ rfl _ _ rfl rfl _ _ r4 ?_)
            refine ⟨⟨us ++ [.slice a3 m.length c3], ls ++ [m], k + 2 + (256 * x + y), by omega, by go_num, HF⟩, ?_⟩
            simp [intOf]; omega
end Go.Proofs.YtlkafakanoefmaaDoor

/-
  The document's Put.
-/
namespace Go.Proofs.YtlkafakanoefmaaDoor
open Go.RowKit Go.Shelf
set_option linter.unusedVariables false
set_option linter.unusedSimpArgs false
set_option maxRecDepth 100000

set_option maxHeartbeats 1000000 in
theorem putR_low {w : World} {lo hi : Nat} {bv : Value} {l : List UInt8} (h : Sl w lo hi bv (iz l)) (h1 : l.length < 12) :
    Calls Tryd.prog 12 #[bv] w fun e w' => e = .returned (.tuple #[.slice none 0 0, .int .i64 4]) ∧ w' = w := by
  obtain ⟨a, c, rfl, _⟩ := h
  rw [iz_len]
  have t1 : (l.length : Int) < 12 := by omega
  go_enter Tryd.func12, Tryd.ntmps12
  go_wp2_with fail
  go_ret2
  exact ⟨rfl, rfl⟩

set_option maxHeartbeats 1000000 in
theorem putR_high {w : World} {lo hi : Nat} {bv : Value} {l : List UInt8} (h : Sl w lo hi bv (iz l)) (h1 : 65535 < l.length) :
    Calls Tryd.prog 12 #[bv] w fun e w' => e = .returned (.tuple #[.slice none 0 0, .int .i64 3]) ∧ w' = w := by
  obtain ⟨a, c, rfl, _⟩ := h
  rw [iz_len]
  have t1 : ¬ (l.length : Int) < 12 := by omega
  have t2 : (65535 : Int) < l.length := by omega
  go_enter Tryd.func12, Tryd.ntmps12
  go_wp2_with fail
  go_ret2
  exact ⟨rfl, rfl⟩

set_option maxHeartbeats 1000000 in
theorem putR_ok {w : World} {lo hi : Nat} {bv : Value} {l : List UInt8} (h : Sl w lo hi bv (iz l)) (h1 : 12 ≤ l.length) (h2 : l.length ≤ 65535) :
    Calls Tryd.prog 12 #[bv] w fun e w' => ∃ v, e = .returned (.tuple #[v, .int .i64 0]) ∧ OwnB w' w.heap.size v (frmF l) ∧ Below w.heap.size w w' := by
  have HS := Lib.hid h
  obtain ⟨a, c, rfl, _⟩ := h
  rw [iz_len] at HS ⊢
  have t1 : ¬ (l.length : Int) < 12 := by omega
  have t2 : ¬ (65535 : Int) < l.length := by omega
  have hx : (UInt8.ofNat (l.length / 256)).toNat = l.length / 256 := by rw [UInt8.toNat_ofNat']; omega
  have hy : (UInt8.ofNat (l.length % 256)).toNat = l.length % 256 := by rw [UInt8.toNat_ofNat']; omega
  have hrow : (rowB [UInt8.ofNat (l.length / 256), UInt8.ofNat (l.length % 256)] 2).toArray = #[Value.int .u8 ((l.length : Int) / 256), Value.int .u8 ((l.length : Int) % 256)] := by
    unfold rowB ub
    simp only [List.map_cons, List.map_nil, List.length_cons, List.length_nil, Nat.zero_add, Nat.reduceAdd, Nat.sub_self, List.replicate_zero, List.append_nil, hx, hy]
    push_cast
    rfl
  have o1 : OwnB (w.alloc (.cells #[Value.int .u8 ((l.length : Int) / 256), Value.int .u8 ((l.length : Int) % 256)] 5)) w.heap.size (.slice (some ⟨w.heap.size, 0, none⟩) 2 2) [UInt8.ofNat (l.length / 256), UInt8.ofNat (l.length % 256)] :=
    .inr ⟨w.heap.size, 2, (0, 0), rfl, Nat.le_refl _, Nat.le_refl _, by unfold maxLen; omega, .inl rfl, by rw [hrow]; exact heap_alloc_new w _⟩
  have b1 : Below w.heap.size w (w.alloc (.cells #[Value.int .u8 ((l.length : Int) / 256), Value.int .u8 ((l.length : Int) % 256)] 5)) := (Below.refl _ _).alloc (Nat.le_refl _) _
  obtain ⟨a1, c1, X2, r1, o2, g2⟩ := run_appBs w.heap.size _ _ _ l o1 (HS.out.later b1) (by simp; omega) (by simp)
  have b2 : Below w.heap.size w X2 := b1.trans (g2.below fun k hk => ⟨by simp; omega, fun e => by have e2 : w.heap.size = k := (by injection e); omega⟩)
  have HF := Lib.hid (And.intro (show OwnB X2 w.heap.size _ (frmF l) from o2) b2)
  clear o1 o2 b1 b2 g2 hrow hx hy
  go_enter Tryd.func12, Tryd.ntmps12
  go_wp2_with (at_builtin; refine Lib.wpList_append_run _ rfl _ _ _ _ rfl _ _ rfl rfl _ _ r1 ?_)
  go_ret2
  exact ⟨_, rfl, HF.out⟩
end Go.Proofs.YtlkafakanoefmaaDoor

/-
  The law's Long.
-/
namespace Go.Proofs.YtlkafakanoefmaaDoor
open Go.RowKit Go.Shelf
set_option linter.unusedVariables false
set_option linter.unusedSimpArgs false
set_option maxRecDepth 100000

/-- Are pieces more than are gone through? -/
def longF (l : List (List UInt8)) : Bool := decide (60 < l.length) || decide (70000 < l.flatten.length)

theorem flat_take (l : List (List UInt8)) (k : Nat) (hk : k < l.length) : (l.take (k + 1)).flatten.length = (l.take k).flatten.length + (l.getD k []).length := by
  rw [List.take_add_one, List.getElem?_eq_getElem hk, List.flatten_append, List.length_append, List.getD, List.getElem?_eq_getElem hk]
  simp

theorem flat_le (l : List (List UInt8)) (k : Nat) : (l.take k).flatten.length ≤ l.flatten.length := by
  have e : l.flatten.length = (l.take k).flatten.length + (l.drop k).flatten.length := by
    rw [← List.length_append, ← List.flatten_append, List.take_append_drop]
  omega

set_option maxHeartbeats 2000000 in
theorem long12_any {w : World} {v : Value} {l : List (List UInt8)} (h : Bl w v l) (hl : l.length ≤ 140737488355328) (he : ∀ j, j < l.length → (l.getD j []).length ≤ 140737488355328) :
    Calls Tryd.prog 16 #[v] w fun e w' => e = .returned (.bool (longF l)) ∧ w' = w := by
  obtain ⟨a, c, rfl, _, hp⟩ := h
  have HP := Lib.hid hp
  have HE := Lib.hid he
  clear hp he
  go_enter Tryd.func16, Tryd.ntmps16
  go_wp2_with fail
  go_loopw [3, 4] (fun n i wr => ∃ k s : Nat, k ≤ l.length ∧ i = .int .i64 k ∧ n = .int .i64 s ∧ Hid (s = (l.take k).flatten.length) ∧ s ≤ 140737488425328 ∧ wr = w) (fun n i _ => l.length - (intOf i).toNat)
  case atStart => exact ⟨0, 0, by omega, rfl, rfl, Lib.hid (by simp), by omega, rfl⟩
  case round =>
    obtain ⟨k, s, hk, rfl, rfl, HS, hs, rfl⟩ := hrel
    have hfin : ∀ (q : Bool), q = longF l → q = longF l := fun _ h => h
    by_cases hlt : k < l.length
    · have t1 : (k : Int) < l.length := by omega
      by_cases hbig : 70000 < s
      · have t2 : ¬ (s : Int) ≤ 70000 := by omega
        have t3 : (70000 : Int) < s := by omega
        have hL : longF l = true := by
          have h1 := HS.out
          have h2 := flat_le l k
          unfold longF
          rw [decide_eq_true (show 70000 < l.flatten.length by omega), Bool.or_true]
        have HL := Lib.hid hL
        clear hfin hL
        by_cases t4 : (60 : Int) < l.length
        · go_wp2_with fail
          go_ret
          exact ⟨by rw [HL.out]; rfl, rfl⟩
        · go_wp2_with fail
          go_ret
          exact ⟨by rw [HL.out]; rfl, rfl⟩
      · have t2 : (s : Int) ≤ 70000 := by omega
        obtain ⟨b, o, rfl, _, hc⟩ := HP.out (by omega)
        obtain ⟨u, c1, c2⟩ := hc k hlt
        obtain ⟨ua, uc, rfl, _⟩ := c2
        rw [iz_len] at c1
        have hb := HE.out k hlt
        have ht := Lib.hid ((flat_take l k hlt).trans (by rw [← HS.out]))
        obtain ⟨z, hz⟩ : ∃ z, (l.getD k []).length = z := ⟨_, rfl⟩
        rw [hz] at c1 hb ht
        clear hc hfin hz
        go_wp2_with fail
        refine ⟨⟨k + 1, s + z, by omega, by go_num, by go_num, Lib.hid ht.out.symm, by omega, trivial⟩, ?_⟩
        simp [intOf]; omega
    · have t1 : ¬ (k : Int) < l.length := by omega
      have hL : longF l = (decide (60 < l.length) || decide (70000 < s)) := by
        have h1 := HS.out
        rw [List.take_of_length_le (by omega)] at h1
        unfold longF
        rw [h1]
      have HL := Lib.hid hL
      clear hfin hL
      by_cases t4 : (60 : Int) < l.length
      · have e1 : decide (60 < l.length) = true := decide_eq_true (by omega)
        rw [e1] at HL
        go_wp2_with fail
        go_ret
        exact ⟨by rw [HL.out]; rfl, rfl⟩
      · have e1 : decide (60 < l.length) = false := decide_eq_false (by omega)
        rw [e1] at HL
        by_cases t5 : (70000 : Int) < s
        · have e2 : decide (70000 < s) = true := decide_eq_true (by omega)
          rw [e2] at HL
          go_wp2_with fail
          go_ret
          exact ⟨by rw [HL.out]; rfl, rfl⟩
        · have e2 : decide (70000 < s) = false := decide_eq_false (by omega)
          rw [e2] at HL
          go_wp2_with fail
          go_ret
          exact ⟨by rw [HL.out]; rfl, rfl⟩
end Go.Proofs.YtlkafakanoefmaaDoor

/-
  The law's twelve bytes.
-/
namespace Go.Proofs.YtlkafakanoefmaaDoor
open Go.RowKit Go.Shelf
set_option linter.unusedVariables false
set_option linter.unusedSimpArgs false
set_option maxRecDepth 100000

def tw12 : List UInt8 := [1, 2, 3, 4, 5, 6, 7, 8, 9, 10, 11, 12]

set_option maxHeartbeats 1000000 in
theorem twelve_any (w : World) : Calls Tryd.prog 27 #[] w fun e w' => ∃ v, e = .returned v ∧ OwnB w' w.heap.size v tw12 ∧ Below w.heap.size w w' := by
  have o1 : OwnB (w.alloc (.cells #[Value.int .u8 1, Value.int .u8 2, Value.int .u8 3, Value.int .u8 4, Value.int .u8 5, Value.int .u8 6, Value.int .u8 7, Value.int .u8 8, Value.int .u8 9, Value.int .u8 10, Value.int .u8 11, Value.int .u8 12] 5)) w.heap.size (.slice (some ⟨w.heap.size, 0, none⟩) 12 12) tw12 :=
    .inr ⟨w.heap.size, 12, (0, 0), rfl, Nat.le_refl _, Nat.le_refl _, by unfold maxLen; omega, .inl rfl, heap_alloc_new w _⟩
  have HO := Lib.hid o1
  clear o1
  go_enter Tryd.func27, Tryd.ntmps27
  go_wp2_with fail
  go_ret
  exact ⟨_, rfl, HO.out, (Below.refl _ _).alloc (Nat.le_refl _) _⟩
end Go.Proofs.YtlkafakanoefmaaDoor

/-
  The law's cut.
-/
namespace Go.Proofs.YtlkafakanoefmaaDoor
open Go.RowKit Go.Shelf
set_option linter.unusedVariables false
set_option linter.unusedSimpArgs false
set_option maxRecDepth 100000

/-- A slice of n numbers. -/
def Ints (w : World) (v : Value) (n : Nat) : Prop := ∃ a c, v = .slice a n c ∧ (0 < n → ∃ b off, a = some ⟨b, off, none⟩ ∧ b < w.heap.size ∧ ∀ j, j < n → ∃ x : Int, w.cell? ⟨b, off + j, none⟩ = some (.int .i64 x))

/-- Pieces of older bytes, in a row of the call's own. -/
structure Cut (w W : World) (v : Value) (us : List Value) (ls : List (List UInt8)) : Prop where
  row : OwnS W w.heap.size v us
  len : us.length = ls.length
  each : ∀ j, j < ls.length → Sl w 0 w.heap.size (us.getD j (.slice none 0 0)) (iz (ls.getD j []))

theorem Cut.nil (w W : World) : Cut w W (.slice none 0 0) [] [] := ⟨.inl ⟨rfl, rfl⟩, rfl, fun j h => by simp at h⟩

theorem Cut.bl {w W : World} {v : Value} {us : List Value} {ls : List (List UInt8)} (h : Cut w W v us ls) (hb : Below w.heap.size w W) : Bl W v ls :=
  h.row.bl h.len fun j hj => sl_up (h.each j hj) hb

/-- One more piece. -/
theorem cut_one {w W : World} {v : Value} {us : List Value} {ls : List (List UInt8)} {m : List UInt8} {sa : Option Addr} {sn sc : Nat} (h : Cut w W v us ls) (hb : Below w.heap.size w W) (hm : Sl w 0 w.heap.size (.slice sa sn sc) (iz m)) (hul : us.length + 1 ≤ 1000000) :
    ∃ a2 c2 X4, (Builtin.append_ #[31, 31] 31 #[v, .slice (some ⟨W.heap.size, 0, none⟩) 1 1]).run Tryd.prog (W.alloc (.cells #[.slice sa sn sc] 22)) = .ok (.slice a2 (us.length + 1) c2) X4 ∧
      Cut w X4 (.slice a2 (us.length + 1) c2) (us ++ [.slice sa sn sc]) (ls ++ [m]) ∧ Below w.heap.size w X4 := by
  have b3 : Below W.heap.size W (W.alloc (.cells #[.slice sa sn sc] 22)) := (Below.refl _ _).alloc (Nat.le_refl _) _
  have s3 : OwnS (W.alloc (.cells #[.slice sa sn sc] 22)) w.heap.size v us := h.row.below b3
  have b23 := hb.trans (b3.mono hb.size)
  obtain ⟨a2, c2, X4, r2, s4, g4⟩ := run_appS1 w.heap.size v (.slice sa sn sc) us W.heap.size s3 (by simp [go_sem]) rfl hul b23.size
  refine ⟨a2, c2, X4, r2, ⟨s4, by rw [List.length_append, List.length_append, h.len]; rfl, fun j hj => ?_⟩, b23.trans ((aside_grown g4).below fun k hk => ⟨Nat.lt_of_lt_of_le hk b23.size, fun e => by have := OwnZ.lt s3 k e; omega⟩)⟩
  by_cases hj2 : j < ls.length
  · have e1 : (us ++ [Value.slice sa sn sc]).getD j (.slice none 0 0) = us.getD j (.slice none 0 0) := by
      rw [List.getD, List.getElem?_append_left (by rw [h.len]; exact hj2)]; rfl
    have e2 : (ls ++ [m]).getD j [] = ls.getD j [] := by
      rw [List.getD, List.getElem?_append_left hj2]; rfl
    rw [e1, e2]
    exact h.each j hj2
  · rw [List.length_append] at hj
    have hj3 : j = ls.length := by simp at hj; omega
    subst hj3
    have e1 : (us ++ [Value.slice sa sn sc]).getD ls.length (.slice none 0 0) = .slice sa sn sc := by
      rw [← h.len, List.getD]; simp
    have e2 : (ls ++ [m]).getD ls.length [] = m := by rw [List.getD]; simp
    rw [e1, e2]
    exact hm

/-- What is ahead of a place. -/
theorem upto_sl {w : World} {lo hi n c p : Nat} {a : Option Addr} {l : List UInt8} (h : Sl w lo hi (.slice a n c) (iz l)) (hn : n = l.length) (hp : p ≤ n) :
    ∃ sa sn sc, (∀ wx, (Instr.slice 22 (.slice a n c) none (some (.int .i64 p)) none).run Tryd.prog wx = .ok (.slice sa sn sc) wx) ∧ Sl w lo hi (.slice sa sn sc) (iz (l.take p)) := by
  subst hn
  have hc : l.length ≤ c := by
    obtain ⟨a', c', he, hc, _⟩ := h
    injection he with _ _ e3
    subst e3
    rwa [iz_len] at hc
  have h2 : Sl w lo hi (.slice a (iz l).length c) (iz l) := by rw [iz_len]; exact h
  obtain ⟨sv, e1, e2⟩ := slice_cut h2 (p := 0) (m := p) (by rw [iz_len]; omega)
  have e3 := e1 w
  rw [iz_len, show ((0 : Nat) : Int) + (p : Nat) = (p : Nat) by omega, run_slice_lh (P := Tryd.prog) w 22 a l.length c Tryd.underlying22 .i64 .i64 (0 : Nat) p (by omega) (by omega) (by omega), size5] at e3
  simp only [Result.andThen, Int.toNat_natCast] at e3
  injection e3 with e3
  rw [iz_cut, List.drop_zero] at e2
  refine ⟨_, _, _, fun wx => ?_, show Sl w lo hi (sliced a 0 p c 1) _ by rw [e3]; exact e2⟩
  rw [run_slice_h (P := Tryd.prog) wx 22 a l.length c Tryd.underlying22 .i64 p (by omega) (by omega), size5]
  simp only [Result.andThen, Int.toNat_natCast]
  rfl
end Go.Proofs.YtlkafakanoefmaaDoor

/-
  Pick: a number from 0 on, below n.
-/
namespace Go.Proofs.YtlkafakanoefmaaDoor
open Go.RowKit
set_option linter.unusedVariables false
set_option maxRecDepth 100000

set_option maxHeartbeats 400000 in
theorem pick_any (x n : Int) (w : World) (h1 : 1 ≤ n) (h2 : n ≤ 100000) : Calls Tryd.prog 35 #[.int .i64 x, .int .i64 n] w fun e w' => ∃ k : Nat, k < n ∧ e = .returned (.int .i64 k) ∧ w = w' := by
  go_enter Tryd.func35, Tryd.ntmps35
  go_wp2
  · go_ret
    refine ⟨(wrap64 (x.tmod n + n)).toNat, ?_, ?_, rfl⟩
    all_goals
      have h3 : -n < x.tmod n := by
        have := Int.tmod_lt_of_pos (-x) (b := n) (by omega)
        rw [Int.neg_tmod] at this
        omega
      have e : wrap64 (x.tmod n + n) = x.tmod n + n := IntWalk.wrap64_in _ ⟨by omega, by omega⟩
      rw [e]
    · omega
    · rw [Int.toNat_of_nonneg (by omega)]; rfl
  · go_ret
    have := Int.tmod_lt_of_pos x (b := n) (by omega)
    refine ⟨(x.tmod n).toNat, by omega, ?_, rfl⟩
    rw [Int.toNat_of_nonneg (by omega)]; rfl
end Go.Proofs.YtlkafakanoefmaaDoor

/-
  The law's cut: the walk.
-/
namespace Go.Proofs.YtlkafakanoefmaaDoor
open Go.RowKit Go.Shelf
set_option linter.unusedVariables false
set_option linter.unusedSimpArgs false
set_option maxRecDepth 100000

set_option maxHeartbeats 4000000 in
theorem cut_any {w : World} {bv cv : Value} {b : List UInt8} {n : Nat} (h : Sl w 0 w.heap.size bv (iz b)) (hc : Ints w cv n) (hbl : b.length ≤ 20000) (hn : n ≤ 60) :
    Calls Tryd.prog 29 #[bv, cv] w fun e w' => ∃ v ls, e = .returned v ∧ Bl w' v ls ∧ ls.flatten = b ∧ ls.length ≤ 61 ∧ Below w.heap.size w w' := by
  have HS := Lib.hid h
  obtain ⟨ca, cc, rfl, hci⟩ := hc
  have HI := Lib.hid hci
  clear hci h
  go_enter Tryd.func29, Tryd.ntmps29
  go_wp2_with fail
  go_loopw [0, 5, 6] (fun x o i wr => ∃ (us : List Value) (ls : List (List UInt8)) (r : List UInt8) (xa : Option Addr) (xc k : Nat), k ≤ n ∧ i = .int .i64 k ∧ x = .slice xa r.length xc ∧ Hid (Sl w 0 w.heap.size (.slice xa r.length xc) (iz r) ∧ Cut w wr o us ls ∧ ls.flatten ++ r = b ∧ ls.length = k ∧ Below w.heap.size w wr)) (fun x o i _ => n - (intOf i).toNat)
  case atStart =>
    obtain ⟨xa, xc, hx, _⟩ := id HS.out
    rw [iz_len] at hx
    subst hx
    exact ⟨[], [], b, xa, xc, 0, Nat.zero_le _, rfl, rfl, Lib.hid ⟨HS.out, Cut.nil _ _, rfl, rfl, Below.refl _ _⟩⟩
  case round =>
    obtain ⟨us, ls, r, xa, xc, k, hk, rfl, rfl, H⟩ := hrel
    have hrl : r.length ≤ 20000 := by have := congrArg List.length H.out.2.2.1; rw [List.length_append] at this; omega
    have hul : us.length + 1 ≤ 1000000 := by have := H.out.2.1.len; have := H.out.2.2.2.1; omega
    by_cases hgo : k < n ∧ 0 < r.length
    · obtain ⟨t1, t2⟩ := hgo
      obtain ⟨ib, io, rfl, hlt, hi⟩ := HI.out (by omega)
      obtain ⟨z, hz⟩ := hi k t1
      have e1 := ((Aside.of_all (G := fun _ => False) H.out.2.2.2.2).cell (p := ⟨ib, io + k, none⟩) hlt fun h => h).trans hz
      have HP := Lib.hid (pick_any z ((r.length : Int) + 1) wr (by omega) (by omega))
      clear hi hz
      go_wp2_with fail
      refine HP.out.mono ?_; rintro e w1 ⟨p, hp, rfl, rfl⟩
      obtain ⟨ya, yn, yc, hy, hys⟩ := upto_sl H.out.1 rfl (show p ≤ r.length by omega)
      obtain ⟨za, zn, zc, hzr, hzs⟩ := from_sl H.out.1 rfl (show p ≤ r.length by omega)
      have hzs2 := hzs w H.out.1
      obtain ⟨a2, c2, X4, r4, hC, hb4⟩ := cut_one H.out.2.1 H.out.2.2.2.2 hys hul
      have hzn : zn = (r.drop p).length := by
        obtain ⟨_, _, he, _⟩ := hzs2
        injection he with _ he _
        rw [he, iz_len]
      subst hzn
      have HF := Lib.hid (show Sl w 0 w.heap.size (.slice za (r.drop p).length zc) (iz (r.drop p)) ∧ Cut w X4 (.slice a2 (us.length + 1) c2) (us ++ [.slice ya yn yc]) (ls ++ [r.take p]) ∧ (ls ++ [r.take p]).flatten ++ r.drop p = b ∧ (ls ++ [r.take p]).length = k + 1 ∧ Below w.heap.size w X4 from
        ⟨hzs2, hC, by rw [List.flatten_append, List.append_assoc]; simpa using H.out.2.2.1, by rw [List.length_append, H.out.2.2.2.1]; rfl, hb4⟩)
      clear hys hzs hzs2 hC hb4
      go_wp2_with (at_builtin; refine Lib.wpList_append_run _ rfl _ _ _ _ rfl _ _ rfl rfl _ _ r4 ?_)
      refine ⟨⟨_, _, r.drop p, za, zc, k + 1, by omega, by go_num, by rw [List.length_drop], HF⟩, ?_⟩
      simp [intOf]; omega
    · obtain ⟨a2, c2, X4, r4, hC, hb4⟩ := cut_one H.out.2.1 H.out.2.2.2.2 H.out.1 hul
      have HF := Lib.hid (show ∃ ls', Bl X4 (.slice a2 (us.length + 1) c2) ls' ∧ ls'.flatten = b ∧ ls'.length ≤ 61 ∧ Below w.heap.size w X4 from
        ⟨ls ++ [r], hC.bl hb4, by rw [List.flatten_append]; simpa using H.out.2.2.1, by rw [List.length_append, H.out.2.2.2.1]; simp; omega, hb4⟩)
      clear hC hb4
      by_cases t1 : k < n
      · have t2 : ¬ 0 < r.length := fun e => hgo ⟨t1, e⟩
        clear hgo
        go_wp2_with (at_builtin; refine Lib.wpList_append_run _ rfl _ _ _ _ rfl _ _ rfl rfl _ _ r4 ?_)
        go_ret
        obtain ⟨ls', g1, g2, g3, g4⟩ := HF.out
        exact ⟨_, ls', rfl, g1, g2, g3, g4⟩
      · clear hgo
        go_wp2_with (at_builtin; refine Lib.wpList_append_run _ rfl _ _ _ _ rfl _ _ rfl rfl _ _ r4 ?_)
        go_ret
        obtain ⟨ls', g1, g2, g3, g4⟩ := HF.out
        exact ⟨_, ls', rfl, g1, g2, g3, g4⟩
end Go.Proofs.YtlkafakanoefmaaDoor

/-
  The landed reader: its cells; fits, made, length, Want, Left, Broken, New.
-/
namespace Go.Proofs.YtlkafakanoefmaaDoor
open Go.RowKit Go.Shelf
set_option linter.unusedVariables false
set_option linter.unusedSimpArgs false
set_option maxRecDepth 100000
variable {cs : Nat → Option Value}

/-- Why a message of so many bytes may not be. -/
def fitsF (n m : Int) : Int := if n < 12 then 4 else if m < n then 3 else 0

set_option maxHeartbeats 1000000 in
theorem fits_any (w : World) (n m : Int) : Calls Tryd.prog 30 #[.int .i64 n, .int .i64 m] w fun e w' => e = .returned (.int .i64 (fitsF n m)) ∧ w' = w := by
  by_cases t1 : n < 12
  · have e : fitsF n m = 4 := if_pos t1
    rw [e]
    clear e
    go_enter Tryd.func30, Tryd.ntmps30
    go_wp2
    go_ret
    exact ⟨rfl, rfl⟩
  · by_cases t2 : m < n
    · have e : fitsF n m = 3 := by unfold fitsF; rw [if_neg t1, if_pos t2]
      rw [e]
      clear e
      go_enter Tryd.func30, Tryd.ntmps30
      go_wp2
      go_ret
      exact ⟨rfl, rfl⟩
    · have e : fitsF n m = 0 := by unfold fitsF; rw [if_neg t1, if_neg t2]
      rw [e]
      clear e
      go_enter Tryd.func30, Tryd.ntmps30
      go_wp2
      go_ret
      exact ⟨rfl, rfl⟩

/-- The reader in block r, whose buffer's row is o: its most, what it keeps, whether it is broken; at most t bytes have been written. -/
def Rr (w : World) (o : Option Nat) (r t M : Nat) (l : List UInt8) (out : Bool) : Prop :=
  ∃ cs : Nat → Option Value, cs 0 = some (.pointer (some ⟨r, 0, none⟩)) ∧ cs 1 = some (.int .i64 M) ∧ cs 5 = some (.bool out) ∧ Bf cs w o r 2 t l

theorem Bf.at {w : World} {o : Option Nat} {b q t : Nat} {l : List UInt8} (h : Bf cs w o b q t l) (j : Nat) (hj : j < q ∨ q + 2 < j) : w.cell? ⟨b, j, none⟩ = cs j := by
  obtain ⟨a, n, c, off, lr, zs, h1, _⟩ := h
  exact (h1.2.2.2 j).2 hj
theorem Bf.froz {w : World} {o : Option Nat} {b q t : Nat} {l : List UInt8} (h : Bf cs w o b q t l) (j : Nat) : w.frozen? ⟨b, j, none⟩ = false := by
  obtain ⟨a, n, c, off, lr, zs, h1, _⟩ := h
  exact (h1.2.2.2 j).1
theorem Bf.lt {w : World} {o : Option Nat} {b q t : Nat} {l : List UInt8} (h : Bf cs w o b q t l) : b < w.heap.size := by
  obtain ⟨a, n, c, off, lr, zs, h1, _⟩ := h
  exact h1.lt
/-- The row is another block than the reader's, and there. -/
theorem Bf.row {w : World} {o : Option Nat} {b q t : Nat} {l : List UInt8} (h : Bf cs w o b q t l) (g : Nat) (hg : o = some g) : g ≠ b ∧ g < w.heap.size := by
  obtain ⟨a, n, c, off, lr, zs, h1, ⟨_, _, ⟨h2, _⟩ | ⟨g', h2, _, h3, h4⟩⟩, _⟩ := h
  · rw [h2] at hg; exact absurd hg (by simp)
  · rw [h2] at hg; injection hg with hg; subst hg; exact ⟨h3, (Array.getElem?_eq_some_iff.mp h4).1⟩

section
variable {w w' : World} {o : Option Nat} {r t M : Nat} {l : List UInt8} {out : Bool} {G : Nat → Prop}
theorem Rr.self (h : Rr w o r t M l out) : w.cell? ⟨r, 0, none⟩ = some (.pointer (some ⟨r, 0, none⟩)) := by
  obtain ⟨cs, h0, h1, h5, hB⟩ := h
  exact (hB.at 0 (by omega)).trans h0
theorem Rr.most (h : Rr w o r t M l out) : w.cell? ⟨r, 1, none⟩ = some (.int .i64 M) := by
  obtain ⟨cs, h0, h1, h5, hB⟩ := h
  exact (hB.at 1 (by omega)).trans h1
theorem Rr.brk (h : Rr w o r t M l out) : w.cell? ⟨r, 5, none⟩ = some (.bool out) := by
  obtain ⟨cs, h0, h1, h5, hB⟩ := h
  exact (hB.at 5 (by omega)).trans h5
theorem Rr.lt (h : Rr w o r t M l out) : r < w.heap.size := World.block_lt_of_cell? w _ h.self

theorem Rr.aside (h : Rr w o r t M l out) (ha : Aside G w w') (h0 : ¬ G r) (h1 : ∀ g, o = some g → ¬ G g) : Rr w' o r t M l out := by
  obtain ⟨cs, g0, g1, g5, hB⟩ := h
  exact ⟨cs, g0, g1, g5, hB.aside ha h0 h1⟩

theorem Rr.below (h : Rr w o r t M l out) (hb : Below w.heap.size w w') : Rr w' o r t M l out :=
  h.aside (G := fun _ => False) (Aside.of_all hb) (fun h => h) fun _ _ h => h
end

theorem info_rr : (Tryd.prog.info? 51).map (fun i => decide (i.size = 0)) = some false := by kernel_rfl
theorem ptr_self (w : World) (r : Nat) : (binOp .eql 33 (.pointer (some ⟨r, 0, none⟩)) (.pointer (some ⟨r, 0, none⟩))).run Tryd.prog w = .ok (.bool true) w := by
  obtain ⟨j, hj, _⟩ := Option.map_eq_some_iff.1 info_rr
  exact run_eql_ptr_same w ⟨r, 0, none⟩ Tryd.underlying33 hj

theorem ptr_nil (w : World) (r : Nat) : (binOp .eql 33 (.pointer none) (.pointer (some ⟨r, 0, none⟩))).run Tryd.prog w = .ok (.bool false) w := by
  have h : ∀ d : Nat, (Op.equalIn (d + 1) 33 (.pointer none) (.pointer (some ⟨r, 0, none⟩))).run Tryd.prog w = .ok false w := fun d => by
    simp [Op.equalIn, run_underlying Tryd.underlying33]
  simp only [binOp]
  simp [Op.equal, Op.maxDepth, h 9999]

set_option maxHeartbeats 1000000 in
theorem made_yes {w : World} {r : Nat} (h : w.cell? ⟨r, 0, none⟩ = some (.pointer (some ⟨r, 0, none⟩))) :
    Calls Tryd.prog 31 #[.pointer (some ⟨r, 0, none⟩)] w fun e w' => e = .returned (.bool true) ∧ w' = w := by
  have hs := ptr_self w
  have hn := ptr_nil w
  go_enter Tryd.func31, Tryd.ntmps31
  go_wp2
  go_ret
  exact ⟨rfl, rfl⟩

set_option maxHeartbeats 1000000 in
theorem made_none (w : World) : Calls Tryd.prog 31 #[.pointer none] w fun e w' => e = .returned (.bool false) ∧ w' = w := by
  have hs := ptr_self w
  have hn := ptr_nil w
  go_enter Tryd.func31, Tryd.ntmps31
  go_wp2
  go_ret
  exact ⟨rfl, rfl⟩

set_option maxHeartbeats 1000000 in
theorem made_no {w : World} {r : Nat} (h : w.cell? ⟨r, 0, none⟩ = some (.pointer none)) :
    Calls Tryd.prog 31 #[.pointer (some ⟨r, 0, none⟩)] w fun e w' => e = .returned (.bool false) ∧ w' = w := by
  have hs := ptr_self w
  have hn := ptr_nil w
  go_enter Tryd.func31, Tryd.ntmps31
  go_wp2
  go_ret
  exact ⟨rfl, rfl⟩

/-- The length that has come. -/
def sizeF (l : List UInt8) : Int := if l.length < 2 then 0 else (hd2 l : Int)

set_option maxHeartbeats 1000000 in
theorem length_any {w : World} {o : Option Nat} {r t : Nat} {l : List UInt8} (h : Bf cs w o r 2 t l) :
    Calls Tryd.prog 34 #[.pointer (some ⟨r, 0, none⟩)] w fun e w' => e = .returned (.tuple #[.int .i64 (sizeF l), .bool (decide (2 ≤ l.length))]) ∧ ∃ n, w' = w.drewN n := by
  have HL := Lib.hid (len_any h)
  have HB := Lib.hid (bytes_any (w := w.drew) (h.aside (G := fun _ => False) (Aside.of_all (Below.refl _ _).drew) (fun h => h) fun _ _ h => h))
  clear h
  by_cases hs : l.length < 2
  · have t1 : (l.length : Int) < 2 := by omega
    have e1 : sizeF l = 0 := if_pos hs
    have e2 : decide (2 ≤ l.length) = false := decide_eq_false (by omega)
    rw [e1, e2]
    clear e1 e2 hs
    go_enter Tryd.func34, Tryd.ntmps34
    go_wp2_with fail
    refine HL.out.mono ?_; rintro e w1 ⟨rfl, rfl⟩
    go_wp2_with fail
    go_ret2
    exact ⟨rfl, 1, rfl⟩
  · have t1 : ¬ (l.length : Int) < 2 := by omega
    have e1 : sizeF l = (hd2 l : Int) := if_neg hs
    have e2 : decide (2 ≤ l.length) = true := decide_eq_true (by omega)
    obtain ⟨x, hx⟩ : ∃ x : Nat, (l.getD 0 0).toNat = x := ⟨_, rfl⟩
    obtain ⟨y, hy⟩ : ∃ y : Nat, (l.getD 1 0).toNat = y := ⟨_, rfl⟩
    have hx1 : x < 256 := by rw [← hx]; exact (l.getD 0 0).toNat_lt
    have hy1 : y < 256 := by rw [← hy]; exact (l.getD 1 0).toNat_lt
    have e3 : (hd2 l : Int) = (x : Int) * 256 + y := by unfold hd2; rw [hx, hy]; push_cast; omega
    have hor := or_byte (x : Int) (y : Int) (by omega) (by omega) (by omega) (by omega)
    rw [e1, e2, e3, ← hor]
    have d : ∀ (W : World) (v : Value), Sl W 0 W.heap.size v (iz l) → ∃ b o c, v = .slice (some ⟨b, o, none⟩) l.length c ∧ W.cell? ⟨b, o, none⟩ = some (.int .u8 x) ∧ W.cell? ⟨b, o + 1, none⟩ = some (.int .u8 y) := fun W v hv => by
      obtain ⟨a, c, rfl, h1, _, h3⟩ := hv
      rw [iz_len] at h1 h3 ⊢
      obtain ⟨b, o, rfl, _, _, hc⟩ := h3 (by omega)
      have d0 := hc 0 (by omega)
      have d1 := hc 1 (by omega)
      rw [iz_get l 0 (by omega)] at d0
      rw [iz_get l 1 (by omega)] at d1
      refine ⟨b, o, c, rfl, ?_, ?_⟩
      · rw [← hx, List.getD, List.getElem?_eq_getElem (show 0 < l.length by omega)]; exact d0
      · rw [← hy, List.getD, List.getElem?_eq_getElem (show 1 < l.length by omega)]; exact d1
    have D := Lib.hid d
    have hl2 : 2 ≤ l.length := by omega
    clear e1 e2 e3 hor hx hy d hs
    go_enter Tryd.func34, Tryd.ntmps34
    go_wp2_with fail
    refine HL.out.mono ?_; rintro e w1 ⟨rfl, rfl⟩
    go_wp2_with fail
    refine HB.out.mono ?_; rintro e w1 ⟨v, rfl, hv, rfl⟩
    obtain ⟨b, o, c, rfl, d0, d1⟩ := D.out _ _ hv
    clear hv
    go_wp2_with fail
    go_region
    go_wp2_with fail
    go_ret2
    exact ⟨rfl, 3, rfl⟩
end Go.Proofs.YtlkafakanoefmaaDoor

/-
  The landed reader: Want, Left, Broken, New; and the three of a reader that is none.
-/
namespace Go.Proofs.YtlkafakanoefmaaDoor
open Go.RowKit Go.Shelf
set_option linter.unusedVariables false
set_option linter.unusedSimpArgs false
set_option maxRecDepth 100000
variable {cs : Nat → Option Value}

set_option maxHeartbeats 1000000 in
theorem want_any {w : World} {o : Option Nat} {r t : Nat} {l : List UInt8} (h0 : w.cell? ⟨r, 0, none⟩ = some (.pointer (some ⟨r, 0, none⟩))) (h : Bf cs w o r 2 t l) (hl : l.length ≤ 100000000) :
    Calls Tryd.prog 24 #[.pointer (some ⟨r, 0, none⟩)] w fun e w' => e = .returned (.int .i64 (wantF l)) ∧ ∃ n, w' = w.drewN n := by
  have HM := Lib.hid (made_yes h0)
  have HL := Lib.hid (length_any h)
  have HN := Lib.hid (fun n => len_any (w := w.drewN n) (h.aside (G := fun _ => False) (Aside.drewN _ _) (fun h => h) fun _ _ h => h))
  clear h h0
  by_cases hs : l.length < 2
  · have e1 : sizeF l = 0 := if_pos hs
    have e2 : decide (2 ≤ l.length) = false := decide_eq_false (by omega)
    have e3 : wantF l = 0 := if_pos hs
    rw [e3]
    rw [e1, e2] at HL
    clear e1 e2 e3 hs
    go_enter Tryd.func24, Tryd.ntmps24
    go_wp2_with fail
    refine HM.out.mono ?_; rintro e w1 ⟨rfl, rfl⟩
    go_wp2_with fail
    refine HL.out.mono ?_; rintro e w1 ⟨rfl, n, rfl⟩
    go_wp2_with fail
    go_ret
    exact ⟨rfl, n, rfl⟩
  · have e1 : sizeF l = (hd2 l : Int) := if_neg hs
    have e2 : decide (2 ≤ l.length) = true := decide_eq_true (by omega)
    have e3 : wantF l = (2 : Int) + (hd2 l : Int) - (l.length : Int) := by unfold wantF; rw [if_neg hs]; omega
    have hz := hd2_lt l
    rw [e3]
    rw [e1, e2] at HL
    obtain ⟨z, hzz⟩ : ∃ z, hd2 l = z := ⟨_, rfl⟩
    rw [hzz] at hz HL ⊢
    clear e1 e2 e3 hs hzz
    go_enter Tryd.func24, Tryd.ntmps24
    go_wp2_with fail
    refine HM.out.mono ?_; rintro e w1 ⟨rfl, rfl⟩
    go_wp2_with fail
    refine HL.out.mono ?_; rintro e w1 ⟨rfl, n, rfl⟩
    go_wp2_with fail
    refine (HN.out n).mono ?_; rintro e w1 ⟨rfl, rfl⟩
    go_wp2_with fail
    go_ret
    exact ⟨rfl, n + 1, rfl⟩

set_option maxHeartbeats 1000000 in
theorem left_any {w : World} {o : Option Nat} {r t M : Nat} {l : List UInt8} {out : Bool} (h : Rr w o r t M l out) :
    Calls Tryd.prog 23 #[.pointer (some ⟨r, 0, none⟩)] w fun e w' => e = .returned (.int .i64 l.length) ∧ ∃ n, w' = w.drewN n := by
  have HM := Lib.hid (made_yes h.self)
  obtain ⟨cs, _, _, _, hB⟩ := h
  have HN := Lib.hid (len_any hB)
  clear hB
  go_enter Tryd.func23, Tryd.ntmps23
  go_wp2_with fail
  refine HM.out.mono ?_; rintro e w1 ⟨rfl, rfl⟩
  go_wp2_with fail
  refine HN.out.mono ?_; rintro e w1 ⟨rfl, rfl⟩
  go_wp2_with fail
  go_ret
  exact ⟨rfl, 1, rfl⟩

set_option maxHeartbeats 1000000 in
theorem broken_any {w : World} {o : Option Nat} {r t M : Nat} {l : List UInt8} {out : Bool} (h : Rr w o r t M l out) :
    Calls Tryd.prog 26 #[.pointer (some ⟨r, 0, none⟩)] w fun e w' => e = .returned (.bool out) ∧ w' = w := by
  have HM := Lib.hid (made_yes h.self)
  have c5 := h.brk
  clear h
  go_enter Tryd.func26, Tryd.ntmps26
  go_wp2_with fail
  refine HM.out.mono ?_; rintro e w1 ⟨rfl, rfl⟩
  go_wp2_with fail
  go_ret
  exact ⟨rfl, rfl⟩

section
variable {w : World} {v : Value}
/-- A reader that is none, or that New did not make. -/
def Unmade (w : World) (v : Value) : Prop := v = .pointer none ∨ ∃ r, v = .pointer (some ⟨r, 0, none⟩) ∧ w.cell? ⟨r, 0, none⟩ = some (.pointer none)

theorem Unmade.no (h : Unmade w v) : Calls Tryd.prog 31 #[v] w fun e w' => e = .returned (.bool false) ∧ w' = w := by
  obtain rfl | ⟨r, rfl, h⟩ := h
  · exact made_none w
  · exact made_no h

set_option maxHeartbeats 1000000 in
theorem want_no (h : Unmade w v) : Calls Tryd.prog 24 #[v] w fun e w' => e = .returned (.int .i64 0) ∧ w' = w := by
  have HM := Lib.hid h.no
  clear h
  go_enter Tryd.func24, Tryd.ntmps24
  go_wp2_with fail
  refine HM.out.mono ?_; rintro e w1 ⟨rfl, rfl⟩
  go_wp2_with fail
  go_ret
  exact ⟨rfl, rfl⟩

set_option maxHeartbeats 1000000 in
theorem left_no (h : Unmade w v) : Calls Tryd.prog 23 #[v] w fun e w' => e = .returned (.int .i64 0) ∧ w' = w := by
  have HM := Lib.hid h.no
  clear h
  go_enter Tryd.func23, Tryd.ntmps23
  go_wp2_with fail
  refine HM.out.mono ?_; rintro e w1 ⟨rfl, rfl⟩
  go_wp2_with fail
  go_ret
  exact ⟨rfl, rfl⟩

set_option maxHeartbeats 1000000 in
theorem broken_no (h : Unmade w v) : Calls Tryd.prog 26 #[v] w fun e w' => e = .returned (.bool false) ∧ w' = w := by
  have HM := Lib.hid h.no
  clear h
  go_enter Tryd.func26, Tryd.ntmps26
  go_wp2_with fail
  refine HM.out.mono ?_; rintro e w1 ⟨rfl, rfl⟩
  go_wp2_with fail
  go_ret
  exact ⟨rfl, rfl⟩
end

set_option maxHeartbeats 1000000 in
theorem new_ok (w : World) (M : Nat) (h1 : 12 ≤ M) (h2 : M ≤ 65535) :
    Calls Tryd.prog 17 #[.int .i64 M] w fun e w' => e = .returned (.tuple #[.pointer (some ⟨w.heap.size, 0, none⟩), .int .i64 0]) ∧ Rr w' none w.heap.size 0 M [] false ∧ Below w.heap.size w w' := by
  have hf : fitsF M 65535 = 0 := by unfold fitsF; rw [if_neg (by omega), if_neg (by omega)]
  have HF := Lib.hid (fits_any w M 65535)
  rw [hf] at HF
  clear hf
  go_enter Tryd.func17, Tryd.ntmps17
  go_wp2_with fail
  refine HF.out.mono ?_; rintro e w1 ⟨rfl, rfl⟩
  go_wp2_with fail
  go_ret2
  refine ⟨rfl, ⟨fun j => [Value.pointer (some ⟨w1.heap.size, 0, none⟩), .int .i64 M, .slice none 0 0, .int .i64 0, .int .i8 0, .bool false][j]?, ?_, ?_, ?_, none, 0, 0, 0, 0, [], ⟨?_, ?_, ?_, fun j => ⟨?_, fun _ => ?_⟩⟩, ⟨rfl, by unfold maxLen; omega, .inl ⟨rfl, rfl, rfl⟩⟩, rfl, Nat.le_refl _, Nat.le_refl _, fun j h => by simp at h⟩, ?_⟩
  · simp [go_sem]
  · simp [go_sem]
  · simp [go_sem]
  · simp [go_sem]
  · simp [go_sem]
  · simp [go_sem]
  · simp [go_sem]
  · simp [go_sem]
  · exact (Below.refl _ _).alloc (Nat.le_refl _) _

set_option maxHeartbeats 1000000 in
theorem new_no (w : World) (M : Int) (h1 : M < 12 ∨ 65535 < M) :
    Calls Tryd.prog 17 #[.int .i64 M] w fun e w' => e = .returned (.tuple #[.pointer none, .int .i64 2]) ∧ w' = w := by
  have hf : fitsF M 65535 = 4 ∨ fitsF M 65535 = 3 := by unfold fitsF; split; exact .inl rfl; split; exact .inr rfl; omega
  have HF := Lib.hid (fits_any w M 65535)
  obtain hf | hf := hf
  all_goals
    rw [hf] at HF
    clear hf h1
    go_enter Tryd.func17, Tryd.ntmps17
    go_wp2_with fail
    refine HF.out.mono ?_; rintro e w1 ⟨rfl, rfl⟩
    go_wp2_with fail
    go_ret2
    exact ⟨rfl, rfl⟩
end Go.Proofs.YtlkafakanoefmaaDoor

/-
  The landed reader: take; bytes.Clone; cut.
-/
namespace Go.Proofs.YtlkafakanoefmaaDoor
open Go.RowKit Go.Shelf
set_option linter.unusedVariables false
set_option linter.unusedSimpArgs false
set_option maxRecDepth 100000

section
variable {w w' : World} {o : Option Nat} {r t M : Nat} {l p : List UInt8} {out : Bool}
theorem length_rr (h : Rr w o r t M l out) :
    Calls Tryd.prog 34 #[.pointer (some ⟨r, 0, none⟩)] w fun e w' => e = .returned (.tuple #[.int .i64 (sizeF l), .bool (decide (2 ≤ l.length))]) ∧ ∃ n, w' = w.drewN n := by
  obtain ⟨cs, _, _, _, hB⟩ := h
  exact length_any hB
theorem want_rr (h : Rr w o r t M l out) (hl : l.length ≤ 100000000) :
    Calls Tryd.prog 24 #[.pointer (some ⟨r, 0, none⟩)] w fun e w' => e = .returned (.int .i64 (wantF l)) ∧ ∃ n, w' = w.drewN n := by
  have h0 := h.self
  obtain ⟨cs, _, _, _, hB⟩ := h
  exact want_any h0 hB hl
theorem len_rr (h : Rr w o r t M l out) :
    Calls Tryd.prog 33 #[.pointer (some ⟨r, 2, none⟩)] w fun e w' => e = .returned (.int .i64 l.length) ∧ w' = w.drew := by
  obtain ⟨cs, _, _, _, hB⟩ := h
  exact len_any hB
theorem Rr.drewN (h : Rr w o r t M l out) (n : Nat) : Rr (w.drewN n) o r t M l out := h.below (below_drewN (Below.refl _ _) n)
end

/-- How many bytes are missing of a length, or of a message. -/
def needF (l : List UInt8) : Nat := if l.length < 2 then 2 - l.length else 2 + hd2 l - l.length

/-- How take ends. -/
def TakePost (w : World) (o : Option Nat) (r t M : Nat) (l p : List UInt8) (out : Bool) (k : Nat) (e : Ending) (w' : World) : Prop :=
  ∃ v', e = .returned v' ∧ Sl w' k (k + 1) v' (iz (p.drop (min p.length (needF l)))) ∧ ∃ o', Rr w' o' r (t + min p.length (needF l)) M (l ++ p.take (min p.length (needF l))) out ∧ (o' = o ∨ ∃ g, o' = some g ∧ w.heap.size ≤ g) ∧ Aside (fun j => j = r ∨ o = some j) w w'

theorem sl_apart {W W' : World} {G : Nat → Prop} {k : Nat} {v : Value} {l : List Int} (h : Sl W k (k + 1) v l) (ha : Aside G W W') (hk : k < W.heap.size) (hG : ¬ G k) : Sl W' k (k + 1) v l :=
  h.keep fun b o hb hb2 => by
    obtain rfl : b = k := by omega
    exact ha.cell (p := ⟨b, o, none⟩) hk hG

set_option maxHeartbeats 4000000 in
theorem take_any {w : World} {o : Option Nat} {r t M : Nat} {l p : List UInt8} {out : Bool} {v : Value} {k : Nat} (h : Rr w o r t M l out) (hv : Sl w k (k + 1) v (iz p)) (hk : k < w.heap.size) (hkr : k ≠ r) (hko : o ≠ some k)
    (hl : l.length < 2 ∨ l.length ≤ 2 + hd2 l) (ht : t + p.length ≤ 100000000) (hll : l.length ≤ 100000000) :
    Calls Tryd.prog 37 #[.pointer (some ⟨r, 0, none⟩), v] w (TakePost w o r t M l p out k) := by
  obtain ⟨a, c, rfl, hpc, _, _⟩ := id hv
  rw [iz_len] at hv hpc ⊢
  obtain ⟨n, hn⟩ : ∃ n, min p.length (needF l) = n := ⟨_, rfl⟩
  have hnp : n ≤ p.length := by omega
  obtain ⟨ya, yn, yc, hy, hys⟩ := upto_sl hv rfl hnp
  obtain ⟨za, zn, zc, hz, hzs⟩ := from_sl hv rfl hnp
  have hzs2 := hzs w hv
  have hyn : yn = n := by
    obtain ⟨_, _, he, _⟩ := id hys
    injection he with _ he _
    rw [he, iz_len, List.length_take]; omega
  subst hyn
  have hG : ∀ (G : Nat → Prop), (∀ j, G j → j = r ∨ o = some j) → ¬ G k := fun G hG h => by
    rcases hG k h with e | e
    · exact hkr e
    · exact hko e
  have HW := Lib.hid (show ∀ m, Calls Tryd.prog 40 #[.pointer (some ⟨r, 2, none⟩), .slice ya yn yc] (w.drewN m) fun e w' => e = .returned (.tuple #[.int .i64 yn, .nilIface]) ∧ TakePost w o r t M l p out k (.returned (.slice za zn zc)) w' from fun m => by
    obtain ⟨cs, g0, g1, g5, hB⟩ := h
    have hB' : Bf cs (w.drewN m) o r 2 t l := hB.aside (G := fun _ => False) (Aside.drewN _ _) (fun h => h) fun _ _ h => h
    have hyl : (p.take yn).length = yn := by rw [List.length_take]; omega
    have := write_any (v := .slice ya yn yc) (p := p.take yn) hB' (fun W ha => by
      have h1 : Sl W k (k + 1) (.slice ya yn yc) (iz (p.take yn)) := sl_apart hys (((Aside.drewN (G := fun j => j = r ∨ o = some j) w m)).trans ha) hk (hG _ fun j h => h)
      exact h1.wide (Nat.zero_le _) (by have := ha.size; have : w.heap.size = (w.drewN m).heap.size := rfl; omega)) (by rw [hyl]; omega)
    rw [hyl] at this
    refine this.mono ?_
    rintro e w2 ⟨rfl, o', hB2, ho', hA⟩
    have hA' : Aside (fun j => j = r ∨ o = some j) w w2 := (Aside.drewN w m).trans hA
    refine ⟨rfl, .slice za zn zc, rfl, ?_, o', ?_, ho', hA'⟩
    · rw [hn]
      exact sl_apart hzs2 hA' hk (hG _ fun j h => h)
    · rw [hn]
      exact ⟨cs, g0, g1, g5, hB2⟩)
  have HL := Lib.hid (len_rr h)
  have HT := Lib.hid (want_rr (h.drewN 1) hll)
  have hwant : wantF l = if l.length < 2 then 0 else (2 : Int) + (hd2 l : Int) - (l.length : Int) := by unfold wantF; split; rfl; omega
  obtain ⟨x, hx⟩ : ∃ x : Int, wantF l = x := ⟨_, rfl⟩
  rw [hx] at HT hwant
  have hneed := hn
  unfold needF at hneed
  have hd := hd2_lt l
  obtain ⟨z, hzz⟩ : ∃ z, hd2 l = z := ⟨_, rfl⟩
  rw [hzz] at hl hd hneed hwant
  obtain ⟨X, hX⟩ : ∃ X : Int, (if x > 2 - (l.length : Int) then x else 2 - (l.length : Int)) = X := ⟨_, rfl⟩
  have hmx : ∀ wx, (Builtin.max_ #[3, 3] 3 #[.int .i64 (2 - (l.length : Int)), .int .i64 x]).run Tryd.prog wx = .ok (.int .i64 X) wx := fun wx => by rw [← hX]; rfl
  have hY : (if X < (p.length : Int) then X else (p.length : Int)) = yn := by
    rw [← hX]
    split at hwant <;> rename_i h2 <;> simp only [h2, if_true, if_false] at hneed <;> (repeat' split) <;> omega
  have hmn : ∀ wx, (Builtin.min_ #[3, 3] 3 #[.int .i64 (p.length : Int), .int .i64 X]).run Tryd.prog wx = .ok (.int .i64 yn) wx := fun wx => by rw [← hY]; rfl
  have hx0 : -100000000 ≤ x ∧ x ≤ 100000000 := by split at hwant <;> omega
  clear hG hzs2 hzs hys hwant hn hzz h hv hneed hx hY hX
  go_enter Tryd.func37, Tryd.ntmps37
  go_wp2_with fail
  refine HL.out.mono ?_; rintro e w1 ⟨rfl, rfl⟩
  go_wp2_with fail
  refine HT.out.mono ?_; rintro e w1 ⟨rfl, m, rfl⟩
  go_wp2_with fail
  go_region_held3 (fun _ => True) (trivial) (first | (go_at_call 40; refine (HW.out _).mono ?_; rintro e w2 ⟨rfl, HP⟩))
  go_wp2_with fail
  go_ret
  exact HP

set_option maxHeartbeats 1000000 in
theorem cloneB_any {w : World} {lo hi : Nat} {v : Value} {m : List UInt8} (h : Sl w lo hi v (iz m)) (h1 : 1 ≤ m.length) (h2 : m.length ≤ 1000000) :
    Calls Tryd.prog 42 #[v] w fun e w' => ∃ v', e = .returned v' ∧ OwnB w' w.heap.size v' m ∧ Below w.heap.size w w' := by
  have HS := Lib.hid h
  obtain ⟨a, c, rfl, _, _, h3⟩ := h
  rw [iz_len] at h3 HS ⊢
  obtain ⟨b, off, rfl, _⟩ := h3 (by omega)
  have hne : ∀ wx, (binOp .eql 22 (.slice (some ⟨b, off, none⟩) m.length c) (.slice none 0 0)).run Tryd.prog wx = .ok (.bool false) wx := fun wx => Lib.run_eql_slice_some_nil wx _ _ _ Tryd.underlying22
  have o1 : OwnB (w.alloc (.cells #[] 5)) w.heap.size (.slice (some ⟨w.heap.size, 0, none⟩) 0 0) [] :=
    .inr ⟨w.heap.size, 0, (0, 0), rfl, Nat.le_refl _, Nat.le_refl _, Nat.zero_le _, .inl rfl, heap_alloc_new w _⟩
  have b1 : Below w.heap.size w (w.alloc (.cells #[] 5)) := (Below.refl _ _).alloc (Nat.le_refl _) _
  obtain ⟨a1, c1, X2, r1, o2, g2⟩ := run_appBs w.heap.size _ _ [] m o1 (HS.out.later b1) (by simpa using h2) (by simp)
  simp only [List.length_nil, Nat.zero_add, List.nil_append] at r1 o2
  have b2 : Below w.heap.size w X2 := b1.trans (g2.below fun k hk => ⟨by simp; omega, fun e => by have e2 : w.heap.size = k := (by injection e); omega⟩)
  have HF := Lib.hid (And.intro o2 b2)
  clear o1 o2 b1 b2 g2 h3
  go_enter Tryd.func42, Tryd.ntmps42
  go_wp2_with (at_builtin; refine Lib.wpList_append_run _ rfl _ _ _ _ rfl _ _ rfl rfl _ _ r1 ?_)
  go_ret
  exact ⟨_, rfl, HF.out⟩

theorem next_rr {w : World} {o : Option Nat} {r t M : Nat} {l : List UInt8} {out : Bool} (h : Rr w o r t M l out) (k : Nat) (hk : k ≤ l.length) :
    Calls Tryd.prog 41 #[.pointer (some ⟨r, 2, none⟩), .int .i64 k] w fun e w' => ∃ v, e = .returned v ∧ Sl w' 0 w'.heap.size v (iz (l.take k)) ∧ Rr w' o r t M (l.drop k) out ∧ Aside (fun j => j = r) w w' := by
  obtain ⟨cs, g0, g1, g5, hB⟩ := h
  refine (next_any hB k hk).mono ?_
  rintro e w' ⟨v, rfl, h1, h2, h3⟩
  exact ⟨v, rfl, h1, ⟨cs, g0, g1, g5, h2⟩, h3⟩

/-- How cut ends. -/
def CutPost (w : World) (o : Option Nat) (r t M : Nat) (l : List UInt8) (out : Bool) (k : Nat) (e : Ending) (w' : World) : Prop :=
  ∃ v, e = .returned v ∧ OwnB w' w.heap.size v ((l.drop 2).take k) ∧ Rr w' o r t M (l.drop (2 + k)) out ∧ Aside (fun j => j = r) w w'

set_option maxHeartbeats 2000000 in
theorem cutF_any {w : World} {o : Option Nat} {r t M : Nat} {l : List UInt8} {out : Bool} (h : Rr w o r t M l out) (k : Nat) (hk : 2 + k ≤ l.length) (hk1 : 1 ≤ k) (hk2 : k ≤ 1000000) :
    Calls Tryd.prog 38 #[.pointer (some ⟨r, 0, none⟩), .int .i64 k] w (CutPost w o r t M l out k) := by
  have HN := Lib.hid (next_rr h 2 (by omega))
  clear h
  go_enter Tryd.func38, Tryd.ntmps38
  go_wp2_with fail
  refine HN.out.mono ?_; rintro e w1 ⟨v, rfl, _, h1, ha1⟩
  have HN1 := Lib.hid (next_rr h1 k (by rw [List.length_drop]; omega))
  have HA1 := Lib.hid ha1
  clear h1 ha1
  go_wp2_with fail
  refine HN1.out.mono ?_; rintro e w2 ⟨v2, rfl, hs2, h2, ha2⟩
  have hl2 : ((l.drop 2).take k).length = k := by rw [List.length_take, List.length_drop]; omega
  have HC := Lib.hid (cloneB_any hs2 (by omega) (by omega))
  have H2 := Lib.hid h2
  have HA2 := Lib.hid ha2
  clear hs2 h2 ha2 hl2
  go_wp2_with fail
  refine HC.out.mono ?_; rintro e w3 ⟨v3, rfl, ho3, hb3⟩
  have HF := Lib.hid (show CutPost w o r t M l out k (.returned v3) w3 from ⟨v3, rfl, ho3.mono (Nat.le_trans HA1.out.size HA2.out.size), by have := H2.out.below hb3; rwa [List.drop_drop] at this, (HA1.out.trans HA2.out).trans (Aside.of_all hb3)⟩)
  clear ho3 hb3
  go_wp2_with fail
  go_ret
  exact HF.out
end Go.Proofs.YtlkafakanoefmaaDoor
