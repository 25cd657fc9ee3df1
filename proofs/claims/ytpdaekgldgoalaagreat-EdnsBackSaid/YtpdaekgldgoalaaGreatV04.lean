/-
  A reader of data in memory: rest, fixed, name, texts.
-/
import Derived.Test.YtpdaekgldgoalaaGreatV03
import Derived.Maps.Own
import Derived.Maps.OwnSet
import Derived.Defers
import Derived.Recover
import Derived.RegionTactic
import Derived.BigRegion
namespace Go.Proofs.YtpdaekgldgoalaaGreat
open Go.RowKit Go.Shelf
set_option linter.unusedVariables false
set_option linter.unusedSimpArgs false
set_option maxRecDepth 100000

set_option maxHeartbeats 1000000 in
theorem restR_any {w : World} {B r s p e : Nat} {vb vf : Value} {acc : List Pc} {b : List UInt8} {lo hi : Nat} {F : Nat → Got} (h : Rr w B r vb vf s p e acc) (hb : Sl w lo hi vb (iz b)) (he : e ≤ b.length) (hpe : p ≤ e) (hl : acc.length + 1 ≤ 1000000) :
    Calls Tryz.prog 127 #[.pointer (some ⟨r, 0, none⟩)] w (StepPost w B r vb vf s e acc (stepP F b s e p .rst)) := by
  have HT := Lib.hid (take_any h hb he e hpe hl)
  have c3 := h.c3
  simp only [stepP]
  unfold cutP at HT ⊢
  rw [if_neg (by omega)] at HT ⊢
  clear h hb
  go_enter Tryz.func127, Tryz.ntmps127
  go_wp2_with fail
  refine HT.out.mono ?_; rintro en w1 ⟨rfl, hr1, ha1⟩
  have HF := Lib.hid (And.intro hr1 ha1)
  clear hr1 ha1
  go_wp2_with fail
  go_end0
  exact ⟨rfl, HF.out⟩

set_option maxHeartbeats 1000000 in
theorem fixed_any (n : Int) (w : World) : Calls Tryz.prog 131 #[.int .i64 n] w fun e w' => e = .returned (.func (.func 136) #[] #[.pointer (some ⟨w.heap.size, 0, none⟩)]) ∧ w' = w.alloc (.cells #[.int .i64 n] 3) := by
  have hmf : ∀ (fn : Fn) (first cap : Array Value) (w : World), (Instr.makeFunc fn first cap).run Tryz.prog w = .ok (.func fn first cap) w := fun _ _ _ _ => rfl
  go_enter Tryz.func131, Tryz.ntmps131
  go_wp2
  go_ret
  exact ⟨rfl, rfl⟩

set_option maxHeartbeats 2000000 in
theorem fixedR_any {w : World} {B r s p e n g : Nat} {vb vf : Value} {acc : List Pc} {b : List UInt8} {lo hi : Nat} {F : Nat → Got} (h : Rr w B r vb vf s p e acc) (hb : Sl w lo hi vb (iz b)) (he : e ≤ b.length) (hpe : p ≤ e) (hn : n ≤ 1000000) (hbl : b.length ≤ 1000000) (hg : w.cell? ⟨g, 0, none⟩ = some (.int .i64 n)) (hl : acc.length + 1 ≤ 1000000) :
    Calls Tryz.prog 136 #[.pointer (some ⟨r, 0, none⟩), .pointer (some ⟨g, 0, none⟩)] w (StepPost w B r vb vf s e acc (stepP F b s e p (.fix n))) := by
  have HT0 := take_any (h.later (Below.refl _ w).drew) (hb.keep (w' := w.drew) fun _ _ _ _ => rfl) he (p + n) (by omega) hl
  have c2 := h.c2
  have es : stepP F b s e p (.fix n) = cutP b s e p (p + n) := rfl
  rw [es]
  have hw : IntKind.i64.wrap ((p : Int) + n) = ((p + n : Nat) : Int) := by rw [IntWalk.i64_in _ (by omega)]; push_cast; rfl
  obtain ⟨q, hpq⟩ : ∃ q, p + n = q := ⟨_, rfl⟩
  rw [hpq] at HT0 hw ⊢
  clear es hpq
  by_cases hq : e < q
  · have e1 : cutP b s e p q = .bad 4 s := by unfold cutP; rw [if_pos hq]
    rw [e1] at HT0 ⊢
    have HT := Lib.hid (show Calls Tryz.prog 134 #[.pointer (some ⟨r, 0, none⟩), .int .i64 q] w.drew (Lost w.drew B r 4 s) from HT0)
    clear h hb HT0 e1 hq
    go_enter Tryz.func136, Tryz.ntmps136
    go_wp2_with fail
    refine wp_region_any (by kernel_rfl) ?_
    change wpAny _ _ _ _ _ _ _ (World.drew _)
    refine wpAny_take (i := 0) (v := ?_) rfl (by kernel_rfl) (by kernel_rfl) (by kernel_rfl) (fun _ _ _ h => h) (Or.inl ⟨by rfl, ?_⟩) ?_
    rotate_left 1
    · intro w; go_simp; try (with_reducible rfl)
    refine wpAny_take (i := 1) (v := ?_) rfl (by kernel_rfl) (by kernel_rfl) (by kernel_rfl) (fun _ _ _ h => h) (Or.inl ⟨by rfl, ?_⟩) ?_
    rotate_left 1
    · intro w; go_simp; try (with_reducible rfl)
    refine wpAny_take (i := 2) (v := ?_) rfl (by kernel_rfl) (by kernel_rfl) (by kernel_rfl) (fun _ _ _ h => h) (Or.inl ⟨by rfl, ?_⟩) ?_
    rotate_left 1
    · intro w; go_simp; try (with_reducible rfl)
    refine wpAny_take (i := 3) (v := ?_) rfl (by kernel_rfl) (by kernel_rfl) (by kernel_rfl) (fun _ _ _ h => h) (Or.inl ⟨by rfl, ?_⟩) ?_
    rotate_left 1
    · intro w; go_simp; try (with_reducible rfl)
    refine wpAny_ready (rs := [4, 5]) (by kernel_rfl) (by simp) ?_
    refine AllReady.cons rfl (fun K hK => ?_) (AllReady.cons rfl (fun K hK => ?_) AllReady.nil)
    · go_simp
      refine hK _ _ ?_
      clear hK K
      refine wpAny_ready (rs := [5]) (by kernel_rfl) (by simp) ?_
      refine AllReady.cons rfl (fun K hK => ?_) AllReady.nil
      go_simp
      refine hK _ _ ?_
      clear hK K
      refine wpAny_take (i := 6) (v := ?_) rfl (by kernel_rfl) (by kernel_rfl) (by kernel_rfl) (fun _ _ _ h => h) (Or.inl ⟨by rfl, ?_⟩) ?_
      rotate_left 1
      · intro w; go_simp; try (with_reducible rfl)
      refine wpAny_ready (rs := [7]) (by kernel_rfl) (by simp) ?_
      refine AllReady.cons rfl (fun K hK => ?_) AllReady.nil
      go_simp
      refine HT.out.mono ?_
      rintro en w2 ⟨rfl, ha2⟩
      exact ⟨rfl, rfl, ha2.of_drew⟩
    · go_simp
      refine hK _ _ ?_
      clear hK K
      refine wpAny_ready (rs := [4]) (by kernel_rfl) (by simp) ?_
      refine AllReady.cons rfl (fun K hK => ?_) AllReady.nil
      go_simp
      refine hK _ _ ?_
      clear hK K
      refine wpAny_take (i := 6) (v := ?_) rfl (by kernel_rfl) (by kernel_rfl) (by kernel_rfl) (fun _ _ _ h => h) (Or.inl ⟨by rfl, ?_⟩) ?_
      rotate_left 1
      · intro w; go_simp; try (with_reducible rfl)
      refine wpAny_ready (rs := [7]) (by kernel_rfl) (by simp) ?_
      refine AllReady.cons rfl (fun K hK => ?_) AllReady.nil
      go_simp
      refine HT.out.mono ?_
      rintro en w2 ⟨rfl, ha2⟩
      exact ⟨rfl, rfl, ha2.of_drew⟩
  · obtain ⟨x, hx⟩ : ∃ x, cutP b s e p q = .ok x q := ⟨_, by unfold cutP; rw [if_neg hq]⟩
    rw [hx] at HT0 ⊢
    have HT := Lib.hid (show Calls Tryz.prog 134 #[.pointer (some ⟨r, 0, none⟩), .int .i64 q] w.drew (Gone w.drew B r vb vf s e q (acc ++ [x])) from HT0)
    clear h hb HT0 hx hq
    go_enter Tryz.func136, Tryz.ntmps136
    go_wp2_with fail
    go_region_law (go_simp; go_at_call 134; refine HT.out.mono ?_; rintro en w2 ⟨rfl, hr2, ha2⟩; have HF := Lib.hid (And.intro hr2 ha2); clear hr2 ha2)
    all_goals
      try go_wp2_with fail
      go_end0
      exact ⟨rfl, HF.out.1, HF.out.2.of_drew⟩
end Go.Proofs.YtpdaekgldgoalaaGreat

/-
  A reader of data in memory: name.
-/
namespace Go.Proofs.YtpdaekgldgoalaaGreat
open Go.RowKit Go.Shelf
set_option linter.unusedVariables false
set_option linter.unusedSimpArgs false
set_option maxRecDepth 100000

/-- How names are read: F tells it of the function value vf, wherever a reader goes from w on. -/
def FindOk (w : World) (B r f : Nat) (vb : Value) (F : Nat → Got) : Prop := ∀ wx, Aside (RG B r) w wx → ∀ p : Nat, Calls Tryz.prog f #[vb, .int .i64 p] wx (Tells wx (gotV (F p)))

theorem FindOk.later {w w' : World} {B r f : Nat} {vb : Value} {F : Nat → Got} (h : FindOk w B r f vb F) (ha : Aside (RG B r) w w') : FindOk w' B r f vb F := fun wx hx p => h wx (ha.trans hx) p

/-- What was made ahead of a call is as it was, behind it. -/
theorem aft_alloc {w w2 : World} (hb : Below (w.drew.alloc (.cells #[.int .i64 0, .int .i64 0] 47)).heap.size (w.drew.alloc (.cells #[.int .i64 0, .int .i64 0] 47)) w2) :
    w2.cell? ⟨w.heap.size, 0, none⟩ = some (.int .i64 0) ∧ w2.cell? ⟨w.heap.size, 1, none⟩ = some (.int .i64 0) ∧ w2.frozen? ⟨w.heap.size, 0, none⟩ = false ∧ w2.frozen? ⟨w.heap.size, 1, none⟩ = false := by
  have hlt : w.heap.size < (w.drew.alloc (.cells #[.int .i64 0, .int .i64 0] 47)).heap.size := by rw [World.size_alloc]; exact Nat.lt_succ_self _
  refine ⟨(hb.cell (p := ⟨w.heap.size, 0, none⟩) hlt).trans (by simp [go_sem]), (hb.cell (p := ⟨w.heap.size, 1, none⟩) hlt).trans (by simp [go_sem]), (hb.frozen (p := ⟨w.heap.size, 0, none⟩) hlt).trans (by simp [go_sem]), (hb.frozen (p := ⟨w.heap.size, 1, none⟩) hlt).trans (by simp [go_sem])⟩

theorem bel_set2 {w w2 : World} {g : Nat} (hb : Below w.heap.size w w2) (hg : w.heap.size ≤ g) (x y : Value) : Below w.heap.size w ((w2.setCell ⟨g, 0, none⟩ x).setCell ⟨g, 1, none⟩ y) :=
  (hb.setCell (p := ⟨g, 0, none⟩) hg x).setCell (p := ⟨g, 1, none⟩) hg y

set_option maxHeartbeats 4000000 in
theorem nameR_read {w : World} {B r s p e : Nat} {vb : Value} {acc : List Pc} {b : List UInt8} {F : Nat → Got} (h : Rr w B r vb (.func (.func 90) #[] #[]) s p e acc) (hF : FindOk w B r 90 vb F) (hp : p ≤ 1000000) (hl : acc.length + 1 ≤ 1000000) :
    Calls Tryz.prog 132 #[.pointer (some ⟨r, 0, none⟩)] w (StepPost w B r vb (.func (.func 90) #[] #[]) s e acc (stepP F b s e p .nam)) := by
  have c2 := h.c2
  have hw : IntKind.i64.wrap ((p : Int) + 1) = ((p + 1 : Nat) : Int) := by rw [IntWalk.i64_in _ (by omega)]; push_cast; rfl
  have hP := Lib.hid (show stepP F b s e p .nam = if e < p + 1 then .bad 4 s else if (F p).2.2.1 ≠ 0 then .bad (F p).2.2.1 (F p).2.2.2 else if e < (F p).2.1 then .bad 4 s else .ok ((F p).1, true) (F p).2.1 from rfl)
  by_cases hq : e < p + 1
  · have e1 := hP.out
    rw [if_pos hq] at e1
    rw [e1]
    have HR := Lib.hid (reach_no h (p + 1) hq)
    push_cast at HR
    clear h hq e1 hP hw
    go_enter Tryz.func132, Tryz.ntmps132
    go_wp2_with fail
    refine HR.out.mono ?_; rintro en w1 ⟨rfl, rfl⟩
    exact ⟨rfl, rfl, Aside.refl _ _⟩
  · have HR := Lib.hid (reach_yes h (p + 1) hq)
    have HF := Lib.hid (fun wx (hb : Below w.heap.size w wx) => hF wx (Aside.of_all hb) p)
    have HH := Lib.hid h
    have e1 := hP.out
    rw [if_neg hq] at e1
    rw [e1]
    push_cast at HR
    obtain ⟨N, hN⟩ : ∃ N, (F p).1 = N := ⟨_, rfl⟩
    obtain ⟨E, hE⟩ : ∃ E, (F p).2.1 = E := ⟨_, rfl⟩
    obtain ⟨C, hC⟩ : ∃ C, (F p).2.2.1 = C := ⟨_, rfl⟩
    obtain ⟨A, hA⟩ : ∃ A, (F p).2.2.2 = A := ⟨_, rfl⟩
    unfold gotV at HF
    rw [hN, hE, hC, hA] at HF
    rw [hN, hE, hC, hA]
    have c0 := h.c0
    have c4 := h.c4
    obtain ⟨X, hX⟩ : ∃ X, (if C ≠ 0 then PR.bad C A else if e < E then PR.bad 4 s else PR.ok (N, true) E) = X := ⟨_, rfl⟩
    rw [hX]
    have HX := Lib.hid hX
    clear h hq e1 hP hw hF hN hE hC hA hX
    go_enter Tryz.func132, Tryz.ntmps132
    go_wp2_with fail
    refine HR.out.mono ?_; rintro en w1 ⟨rfl, rfl⟩
    go_wp2_with fail
    have HK := Lib.hid (fun wx (hb : Below w.heap.size w wx) => show wx.cell? ⟨r, 0, none⟩ = some vb ∧ wx.cell? ⟨r, 2, none⟩ = some (.int .i64 p) ∧ wx.cell? ⟨r, 4, none⟩ = some (.func (.func 90) #[] #[]) from ⟨cell_later hb c0, cell_later hb c2, cell_later hb c4⟩)
    have hrl := HH.out.rlt
    go_region_held3 (fun wx => wx.cell? ⟨r, 0, none⟩ = some vb ∧ wx.cell? ⟨r, 2, none⟩ = some (.int .i64 p) ∧ wx.cell? ⟨r, 4, none⟩ = some (.func (.func 90) #[] #[])) (first | exact HK.out _ (Below.refl _ w).drew | exact HK.out _ (((Below.refl _ w).drew).alloc (Nat.le_refl _) _) | exact HK.out _ HBW.out | exact HK.out _ (bel_alloc HBW.out _) | exact HK.out _ (bel_set2 HBW.out (Nat.le_refl _) _ _) | exact HK.out _ (bel_set2 (bel_alloc HBW.out _) HBW.out.size _ _)) (first | (go_at_call 90; refine (HF.out _ (by first | exact (Below.refl _ w).drew | exact ((Below.refl _ w).drew).alloc (Nat.le_refl _) _)).mono ?_; rintro en w2 ⟨rfl, hb2⟩; have HBW : Hid (Below w.heap.size w w2) := (by first | exact bel_call (Below.refl _ w).drew hb2 | exact bel_call (((Below.refl _ w).drew).alloc (Nat.le_refl _) _) hb2); try (obtain ⟨k0, k1, kf0, kf1⟩ := aft_alloc hb2); clear hb2))
    · have HB3 : Hid (Below w.heap.size w (w2.alloc (.cells #[.int .i64 C, .int .i64 A] 47))) := bel_alloc HBW.out _
      have HR3 := Lib.hid (HH.out.later HB3.out)
      by_cases hC : C = 0
      · subst hC
        by_cases hEe : e < E
        · obtain rfl : X = .bad 4 s := by rw [← HX.out, if_neg (by simp), if_pos hEe]
          have HRn := Lib.hid (reach_no HR3.out E hEe)
          clear HX HF HK c0 c2 c4
          go_wp2_with fail
          refine HRn.out.mono ?_; rintro en w4 ⟨rfl, rfl⟩
          exact ⟨rfl, rfl, Aside.of_all HB3.out⟩
        · obtain rfl : X = .ok (N, true) E := by rw [← HX.out, if_neg (by simp), if_neg hEe]
          have HRy := Lib.hid (reach_yes HR3.out E hEe)
          have HAd := Lib.hid (show Calls Tryz.prog 138 #[.pointer (some ⟨r, 0, none⟩), .agg #[.string (bs N), .bool true], .int .i64 E] _ _ from add_any HR3.out (N, true) E hl)
          clear HX HF HK c0 c2 c4
          go_wp2_with fail
          refine HRy.out.mono ?_; rintro en w4 ⟨rfl, rfl⟩
          go_wp2_with fail
          refine HAd.out.mono ?_; rintro en w4 ⟨rfl, hr4, ha4⟩
          have HFin := Lib.hid (And.intro hr4 ((Aside.of_all HB3.out).trans ha4))
          clear hr4 ha4
          go_wp2_with fail
          go_end0
          exact ⟨rfl, HFin.out⟩
      · obtain rfl : X = .bad C A := by rw [← HX.out, if_pos hC]
        have tC : (C != 0) = true := by simpa using hC
        clear HX HF HK c0 c2 c4
        go_wp2_with fail
        exact ⟨rfl, rfl, Aside.of_all HB3.out⟩
    · have HB3 : Hid (Below w.heap.size w ((w2.setCell ⟨w.heap.size, 0, none⟩ (.int .i64 C)).setCell ⟨w.heap.size, 1, none⟩ (.int .i64 A))) := bel_set2 HBW.out (Nat.le_refl _) _ _
      have HR3 := Lib.hid (HH.out.later HB3.out)
      by_cases hC : C = 0
      · subst hC
        by_cases hEe : e < E
        · obtain rfl : X = .bad 4 s := by rw [← HX.out, if_neg (by simp), if_pos hEe]
          have HRn := Lib.hid (reach_no HR3.out E hEe)
          clear HX HF HK c0 c2 c4
          go_wp2_with fail
          refine HRn.out.mono ?_; rintro en w4 ⟨rfl, rfl⟩
          exact ⟨rfl, rfl, Aside.of_all HB3.out⟩
        · obtain rfl : X = .ok (N, true) E := by rw [← HX.out, if_neg (by simp), if_neg hEe]
          have HRy := Lib.hid (reach_yes HR3.out E hEe)
          have HAd := Lib.hid (show Calls Tryz.prog 138 #[.pointer (some ⟨r, 0, none⟩), .agg #[.string (bs N), .bool true], .int .i64 E] _ _ from add_any HR3.out (N, true) E hl)
          clear HX HF HK c0 c2 c4
          go_wp2_with fail
          refine HRy.out.mono ?_; rintro en w4 ⟨rfl, rfl⟩
          go_wp2_with fail
          refine HAd.out.mono ?_; rintro en w4 ⟨rfl, hr4, ha4⟩
          have HFin := Lib.hid (And.intro hr4 ((Aside.of_all HB3.out).trans ha4))
          clear hr4 ha4
          go_wp2_with fail
          go_end0
          exact ⟨rfl, HFin.out⟩
      · obtain rfl : X = .bad C A := by rw [← HX.out, if_pos hC]
        have tC : (C != 0) = true := by simpa using hC
        clear HX HF HK c0 c2 c4
        go_wp2_with fail
        exact ⟨rfl, rfl, Aside.of_all HB3.out⟩

set_option maxHeartbeats 4000000 in
theorem nameR_plain {w : World} {B r s p e : Nat} {vb : Value} {acc : List Pc} {b : List UInt8} {F : Nat → Got} (h : Rr w B r vb (.func (.func 121) #[] #[]) s p e acc) (hF : FindOk w B r 121 vb F) (hp : p ≤ 1000000) (hl : acc.length + 1 ≤ 1000000) :
    Calls Tryz.prog 132 #[.pointer (some ⟨r, 0, none⟩)] w (StepPost w B r vb (.func (.func 121) #[] #[]) s e acc (stepP F b s e p .nam)) := by
  have c2 := h.c2
  have hw : IntKind.i64.wrap ((p : Int) + 1) = ((p + 1 : Nat) : Int) := by rw [IntWalk.i64_in _ (by omega)]; push_cast; rfl
  have hP := Lib.hid (show stepP F b s e p .nam = if e < p + 1 then .bad 4 s else if (F p).2.2.1 ≠ 0 then .bad (F p).2.2.1 (F p).2.2.2 else if e < (F p).2.1 then .bad 4 s else .ok ((F p).1, true) (F p).2.1 from rfl)
  by_cases hq : e < p + 1
  · have e1 := hP.out
    rw [if_pos hq] at e1
    rw [e1]
    have HR := Lib.hid (reach_no h (p + 1) hq)
    push_cast at HR
    clear h hq e1 hP hw
    go_enter Tryz.func132, Tryz.ntmps132
    go_wp2_with fail
    refine HR.out.mono ?_; rintro en w1 ⟨rfl, rfl⟩
    exact ⟨rfl, rfl, Aside.refl _ _⟩
  · have HR := Lib.hid (reach_yes h (p + 1) hq)
    have HF := Lib.hid (fun wx (hb : Below w.heap.size w wx) => hF wx (Aside.of_all hb) p)
    have HH := Lib.hid h
    have e1 := hP.out
    rw [if_neg hq] at e1
    rw [e1]
    push_cast at HR
    obtain ⟨N, hN⟩ : ∃ N, (F p).1 = N := ⟨_, rfl⟩
    obtain ⟨E, hE⟩ : ∃ E, (F p).2.1 = E := ⟨_, rfl⟩
    obtain ⟨C, hC⟩ : ∃ C, (F p).2.2.1 = C := ⟨_, rfl⟩
    obtain ⟨A, hA⟩ : ∃ A, (F p).2.2.2 = A := ⟨_, rfl⟩
    unfold gotV at HF
    rw [hN, hE, hC, hA] at HF
    rw [hN, hE, hC, hA]
    have c0 := h.c0
    have c4 := h.c4
    obtain ⟨X, hX⟩ : ∃ X, (if C ≠ 0 then PR.bad C A else if e < E then PR.bad 4 s else PR.ok (N, true) E) = X := ⟨_, rfl⟩
    rw [hX]
    have HX := Lib.hid hX
    clear h hq e1 hP hw hF hN hE hC hA hX
    go_enter Tryz.func132, Tryz.ntmps132
    go_wp2_with fail
    refine HR.out.mono ?_; rintro en w1 ⟨rfl, rfl⟩
    go_wp2_with fail
    have HK := Lib.hid (fun wx (hb : Below w.heap.size w wx) => show wx.cell? ⟨r, 0, none⟩ = some vb ∧ wx.cell? ⟨r, 2, none⟩ = some (.int .i64 p) ∧ wx.cell? ⟨r, 4, none⟩ = some (.func (.func 121) #[] #[]) from ⟨cell_later hb c0, cell_later hb c2, cell_later hb c4⟩)
    have hrl := HH.out.rlt
    go_region_held3 (fun wx => wx.cell? ⟨r, 0, none⟩ = some vb ∧ wx.cell? ⟨r, 2, none⟩ = some (.int .i64 p) ∧ wx.cell? ⟨r, 4, none⟩ = some (.func (.func 121) #[] #[])) (first | exact HK.out _ (Below.refl _ w).drew | exact HK.out _ (((Below.refl _ w).drew).alloc (Nat.le_refl _) _) | exact HK.out _ HBW.out | exact HK.out _ (bel_alloc HBW.out _) | exact HK.out _ (bel_set2 HBW.out (Nat.le_refl _) _ _) | exact HK.out _ (bel_set2 (bel_alloc HBW.out _) HBW.out.size _ _)) (first | (go_at_call 121; refine (HF.out _ (by first | exact (Below.refl _ w).drew | exact ((Below.refl _ w).drew).alloc (Nat.le_refl _) _)).mono ?_; rintro en w2 ⟨rfl, hb2⟩; have HBW : Hid (Below w.heap.size w w2) := (by first | exact bel_call (Below.refl _ w).drew hb2 | exact bel_call (((Below.refl _ w).drew).alloc (Nat.le_refl _) _) hb2); try (obtain ⟨k0, k1, kf0, kf1⟩ := aft_alloc hb2); clear hb2))
    · have HB3 : Hid (Below w.heap.size w (w2.alloc (.cells #[.int .i64 C, .int .i64 A] 47))) := bel_alloc HBW.out _
      have HR3 := Lib.hid (HH.out.later HB3.out)
      by_cases hC : C = 0
      · subst hC
        by_cases hEe : e < E
        · obtain rfl : X = .bad 4 s := by rw [← HX.out, if_neg (by simp), if_pos hEe]
          have HRn := Lib.hid (reach_no HR3.out E hEe)
          clear HX HF HK c0 c2 c4
          go_wp2_with fail
          refine HRn.out.mono ?_; rintro en w4 ⟨rfl, rfl⟩
          exact ⟨rfl, rfl, Aside.of_all HB3.out⟩
        · obtain rfl : X = .ok (N, true) E := by rw [← HX.out, if_neg (by simp), if_neg hEe]
          have HRy := Lib.hid (reach_yes HR3.out E hEe)
          have HAd := Lib.hid (show Calls Tryz.prog 138 #[.pointer (some ⟨r, 0, none⟩), .agg #[.string (bs N), .bool true], .int .i64 E] _ _ from add_any HR3.out (N, true) E hl)
          clear HX HF HK c0 c2 c4
          go_wp2_with fail
          refine HRy.out.mono ?_; rintro en w4 ⟨rfl, rfl⟩
          go_wp2_with fail
          refine HAd.out.mono ?_; rintro en w4 ⟨rfl, hr4, ha4⟩
          have HFin := Lib.hid (And.intro hr4 ((Aside.of_all HB3.out).trans ha4))
          clear hr4 ha4
          go_wp2_with fail
          go_end0
          exact ⟨rfl, HFin.out⟩
      · obtain rfl : X = .bad C A := by rw [← HX.out, if_pos hC]
        have tC : (C != 0) = true := by simpa using hC
        clear HX HF HK c0 c2 c4
        go_wp2_with fail
        exact ⟨rfl, rfl, Aside.of_all HB3.out⟩
    · have HB3 : Hid (Below w.heap.size w ((w2.setCell ⟨w.heap.size, 0, none⟩ (.int .i64 C)).setCell ⟨w.heap.size, 1, none⟩ (.int .i64 A))) := bel_set2 HBW.out (Nat.le_refl _) _ _
      have HR3 := Lib.hid (HH.out.later HB3.out)
      by_cases hC : C = 0
      · subst hC
        by_cases hEe : e < E
        · obtain rfl : X = .bad 4 s := by rw [← HX.out, if_neg (by simp), if_pos hEe]
          have HRn := Lib.hid (reach_no HR3.out E hEe)
          clear HX HF HK c0 c2 c4
          go_wp2_with fail
          refine HRn.out.mono ?_; rintro en w4 ⟨rfl, rfl⟩
          exact ⟨rfl, rfl, Aside.of_all HB3.out⟩
        · obtain rfl : X = .ok (N, true) E := by rw [← HX.out, if_neg (by simp), if_neg hEe]
          have HRy := Lib.hid (reach_yes HR3.out E hEe)
          have HAd := Lib.hid (show Calls Tryz.prog 138 #[.pointer (some ⟨r, 0, none⟩), .agg #[.string (bs N), .bool true], .int .i64 E] _ _ from add_any HR3.out (N, true) E hl)
          clear HX HF HK c0 c2 c4
          go_wp2_with fail
          refine HRy.out.mono ?_; rintro en w4 ⟨rfl, rfl⟩
          go_wp2_with fail
          refine HAd.out.mono ?_; rintro en w4 ⟨rfl, hr4, ha4⟩
          have HFin := Lib.hid (And.intro hr4 ((Aside.of_all HB3.out).trans ha4))
          clear hr4 ha4
          go_wp2_with fail
          go_end0
          exact ⟨rfl, HFin.out⟩
      · obtain rfl : X = .bad C A := by rw [← HX.out, if_pos hC]
        have tC : (C != 0) = true := by simpa using hC
        clear HX HF HK c0 c2 c4
        go_wp2_with fail
        exact ⟨rfl, rfl, Aside.of_all HB3.out⟩
end Go.Proofs.YtpdaekgldgoalaaGreat

/-
  A reader of data in memory: texts.
-/
namespace Go.Proofs.YtpdaekgldgoalaaGreat
open Go.RowKit Go.Shelf
set_option linter.unusedVariables false
set_option linter.unusedSimpArgs false
set_option maxRecDepth 100000

theorem txE_stop {b : List UInt8} {e n q : Nat} (h : e < q + 1) : txE b e n q = none := by
  cases n with
  | zero => rfl
  | succ n => rw [txE, if_pos h]

def txR (b : List UInt8) (s e p : Nat) : Option Nat → PR
  | none => .bad 4 s
  | some q => cutP b s e p q
theorem txR_step (F : Nat → Got) (b : List UInt8) (s e p : Nat) : stepP F b s e p .txt = txR b s e p (txE b e (e + 1) p) := by
  simp only [stepP]
  cases txE b e (e + 1) p <;> rfl

set_option maxHeartbeats 4000000 in
theorem textsR_any {w : World} {B r s p e : Nat} {vb vf : Value} {acc : List Pc} {b : List UInt8} {lo hi : Nat} {F : Nat → Got} (h : Rr w B r vb vf s p e acc) (hb : Sl w lo hi vb (iz b)) (he : e ≤ b.length) (hpe : p ≤ e) (hbl : b.length ≤ 1000000) (hl : acc.length + 1 ≤ 1000000) :
    Calls Tryz.prog 133 #[.pointer (some ⟨r, 0, none⟩)] w (StepPost w B r vb vf s e acc (stepP F b s e p .txt)) := by
  have HTk := Lib.hid (fun q hpq => take_any h hb he q hpq hl)
  have HRn := Lib.hid (fun q hq => reach_no h q hq)
  have HRy := Lib.hid (fun q hq => reach_yes h q hq)
  have c0 := h.c0
  have c2 := h.c2
  have c3 := h.c3
  have HS := Lib.hid hb
  obtain ⟨Y, hY⟩ : ∃ Y, txE b e (e + 1) p = Y := ⟨_, rfl⟩
  obtain ⟨X, hX⟩ : ∃ X, stepP F b s e p .txt = X := ⟨_, rfl⟩
  have HX := Lib.hid (show X = txR b s e p Y by rw [← hX, ← hY]; exact txR_step F b s e p)
  have HY := Lib.hid hY
  rw [hX]
  obtain ⟨av, cv, rfl, _⟩ := hb
  rw [iz_len] at c0 HTk ⊢
  simp only [iz_len] at HS
  clear hX hY h
  go_enter Tryz.func133, Tryz.ntmps133
  go_wp2_with fail
  go_loopg [2, 3] (e + 1 - p + 1) (fun g v2 v3 wr => ∃ (q : Nat) (m : Bool), v2 = .int .i64 q ∧ v3 = .bool m ∧ p ≤ q ∧ w = wr ∧ ((m = true ∧ q ≤ e ∧ g = e + 1 - q + 1 ∧ ∃ n, e < q + n ∧ Hid (txE b e n q = Y)) ∨ (m = false ∧ g = 0 ∧ Hid (Y = some q))))
  case atStart => exact ⟨p, true, rfl, rfl, Nat.le_refl _, rfl, .inl ⟨rfl, hpe, by omega, e + 1, by omega, HY⟩⟩
  case round =>
    obtain ⟨q, m, rfl, rfl, hpq, rfl, ⟨rfl, hqe, hg, n, hn, HT⟩ | ⟨rfl, hg, HT⟩⟩ := hrel
    · have hw1 : IntKind.i64.wrap ((q : Int) + 1) = ((q + 1 : Nat) : Int) := by rw [IntWalk.i64_in _ (by omega)]; push_cast; rfl
      by_cases hlt : e < q + 1
      · have hYn : Y = none := by rw [← HT.out]; exact txE_stop hlt
        subst hYn
        have hXn : X = .bad 4 s := HX.out
        subst hXn
        have HR := Lib.hid (HRn.out (q + 1) hlt)
        push_cast at HR
        go_wp2_with fail
        refine HR.out.mono ?_; rintro en w1 ⟨rfl, rfl⟩
        exact ⟨rfl, rfl, Aside.refl _ _⟩
      · have HR := Lib.hid (HRy.out (q + 1) hlt)
        push_cast at HR
        obtain ⟨g0, off, c', he0, hg0, hcell⟩ := HS.out.spot q (by rw [iz_len]; omega)
        rw [iz_len] at he0
        injection he0 with he1 he2 he3
        subst he1
        subst he3
        clear he2
        rw [iz_get b q (by omega)] at hcell
        have hgd : b.getD q 0 = b[q] := by rw [List.getD, List.getElem?_eq_getElem (by omega)]; rfl
        obtain ⟨k, rfl⟩ : ∃ k, n = k + 1 := ⟨n - 1, by omega⟩
        have hst := HT.out
        rw [txE, if_neg (by omega), hgd] at hst
        have hc8 : b[q].toNat < 256 := b[q].toNat_lt
        obtain ⟨z, hz⟩ : ∃ z, b[q].toNat = z := ⟨_, rfl⟩
        rw [hz] at hst hcell hc8
        simp only at hst
        have hqb : q < b.length := by omega
        clear hz hgd HT
        by_cases hmore : q + (1 + z) < e
        · rw [if_pos hmore] at hst
          have HST := Lib.hid hst
          have t1 : decide ((q : Int) + (1 + z) < e) = true := by simp; omega
          clear hst
          go_wp2_with fail
          refine HR.out.mono ?_; rintro en w1 ⟨rfl, rfl⟩
          go_wp2_with fail
          go_roundg (e + 1 - (q + (1 + z)) + 1)
          case measure => omega
          case rel => exact ⟨q + (1 + z), true, by go_num, rfl, by omega, rfl, .inl ⟨rfl, by omega, rfl, k, by omega, HST⟩⟩
        · rw [if_neg hmore] at hst
          have HST := Lib.hid hst.symm
          have t1 : decide ((q : Int) + (1 + z) < e) = false := by simp; omega
          clear hst
          go_wp2_with fail
          refine HR.out.mono ?_; rintro en w1 ⟨rfl, rfl⟩
          go_wp2_with fail
          go_roundg 0
          case measure => omega
          case rel => exact ⟨q + (1 + z), false, by go_num, rfl, by omega, rfl, .inr ⟨rfl, rfl, HST⟩⟩
    · have HC := Lib.hid (HTk.out q hpq)
      have hXq : X = cutP b s e p q := by have := HX.out; rw [HT.out] at this; exact this
      rw [← hXq] at HC
      clear hXq
      rcases X with ⟨x, qq⟩ | ⟨cc, aa⟩
      · have HCC := Lib.hid (show Calls Tryz.prog 134 #[.pointer (some ⟨r, 0, none⟩), .int .i64 q] w (Gone w B r (.slice av b.length cv) vf s e qq (acc ++ [x])) from HC.out)
        go_wp2_with fail
        refine HCC.out.mono ?_; rintro en w2 ⟨rfl, hr2, ha2⟩
        have HF := Lib.hid (And.intro hr2 ha2)
        clear hr2 ha2
        go_wp2_with fail
        go_end0
        exact ⟨rfl, HF.out⟩
      · have HCC := Lib.hid (show Calls Tryz.prog 134 #[.pointer (some ⟨r, 0, none⟩), .int .i64 q] w (Lost w B r cc aa) from HC.out)
        go_wp2_with fail
        refine HCC.out.mono ?_; rintro en w2 ⟨rfl, ha2⟩
        exact ⟨rfl, rfl, ha2⟩
end Go.Proofs.YtpdaekgldgoalaaGreat

/-
  The map of parts, in memory; parts.
-/
namespace Go.Proofs.YtpdaekgldgoalaaGreat
open Go.RowKit Go.Shelf
set_option linter.unusedVariables false
set_option linter.unusedSimpArgs false
set_option maxRecDepth 100000

theorem keyedI_ : Maps.Keyed Tryz.prog 3 := Maps.int_keyed Tryz.underlying3

/-- A value reads as itself. -/
def heldR (v : Value) : Option (DataW Value × List MemPlace) := some (.held v, [])

def vof (rows : List (Int × Value)) (t : Int) : Option Value := (rows.find? (fun p => p.1 == t)).map (·.2)
theorem vof_snoc (rows : List (Int × Value)) (k : Int) (v : Value) (t : Int) : vof (rows ++ [(k, v)]) t = (vof rows t).or (if k = t then some v else none) := by
  unfold vof
  rw [List.find?_append]
  obtain ⟨y, hy⟩ : ∃ y, rows.find? (fun p => p.1 == t) = y := ⟨_, rfl⟩
  rw [hy]
  cases y with
  | none => by_cases h : k = t <;> simp [h]
  | some x => rfl

/-- The map's datum tells these rows. -/
def RepM (D : DataW Value) (rows : List (Int × Value)) : Prop :=
  Maps.IsMap D ∧ ∀ t : Int, Maps.has D (.int .i64 t) = (vof rows t).isSome ∧ (∀ v, vof rows t = some v → ∀ z, D.atKey (.int .i64 t) z = .held v)

/-- Block bm is a map of these rows. -/
def Pm (w : World) (bm : Nat) (rows : List (Int × Value)) : Prop := ∃ D : DataW Value, w.ownsMap Tryz.prog 3 heldR bm rows.length D ∧ RepM D rows

theorem repM_put {D : DataW Value} {rows : List (Int × Value)} (h : RepM D rows) {k : Int} (hk : vof rows k = none) (v : Value) : RepM (D.put (.int .i64 k) (.held v)) (rows ++ [(k, v)]) := by
  refine ⟨h.1.put _ _, fun t => ?_⟩
  rw [vof_snoc]
  by_cases e : k = t
  · subst e
    rw [hk, if_pos rfl]
    refine ⟨by rw [Maps.has_put_same h.1 (by trivial)]; rfl, fun y hy z => ?_⟩
    have : v = y := by simpa using hy
    subst this
    exact Maps.atKey_put_same h.1 (by trivial) _ _
  · rw [if_neg e, Option.or_none]
    have hne : (Lit.int .i64 t) ≠ Lit.int .i64 k := fun h => e (by injection h with _ h; exact h.symm)
    refine ⟨by rw [Maps.has_put_other hne]; exact (h.2 t).1, fun y hy z => ?_⟩
    rw [Maps.atKey_put_other hne]
    exact (h.2 t).2 y hy z

theorem Pm.made (w : World) : Pm (w.alloc (.map #[] 0)) w.heap.size [] := ⟨.map [], World.ownsMap_made w Tryz.prog 3 heldR, Maps.isMap_empty, fun t => ⟨rfl, fun v h => by simp [vof] at h⟩⟩
theorem Pm.lt {w : World} {bm : Nat} {rows : List (Int × Value)} (h : Pm w bm rows) : bm < w.heap.size := let ⟨_, h, _⟩ := h; h.lt
theorem Pm.aside {G : Nat → Prop} {w w' : World} {bm : Nat} {rows : List (Int × Value)} (h : Pm w bm rows) (ha : Aside G w w') (hG : ¬ G bm) : Pm w' bm rows := by
  have hlt := h.lt
  obtain ⟨D, ⟨es, clock, hb, r⟩, hR⟩ := h
  exact ⟨D, ⟨es, clock, (ha.block bm hlt hG).trans hb, r⟩, hR⟩
theorem Pm.later {w w' : World} {bm : Nat} {rows : List (Int × Value)} (h : Pm w bm rows) (hb : Below w.heap.size w w') : Pm w' bm rows := h.aside (G := fun _ => False) (Aside.of_all hb) (fun h => h)

theorem Pm.store {w : World} {bm : Nat} {rows : List (Int × Value)} (h : Pm w bm rows) (k : Int) (hk : vof rows k = none) (hw : (Lit.int .i64 k).wf = true) (hl : rows.length ≤ 1000) (v : Value) :
    ∃ w', (Instr.mapUpdate 190 (.map (some bm)) (.int .i64 k) v).run Tryz.prog w = .ok () w' ∧ Pm w' bm (rows ++ [(k, v)]) ∧ Aside (fun b => b = bm) w w' := by
  obtain ⟨D, hM, hR⟩ := h
  obtain ⟨w', h1, h2, h3⟩ := hM.update keyedI_ Tryz.underlying190 (by unfold maxLen; omega) (kl := .int .i64 k) (d := .held v) (ps := []) (Maps.keyOf_int_mk Tryz.underlying3 hw) rfl
  exact ⟨w', h1, ⟨_, by rw [List.length_append]; exact h2, repM_put hR hk v⟩, Aside.grown h3 fun b hb => by injection hb with hb; exact hb.symm⟩

theorem zero_parts (w : World) : (zeroValue 188).run Tryz.prog w = .ok (.slice none 0 0) w := by kernel_rfl

theorem Pm.look {w : World} {bm : Nat} {rows : List (Int × Value)} (h : Pm w bm rows) (t : Int) (hw : (Lit.int .i64 t).wf = true) :
    (Instr.lookup 190 (.map (some bm)) (.int .i64 t) true).run Tryz.prog w = .ok (.tuple #[(vof rows t).getD (.slice none 0 0), .bool (vof rows t).isSome]) w := by
  obtain ⟨D, hM, hR⟩ := h
  obtain ⟨v, ps, hrun, hv⟩ := hM.look_ok keyedI_ Tryz.underlying190 (zero_parts w) (zd := .held (.slice none 0 0)) (zp := []) rfl (Maps.keyOf_int_mk Tryz.underlying3 hw)
  rw [(hR.2 t).1] at hrun
  rw [hrun]
  have hv2 : DataW.held v = D.atKey (.int .i64 t) (.held (.slice none 0 0)) := by
    unfold heldR at hv
    injection hv with hv
    injection hv with hv _
  have : v = (vof rows t).getD (.slice none 0 0) := by
    rcases hp : vof rows t with _ | x
    · have h3 := (hR.2 t).1
      rw [hp] at h3
      rw [Maps.atKey_of_not_has h3] at hv2
      injection hv2
    · rw [(hR.2 t).2 x hp] at hv2
      injection hv2
  rw [this]

/-- The function value of a part, in memory; m: the map's block. -/
def PV (W : World) (m : Nat) : PK → Value → Prop
  | .fix n, v => ∃ b, b ≠ m ∧ v = .func (.func 136) #[] #[.pointer (some ⟨b, 0, none⟩)] ∧ W.cell? ⟨b, 0, none⟩ = some (.int .i64 n)
  | .nam, v => v = .func (.func 132) #[] #[]
  | .txt, v => v = .func (.func 133) #[] #[]
  | .rst, v => v = .func (.func 127) #[] #[]

/-- A row of parts, in memory. -/
def RowK (W : World) (m : Nat) (v : Value) (ks : List PK) : Prop := ∃ g c, g ≠ m ∧ v = .slice (some ⟨g, 0, none⟩) ks.length c ∧ ∀ j (h : j < ks.length), ∃ u, W.cell? ⟨g, j, none⟩ = some u ∧ PV W m ks[j] u

theorem PV.aside {W W' : World} {m : Nat} {k : PK} {v : Value} {G : Nat → Prop} (h : PV W m k v) (ha : Aside G W W') (hG : ∀ b, b < W.heap.size → G b → b = m) : PV W' m k v := by
  cases k with
  | fix n =>
    obtain ⟨b, h1, h2, h3⟩ := h
    exact ⟨b, h1, h2, ha.cell_lt h3 fun hg => h1 (hG b (World.block_lt_of_cell? W _ h3) hg)⟩
  | nam => exact h
  | txt => exact h
  | rst => exact h
theorem RowK.aside {W W' : World} {m : Nat} {v : Value} {ks : List PK} {G : Nat → Prop} (h : RowK W m v ks) (ha : Aside G W W') (hG : ∀ b, b < W.heap.size → G b → b = m) : RowK W' m v ks := by
  obtain ⟨g, c, h1, h2, h3⟩ := h
  refine ⟨g, c, h1, h2, fun j hj => ?_⟩
  obtain ⟨u, h4, h5⟩ := h3 j hj
  exact ⟨u, ha.cell_lt h4 fun hg => h1 (hG g (World.block_lt_of_cell? W _ h4) hg), h5.aside ha hG⟩
theorem RowK.later {W W' : World} {m : Nat} {v : Value} {ks : List PK} (h : RowK W m v ks) (hb : Below W.heap.size W W') : RowK W' m v ks := h.aside (G := fun _ => False) (Aside.of_all hb) fun _ _ h => h.elim

/-- The map as it grows. -/
structure PMs (w W : World) (m : Nat) (rows : List (Int × Value)) : Prop where
  map : Pm W m rows
  row : ∀ p ∈ rows, RowK W m p.2 (kinds p.1)
  bel : Below w.heap.size w W
  old : w.heap.size ≤ m

theorem PMs.later {w W W' : World} {m : Nat} {rows : List (Int × Value)} (h : PMs w W m rows) (hb : Below W.heap.size W W') : PMs w W' m rows :=
  ⟨h.map.later hb, fun p hp => (h.row p hp).later hb, bel_call h.bel hb, h.old⟩

theorem PMs.step {w W W1 : World} {m : Nat} {rows : List (Int × Value)} (h : PMs w W m rows) (hb : Below W.heap.size W W1) (t : Int) (v : Value) (hrow : RowK W1 m v (kinds t)) (hn : vof rows t = none) (hw : (Lit.int .i64 t).wf = true) (hl : rows.length ≤ 1000) :
    ∃ W2, (Instr.mapUpdate 190 (.map (some m)) (.int .i64 t) v).run Tryz.prog W1 = .ok () W2 ∧ PMs w W2 m (rows ++ [(t, v)]) := by
  have h1 := h.later hb
  obtain ⟨W2, r1, r2, r3⟩ := h1.map.store t hn hw hl v
  refine ⟨W2, r1, r2, fun p hp => ?_, below_aside h1.bel r3 fun b hb => ⟨Nat.lt_of_lt_of_le hb h1.bel.size, by have := h1.old; omega⟩, h1.old⟩
  rcases List.mem_append.mp hp with hp | hp
  · exact (h1.row p hp).aside r3 fun _ _ h => h
  · obtain rfl := List.mem_singleton.mp hp
    exact hrow.aside r3 fun _ _ h => h

/-- What parts leaves: a map in which each type's parts are found. -/
def PartsPost (w : World) (e : Ending) (w' : World) : Prop :=
  ∃ m, e = .returned (.map (some m)) ∧ Below w.heap.size w w' ∧ ∀ t : Int, (Lit.int .i64 t).wf = true →
    (kinds t = [.rst] ∧ (Instr.lookup 190 (.map (some m)) (.int .i64 t) true).run Tryz.prog w' = .ok (.tuple #[.slice none 0 0, .bool false]) w') ∨
    (∃ v, RowK w' m v (kinds t) ∧ (Instr.lookup 190 (.map (some m)) (.int .i64 t) true).run Tryz.prog w' = .ok (.tuple #[v, .bool true]) w')

theorem parts_fin {w W : World} {m : Nat} {rows : List (Int × Value)} (h : PMs w W m rows) (hk : rows.map (·.1) = [1, 28, 2, 5, 12, 15, 6, 16]) : PartsPost w (.returned (.map (some m))) W := by
  refine ⟨m, rfl, h.bel, fun t hw => ?_⟩
  have hl := h.map.look t hw
  rcases hv : vof rows t with _ | v
  · rw [hv] at hl
    refine .inl ⟨?_, hl⟩
    have hno : ∀ x ∈ rows.map (·.1), x ≠ t := by
      intro x hx e
      subst e
      obtain ⟨p, hp, rfl⟩ := List.mem_map.mp hx
      unfold vof at hv
      have := List.find?_eq_none.mp (Option.map_eq_none_iff.mp hv) p hp
      simp at this
    rw [hk] at hno
    have a1 := hno 1 (by simp)
    have a2 := hno 28 (by simp)
    have a3 := hno 2 (by simp)
    have a4 := hno 5 (by simp)
    have a5 := hno 12 (by simp)
    have a6 := hno 15 (by simp)
    have a7 := hno 6 (by simp)
    have a8 := hno 16 (by simp)
    unfold kinds
    rw [if_neg (fun e => a1 e.symm), if_neg (fun e => a2 e.symm), if_neg (by rintro (e | e | e) <;> simp_all), if_neg (fun e => a6 e.symm), if_neg (fun e => a7 e.symm), if_neg (fun e => a8 e.symm)]
  · rw [hv] at hl
    refine .inr ⟨v, ?_, hl⟩
    unfold vof at hv
    obtain ⟨p, hp, rfl⟩ := Option.map_eq_some_iff.mp hv
    have h1 := List.mem_of_find?_eq_some hp
    have h2 := List.find?_some hp
    have h3 : p.1 = t := by simpa using h2
    rw [← h3]
    exact h.row p h1
end Go.Proofs.YtpdaekgldgoalaaGreat

/-
  parts: walked.
-/
namespace Go.Proofs.YtpdaekgldgoalaaGreat
open Go.RowKit Go.Shelf
set_option linter.unusedVariables false
set_option linter.unusedSimpArgs false
set_option maxRecDepth 100000

theorem row_f4 {W : World} {m : Nat} (hm : m < W.heap.size) : RowK ((W.alloc (.cells #[.int .i64 4] 3)).alloc (.cells #[.func (.func 136) #[] #[.pointer (some ⟨W.heap.size, 0, none⟩)]] 194)) m (.slice (some ⟨W.heap.size + 1, 0, none⟩) 1 1) [.fix 4] ∧ Below W.heap.size W ((W.alloc (.cells #[.int .i64 4] 3)).alloc (.cells #[.func (.func 136) #[] #[.pointer (some ⟨W.heap.size, 0, none⟩)]] 194)) := by
  refine ⟨⟨W.heap.size + 1, 1, by omega, rfl, fun j hj => ?_⟩, ((Below.refl _ _).alloc (Nat.le_refl _) _).alloc (by simp) _⟩
  match j, hj with
  | 0, _ => exact ⟨_, by simp [go_sem], ⟨W.heap.size, by omega, rfl, by simp [go_sem]⟩⟩
  | j + 1, hj => simp only [List.length_cons, List.length_nil] at hj; omega

theorem row_f16 {W : World} {m : Nat} (hm : m < W.heap.size) : RowK ((W.alloc (.cells #[.int .i64 16] 3)).alloc (.cells #[.func (.func 136) #[] #[.pointer (some ⟨W.heap.size, 0, none⟩)]] 194)) m (.slice (some ⟨W.heap.size + 1, 0, none⟩) 1 1) [.fix 16] ∧ Below W.heap.size W ((W.alloc (.cells #[.int .i64 16] 3)).alloc (.cells #[.func (.func 136) #[] #[.pointer (some ⟨W.heap.size, 0, none⟩)]] 194)) := by
  refine ⟨⟨W.heap.size + 1, 1, by omega, rfl, fun j hj => ?_⟩, ((Below.refl _ _).alloc (Nat.le_refl _) _).alloc (by simp) _⟩
  match j, hj with
  | 0, _ => exact ⟨_, by simp [go_sem], ⟨W.heap.size, by omega, rfl, by simp [go_sem]⟩⟩
  | j + 1, hj => simp only [List.length_cons, List.length_nil] at hj; omega

theorem row_n {W : World} {m : Nat} (hm : m < W.heap.size) : RowK (W.alloc (.cells #[.func (.func 132) #[] #[]] 194)) m (.slice (some ⟨W.heap.size, 0, none⟩) 1 1) [.nam] ∧ Below W.heap.size W (W.alloc (.cells #[.func (.func 132) #[] #[]] 194)) := by
  refine ⟨⟨W.heap.size, 1, by omega, rfl, fun j hj => ?_⟩, (Below.refl _ _).alloc (Nat.le_refl _) _⟩
  match j, hj with
  | 0, _ => exact ⟨_, by simp [go_sem], rfl⟩
  | j + 1, hj => simp only [List.length_cons, List.length_nil] at hj; omega

theorem row_t {W : World} {m : Nat} (hm : m < W.heap.size) : RowK (W.alloc (.cells #[.func (.func 133) #[] #[]] 194)) m (.slice (some ⟨W.heap.size, 0, none⟩) 1 1) [.txt] ∧ Below W.heap.size W (W.alloc (.cells #[.func (.func 133) #[] #[]] 194)) := by
  refine ⟨⟨W.heap.size, 1, by omega, rfl, fun j hj => ?_⟩, (Below.refl _ _).alloc (Nat.le_refl _) _⟩
  match j, hj with
  | 0, _ => exact ⟨_, by simp [go_sem], rfl⟩
  | j + 1, hj => simp only [List.length_cons, List.length_nil] at hj; omega

theorem row_m {W : World} {m : Nat} (hm : m < W.heap.size) : RowK ((W.alloc (.cells #[.int .i64 2] 3)).alloc (.cells #[.func (.func 136) #[] #[.pointer (some ⟨W.heap.size, 0, none⟩)], .func (.func 132) #[] #[]] 194)) m (.slice (some ⟨W.heap.size + 1, 0, none⟩) 2 2) [.fix 2, .nam] ∧ Below W.heap.size W ((W.alloc (.cells #[.int .i64 2] 3)).alloc (.cells #[.func (.func 136) #[] #[.pointer (some ⟨W.heap.size, 0, none⟩)], .func (.func 132) #[] #[]] 194)) := by
  refine ⟨⟨W.heap.size + 1, 2, by omega, rfl, fun j hj => ?_⟩, ((Below.refl _ _).alloc (Nat.le_refl _) _).alloc (by simp) _⟩
  match j, hj with
  | 0, _ => exact ⟨_, by simp [go_sem], ⟨W.heap.size, by omega, rfl, by simp [go_sem]⟩⟩
  | 1, _ => exact ⟨_, by simp [go_sem], rfl⟩
  | j + 2, hj => simp only [List.length_cons, List.length_nil] at hj; omega

theorem row_s {W : World} {m : Nat} (hm : m < W.heap.size) : RowK ((W.alloc (.cells #[.int .i64 20] 3)).alloc (.cells #[.func (.func 132) #[] #[], .func (.func 132) #[] #[], .func (.func 136) #[] #[.pointer (some ⟨W.heap.size, 0, none⟩)]] 194)) m (.slice (some ⟨W.heap.size + 1, 0, none⟩) 3 3) [.nam, .nam, .fix 20] ∧ Below W.heap.size W ((W.alloc (.cells #[.int .i64 20] 3)).alloc (.cells #[.func (.func 132) #[] #[], .func (.func 132) #[] #[], .func (.func 136) #[] #[.pointer (some ⟨W.heap.size, 0, none⟩)]] 194)) := by
  refine ⟨⟨W.heap.size + 1, 3, by omega, rfl, fun j hj => ?_⟩, ((Below.refl _ _).alloc (Nat.le_refl _) _).alloc (by simp) _⟩
  match j, hj with
  | 0, _ => exact ⟨_, by simp [go_sem], rfl⟩
  | 1, _ => exact ⟨_, by simp [go_sem], rfl⟩
  | 2, _ => exact ⟨_, by simp [go_sem], ⟨W.heap.size, by omega, rfl, by simp [go_sem]⟩⟩
  | j + 3, hj => simp only [List.length_cons, List.length_nil] at hj; omega

theorem pms_size {w W : World} {m : Nat} {rows : List (Int × Value)} (h : PMs w W m rows) : m < W.heap.size := h.map.lt

set_option maxHeartbeats 4000000 in
theorem parts_any (w : World) : Calls Tryz.prog 126 #[] w (PartsPost w) := by
  have hmm := run_makeMap (P := Tryz.prog) 190 w
  have P0 : PMs w (w.alloc (.map #[] 0)) w.heap.size [] := ⟨Pm.made w, fun p hp => by simp at hp, (Below.refl _ _).alloc (Nat.le_refl _) _, Nat.le_refl _⟩
  obtain ⟨W0, hW0⟩ : ∃ W0, w.alloc (.map #[] 0) = W0 := ⟨_, rfl⟩
  obtain ⟨m, hm⟩ : ∃ m, w.heap.size = m := ⟨_, rfl⟩
  rw [hW0] at hmm P0
  have HM := Lib.hid hm
  rw [hm] at hmm P0
  clear hW0 hm
  obtain ⟨W1, r1, P1⟩ := P0.step (row_f4 (pms_size P0)).2 1 _ (row_f4 (pms_size P0)).1 rfl (by decide) (by simp)
  obtain ⟨W2, r2, P2⟩ := P1.step (row_f16 (pms_size P1)).2 28 _ (row_f16 (pms_size P1)).1 rfl (by decide) (by simp)
  obtain ⟨W3, r3, P3⟩ := P2.step (row_n (pms_size P2)).2 2 _ (row_n (pms_size P2)).1 rfl (by decide) (by simp)
  obtain ⟨W4, r4, P4⟩ := P3.step (row_n (pms_size P3)).2 5 _ (row_n (pms_size P3)).1 rfl (by decide) (by simp)
  obtain ⟨W5, r5, P5⟩ := P4.step (row_n (pms_size P4)).2 12 _ (row_n (pms_size P4)).1 rfl (by decide) (by simp)
  obtain ⟨W6, r6, P6⟩ := P5.step (row_m (pms_size P5)).2 15 _ (row_m (pms_size P5)).1 rfl (by decide) (by simp)
  obtain ⟨W7, r7, P7⟩ := P6.step (row_s (pms_size P6)).2 6 _ (row_s (pms_size P6)).1 rfl (by decide) (by simp)
  obtain ⟨W8, r8, P8⟩ := P7.step (row_t (pms_size P7)).2 16 _ (row_t (pms_size P7)).1 rfl (by decide) (by simp)
  have HP := Lib.hid (parts_fin P8 rfl)
  have R1 := r1
  clear P0 P1 P2 P3 P4 P5 P6 P7 P8 R1
  go_enter Tryz.func126, Tryz.ntmps126
  go_wp2_with (go_at_call 131; refine (fixed_any _ _).mono ?_; rintro e w1 ⟨rfl, rfl⟩)
  go_ret
  exact HP.out
end Go.Proofs.YtpdaekgldgoalaaGreat

/-
  The deferred function that recovers a part that does not fit.
-/
namespace Go.Proofs.YtpdaekgldgoalaaGreat
open Go.RowKit Go.Shelf
set_option linter.unusedVariables false
set_option linter.unusedSimpArgs false
set_option maxRecDepth 100000

theorem tam_nil (w : World) : (Instr.typeAssert .nilIface 20 186 true).run Tryz.prog w = .ok (.tuple #[.agg #[.int .i64 0, .int .i64 0], .bool false]) w := by kernel_rfl
theorem tam_mis (e a : Int) (w : World) : (Instr.typeAssert (.iface 186 (.agg #[.int .i64 e, .int .i64 a])) 20 186 true).run Tryz.prog w = .ok (.tuple #[.agg #[.int .i64 e, .int .i64 a], .bool true]) w := by kernel_rfl

theorem mcatch_idle (p q : Addr) (w : World) :
    CallsD Tryz.prog 125 #[.pointer (some p), .pointer (some q)] .returning w fun e u' w' => e = .returned (.tuple #[]) ∧ u' = .returning ∧ w' = w.alloc (.cells #[.int .i64 0, .int .i64 0] 186) := by
  refine callsD_of_wpS Tryz.func125 rfl fun c₀ cs hu => ?_
  simp only [Tryz.ntmps125, List.size_toArray, List.length_cons, List.length_nil, Nat.reduceAdd, Nat.reduceSub, Array.replicate_succ, Array.replicate_zero, List.push_toArray, List.append_toArray, List.nil_append, List.cons_append]
  apply wpS_seq
  apply wpS_region
  simp [wpOpsS, go_sem, recoverD, hu, Exit.thenS, tam_nil]
  refine wpS_of_wp ?_
  go_wp2
  cases c₀
  simp_all [bodyPostS, results, Tryz.results125]

/-- What a part that does not fit leaves. -/
def CaughtM (b2 b3 : Nat) (e a : Int) (w w' : World) : Prop :=
  Aside (fun b => b = b2 ∨ b = b3) w w' ∧ w'.cell? ⟨b2, 0, none⟩ = some (.slice none 0 0) ∧ w'.cell? ⟨b3, 0, none⟩ = some (.int .i64 e) ∧ w'.cell? ⟨b3, 1, none⟩ = some (.int .i64 a)

theorem mcatch_fault (b2 b3 : Nat) (hne : b2 ≠ b3) (e a : Int) (w : World) (u : Value) (hp : w.cell? ⟨b2, 0, none⟩ = some u) (h0 : w.cell? ⟨b3, 0, none⟩ = some (.int .i64 0)) (h1 : w.cell? ⟨b3, 1, none⟩ = some (.int .i64 0))
    (hf2 : ∀ j, w.frozen? ⟨b2, j, none⟩ = false) (hf3 : ∀ j, w.frozen? ⟨b3, j, none⟩ = false) :
    CallsD Tryz.prog 125 #[.pointer (some ⟨b2, 0, none⟩), .pointer (some ⟨b3, 0, none⟩)] (.panicking [{ v := .iface 186 (.agg #[.int .i64 e, .int .i64 a]), recovered := false }]) w fun en u' w' =>
      en = .returned (.tuple #[]) ∧ u' = .panicking [{ v := .iface 186 (.agg #[.int .i64 e, .int .i64 a]), recovered := true }] ∧ CaughtM b2 b3 e a w w' := by
  refine callsD_of_wpS Tryz.func125 rfl fun c₀ cs hu => ?_
  simp only [Tryz.ntmps125, List.size_toArray, List.length_cons, List.length_nil, Nat.reduceAdd, Nat.reduceSub, Array.replicate_succ, Array.replicate_zero, List.push_toArray, List.append_toArray, List.nil_append, List.cons_append]
  apply wpS_seq
  apply wpS_region
  simp [wpOpsS, go_sem, recoverD, hu, Exit.thenS, tam_mis]
  refine wpS_of_wp ?_
  have hl2 : b2 < w.heap.size := World.block_lt_of_cell? w _ hp
  have hl3 : b3 < w.heap.size := World.block_lt_of_cell? w _ h0
  obtain ⟨W, hW⟩ : ∃ W, (w.alloc (.cells #[.int .i64 e, .int .i64 a] 186)).drew = W := ⟨_, rfl⟩
  have hbel : Below w.heap.size w W := by rw [← hW]; exact ((Below.refl _ w).alloc (Nat.le_refl _) _).drew
  have g2 : W.cell? ⟨b2, 0, none⟩ = some u := (hbel.cell hl2).trans hp
  have g30 : W.cell? ⟨b3, 0, none⟩ = some (.int .i64 0) := (hbel.cell hl3).trans h0
  have g31 : W.cell? ⟨b3, 1, none⟩ = some (.int .i64 0) := (hbel.cell hl3).trans h1
  have f2 : ∀ j, W.frozen? ⟨b2, j, none⟩ = false := fun j => (hbel.frozen (p := ⟨b2, j, none⟩) hl2).trans (hf2 j)
  have f3 : ∀ j, W.frozen? ⟨b3, j, none⟩ = false := fun j => (hbel.frozen (p := ⟨b3, j, none⟩) hl3).trans (hf3 j)
  obtain ⟨g, hg⟩ : ∃ g, w.heap.size = g := ⟨_, rfl⟩
  have n0 : W.cell? ⟨g, 0, none⟩ = some (.int .i64 e) := by rw [← hW, ← hg]; simp [go_sem]
  have n1 : W.cell? ⟨g, 1, none⟩ = some (.int .i64 a) := by rw [← hW, ← hg]; simp [go_sem]
  have hne2 : ¬ g = b2 := by omega
  have hne3 : ¬ b3 = b2 := fun h => hne h.symm
  have HC : Hid (CaughtM b2 b3 e a w (((W.setCell ⟨b2, 0, none⟩ (.slice none 0 0)).setCell ⟨b3, 0, none⟩ (.int .i64 e)).setCell ⟨b3, 1, none⟩ (.int .i64 a))) := by
    have x2 := World.cell?_setCell_same W ⟨b2, 0, none⟩ (.slice none 0 0) g2
    have y0 : (W.setCell ⟨b2, 0, none⟩ (.slice none 0 0)).cell? ⟨b3, 0, none⟩ = some (.int .i64 0) := by rw [World.cell?_setCell_other _ _ _ _ (by simp [hne3])]; exact g30
    have y1 : (W.setCell ⟨b2, 0, none⟩ (.slice none 0 0)).cell? ⟨b3, 1, none⟩ = some (.int .i64 0) := by rw [World.cell?_setCell_other _ _ _ _ (by simp [hne3])]; exact g31
    obtain ⟨z0, z1⟩ := res_set (.int .i64 e) (.int .i64 a) y0 y1
    refine ⟨?_, ?_, ?_, z1⟩
    · exact (((Aside.of_all hbel).trans (Aside.setCell _ _ (.inl rfl))).trans (Aside.setCell _ _ (.inr rfl))).trans (Aside.setCell _ _ (.inr rfl))
    · rw [World.cell?_setCell_other _ _ _ _ (by simp [hne]), World.cell?_setCell_other _ _ _ _ (by simp [hne])]
      exact x2
    · rw [World.cell?_setCell_other _ _ _ _ (by simp)]
      exact z0
  clear hbel
  go_wp2
  go_region
  exact ⟨rfl, _, rfl, .tuple #[], by simp [results, Tryz.results125], rfl, rfl, HC.out⟩

/-! ### plain -/
theorem kinds_small (t : Int) : (kinds t).length ≤ 3 ∧ ∀ k ∈ kinds t, ∀ n, k = .fix n → n ≤ 20 := by
  unfold kinds
  repeat' split
  all_goals simp

theorem step_le {F : Nat → Got} {b : List UInt8} {s e p : Nat} (hp : p ≤ e) {k : PK} {x : Pc} {q : Nat} (h : stepP F b s e p k = .ok x q) : q ≤ e := by
  cases k with
  | fix n => simp only [stepP, cutP] at h; split at h <;> simp at h; omega
  | nam =>
    simp only [stepP] at h
    split at h
    · simp at h
    · split at h
      · simp at h
      · split at h
        · simp at h
        · rename_i h3; injection h with h1 h2; omega
  | txt =>
    rw [txR_step] at h
    cases hy : txE b e (e + 1) p with
    | none => rw [hy] at h; simp [txR] at h
    | some y => rw [hy] at h; simp only [txR, cutP] at h; split at h <;> simp at h; omega
  | rst => simp only [stepP, cutP] at h; split at h <;> simp at h; omega

/-- What read tells. -/
def ReadPost (w : World) (R : RR) (en : Ending) (w' : World) : Prop :=
  ∃ v, en = .returned (.tuple #[v, .agg #[.int .i64 R.code, .int .i64 R.place]]) ∧ OwnP w' w.heap.size v R.pcs ∧ Below w.heap.size w w'
end Go.Proofs.YtpdaekgldgoalaaGreat
