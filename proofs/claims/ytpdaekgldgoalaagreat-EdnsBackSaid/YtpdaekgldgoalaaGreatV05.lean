/-
  read: the data of a type, part by part.
-/
import Derived.Test.YtpdaekgldgoalaaGreatV04
namespace Go.Proofs.YtpdaekgldgoalaaGreat
open Go.RowKit Go.Shelf
set_option linter.unusedVariables false
set_option linter.unusedSimpArgs false
set_option maxRecDepth 100000

theorem row_r {W : World} : RowK (W.alloc (.cells #[.func (.func 127) #[] #[]] 194)) (W.heap.size + 1) (.slice (some ⟨W.heap.size, 0, none⟩) 1 1) [.rst] ∧ Below W.heap.size W (W.alloc (.cells #[.func (.func 127) #[] #[]] 194)) := by
  refine ⟨⟨W.heap.size, 1, by omega, rfl, fun j hj => ?_⟩, (Below.refl _ _).alloc (Nat.le_refl _) _⟩
  match j, hj with
  | 0, _ => exact ⟨_, by simp [go_sem], rfl⟩
  | j + 1, hj => simp only [List.length_cons, List.length_nil] at hj; omega

/-- A row of parts is as it was, while a reader goes along. -/
theorem RowK.over {w4 wr : World} {m r B n c : Nat} {v : Value} {a : Option Addr} {ks : List PK} (h : RowK w4 m v ks) (h0 : 0 < ks.length) (hc : w4.cell? ⟨r, 0, none⟩ = some (.slice a n c)) (hB : w4.heap.size ≤ B) (ha : Aside (RG B r) w4 wr) : RowK wr m v ks := by
  obtain ⟨g, cc, h1, h2, h3⟩ := h
  have hgr : g ≠ r := by
    obtain ⟨u, hu, hp⟩ := h3 0 h0
    intro e
    subst e
    rw [hc] at hu
    injection hu with hu
    subst hu
    cases hk : ks[0] with
    | fix n => rw [hk] at hp; obtain ⟨b, _, hp, _⟩ := hp; cases hp
    | nam => rw [hk] at hp; cases hp
    | txt => rw [hk] at hp; cases hp
    | rst => rw [hk] at hp; cases hp
  refine ⟨g, cc, h1, h2, fun j hj => ?_⟩
  obtain ⟨u, hu, hp⟩ := h3 j hj
  have hno : ∀ b, b < w4.heap.size → b ≠ r → ¬ RG B r b := fun b hb hr hg => by
    rcases hg with hg | hg
    · exact hr hg
    · omega
  refine ⟨u, ha.cell_lt hu (hno g (World.block_lt_of_cell? _ _ hu) hgr), ?_⟩
  cases hk : ks[j] with
  | fix n =>
    rw [hk] at hp
    obtain ⟨b, b1, b2, b3⟩ := hp
    refine ⟨b, b1, b2, ha.cell_lt b3 (hno b (World.block_lt_of_cell? _ _ b3) fun e => ?_)⟩
    subst e
    rw [hc] at b3
    cases b3
  | nam => rw [hk] at hp; exact hp
  | txt => rw [hk] at hp; exact hp
  | rst => rw [hk] at hp; exact hp

/-- What a reader has at its loop's head. -/
theorem rd_setup {w w4 : World} {f s p e lo hi n c : Nat} {av : Option Addr} {b : List UInt8} {F : Nat → Got} {vf : Value}
    (hb : Below (((w.alloc (.cells #[.slice av n c, .int .i64 s, .int .i64 p, .int .i64 e, vf, .slice none 0 0] 182)).alloc (.cells #[.slice none 0 0] 172)).alloc (.cells #[.int .i64 0, .int .i64 0] 47)).heap.size
      (((w.alloc (.cells #[.slice av n c, .int .i64 s, .int .i64 p, .int .i64 e, vf, .slice none 0 0] 182)).alloc (.cells #[.slice none 0 0] 172)).alloc (.cells #[.int .i64 0, .int .i64 0] 47)) w4)
    (hS : Sl w lo hi (.slice av n c) (iz b)) (hhi : hi ≤ w.heap.size) (hfind : ∀ wx, Sl wx lo hi (.slice av n c) (iz b) → hi ≤ wx.heap.size → ∀ p : Nat, Calls Tryz.prog f #[.slice av n c, .int .i64 p] wx (Tells wx (gotV (F p)))) :
    Rr w4 w4.heap.size w.heap.size (.slice av n c) vf s p e [] ∧ w4.cell? ⟨w.heap.size, 0, none⟩ = some (.slice av n c) ∧
    (∀ wx, Aside (RG w4.heap.size w.heap.size) w4 wx → wx.cell? ⟨w.heap.size + 1, 0, none⟩ = some (.slice none 0 0) ∧ wx.cell? ⟨w.heap.size + 1 + 1, 0, none⟩ = some (.int .i64 0) ∧ wx.cell? ⟨w.heap.size + 1 + 1, 1, none⟩ = some (.int .i64 0) ∧ (∀ j, wx.frozen? ⟨w.heap.size + 1, j, none⟩ = false) ∧ ∀ j, wx.frozen? ⟨w.heap.size + 1 + 1, j, none⟩ = false) ∧
    (∀ wx, Aside (RG w4.heap.size w.heap.size) w4 wx → Sl wx lo hi (.slice av n c) (iz b)) ∧
    FindOk w4 w4.heap.size w.heap.size f (.slice av n c) F ∧
    (∀ wx w9 (cc : Int) (aa : Nat), Aside (RG w4.heap.size w.heap.size) w4 wx → CaughtM (w.heap.size + 1) (w.heap.size + 1 + 1) cc aa wx w9 → ReadPost w (.bad cc aa) (.returned (.tuple #[.slice none 0 0, .agg #[.int .i64 cc, .int .i64 aa]])) w9) ∧
    (∀ wr vp acc, Aside (RG w4.heap.size w.heap.size) w4 wr → OwnP wr w4.heap.size vp acc → ∃ Wf, Wf = (((wr.setCell ⟨w.heap.size + 1, 0, none⟩ vp).setCell ⟨w.heap.size + 1 + 1, 0, none⟩ (.int .i64 0)).setCell ⟨w.heap.size + 1 + 1, 1, none⟩ (.int .i64 0)) ∧ Wf.cell? ⟨w.heap.size + 1, 0, none⟩ = some vp ∧ Wf.cell? ⟨w.heap.size + 1 + 1, 0, none⟩ = some (.int .i64 0) ∧ Wf.cell? ⟨w.heap.size + 1 + 1, 1, none⟩ = some (.int .i64 0) ∧ OwnP Wf w.heap.size vp acc ∧ Below w.heap.size w Wf) := by
  obtain ⟨W0, hW0⟩ : ∃ W0, (((w.alloc (.cells #[.slice av n c, .int .i64 s, .int .i64 p, .int .i64 e, vf, .slice none 0 0] 182)).alloc (.cells #[.slice none 0 0] 172)).alloc (.cells #[.int .i64 0, .int .i64 0] 47)) = W0 := ⟨_, rfl⟩
  have hsz : W0.heap.size = w.heap.size + 1 + 1 + 1 := by rw [← hW0]; simp
  have hbw : Below w.heap.size w W0 := by rw [← hW0]; exact (((Below.refl _ w).alloc (Nat.le_refl _) _).alloc (by simp) _).alloc (by simp; omega) _
  have q0 : W0.cell? ⟨w.heap.size, 0, none⟩ = some (.slice av n c) := by rw [← hW0]; simp [go_sem]
  have q1 : W0.cell? ⟨w.heap.size, 1, none⟩ = some (.int .i64 s) := by rw [← hW0]; simp [go_sem]
  have q2 : W0.cell? ⟨w.heap.size, 2, none⟩ = some (.int .i64 p) := by rw [← hW0]; simp [go_sem]
  have q3 : W0.cell? ⟨w.heap.size, 3, none⟩ = some (.int .i64 e) := by rw [← hW0]; simp [go_sem]
  have q4 : W0.cell? ⟨w.heap.size, 4, none⟩ = some vf := by rw [← hW0]; simp [go_sem]
  have q5 : W0.cell? ⟨w.heap.size, 5, none⟩ = some (.slice none 0 0) := by rw [← hW0]; simp [go_sem]
  have qf : ∀ j, W0.frozen? ⟨w.heap.size, j, none⟩ = false := by intro j; rw [← hW0]; simp [go_sem]
  have z0 : W0.cell? ⟨w.heap.size + 1, 0, none⟩ = some (.slice none 0 0) := by rw [← hW0]; simp [go_sem]
  have z1 : W0.cell? ⟨w.heap.size + 1 + 1, 0, none⟩ = some (.int .i64 0) := by rw [← hW0]; simp [go_sem]
  have z2 : W0.cell? ⟨w.heap.size + 1 + 1, 1, none⟩ = some (.int .i64 0) := by rw [← hW0]; simp [go_sem]
  have z3 : ∀ j, W0.frozen? ⟨w.heap.size + 1, j, none⟩ = false := by intro j; rw [← hW0]; simp [go_sem]
  have z4 : ∀ j, W0.frozen? ⟨w.heap.size + 1 + 1, j, none⟩ = false := by intro j; rw [← hW0]; simp [go_sem]
  rw [hW0] at hb
  clear hW0
  have hs4 := hb.size
  have hb4 : Below w.heap.size w w4 := bel_call hbw hb
  have hKC : ∀ wx, Aside (RG w4.heap.size w.heap.size) w4 wx → wx.cell? ⟨w.heap.size + 1, 0, none⟩ = some (.slice none 0 0) ∧ wx.cell? ⟨w.heap.size + 1 + 1, 0, none⟩ = some (.int .i64 0) ∧ wx.cell? ⟨w.heap.size + 1 + 1, 1, none⟩ = some (.int .i64 0) ∧ (∀ j, wx.frozen? ⟨w.heap.size + 1, j, none⟩ = false) ∧ ∀ j, wx.frozen? ⟨w.heap.size + 1 + 1, j, none⟩ = false := by
    intro wx ha
    have n2 : ¬ RG w4.heap.size w.heap.size (w.heap.size + 1) := by unfold RG; omega
    have n3 : ¬ RG w4.heap.size w.heap.size (w.heap.size + 1 + 1) := by unfold RG; omega
    exact ⟨ha.cell_lt (cell_later hb z0) n2, ha.cell_lt (cell_later hb z1) n3, ha.cell_lt (cell_later hb z2) n3, fun j => (ha.frozen (p := ⟨w.heap.size + 1, j, none⟩) (by show w.heap.size + 1 < _; omega) n2).trans ((hb.frozen (p := ⟨w.heap.size + 1, j, none⟩) (by show w.heap.size + 1 < _; omega)).trans (z3 j)), fun j => (ha.frozen (p := ⟨w.heap.size + 1 + 1, j, none⟩) (by show w.heap.size + 1 + 1 < _; omega) n3).trans ((hb.frozen (p := ⟨w.heap.size + 1 + 1, j, none⟩) (by show w.heap.size + 1 + 1 < _; omega)).trans (z4 j))⟩
  have hSL : ∀ wx, Aside (RG w4.heap.size w.heap.size) w4 wx → Sl wx lo hi (.slice av n c) (iz b) := fun wx ha =>
    (hS.below hb4 hhi).keep fun b o _ h2 => ha.cell (p := ⟨b, o, none⟩) (by show b < _; omega) (by show ¬ RG _ _ b; unfold RG; omega)
  refine ⟨⟨cell_later hb q0, cell_later hb q1, cell_later hb q2, cell_later hb q3, cell_later hb q4, ⟨_, cell_later hb q5, OwnP.nil _ _⟩, fun j => (hb.frozen (p := ⟨w.heap.size, j, none⟩) (by show w.heap.size < _; omega)).trans (qf j), by omega, Nat.le_refl _⟩, cell_later hb q0, hKC, hSL, fun wx ha p => hfind wx (hSL wx ha) (by have := ha.size; omega) p, ?_, ?_⟩
  · intro wx w9 cc aa ha hc
    have hx : Below w.heap.size w wx := below_aside hb4 ha fun b hb => ⟨by omega, by unfold RG; omega⟩
    exact ⟨_, rfl, OwnP.nil _ _, below_aside hx hc.1 fun b hb => ⟨by have := ha.size; omega, by omega⟩⟩
  · intro wr vp acc ha hown
    obtain ⟨k0, k1, k2, _, _⟩ := hKC wr ha
    have hx : Below w.heap.size w wr := below_aside hb4 ha fun b hb => ⟨by omega, by unfold RG; omega⟩
    have x0 := World.cell?_setCell_same wr ⟨w.heap.size + 1, 0, none⟩ vp k0
    have y0 : (wr.setCell ⟨w.heap.size + 1, 0, none⟩ vp).cell? ⟨w.heap.size + 1 + 1, 0, none⟩ = some (.int .i64 0) := by rw [World.cell?_setCell_other _ _ _ _ (by simp)]; exact k1
    have y1 : (wr.setCell ⟨w.heap.size + 1, 0, none⟩ vp).cell? ⟨w.heap.size + 1 + 1, 1, none⟩ = some (.int .i64 0) := by rw [World.cell?_setCell_other _ _ _ _ (by simp)]; exact k2
    obtain ⟨u0, u1⟩ := res_set (.int .i64 0) (.int .i64 0) y0 y1
    have hA : Aside (fun b => b = w.heap.size + 1 ∨ b = w.heap.size + 1 + 1) wr (((wr.setCell ⟨w.heap.size + 1, 0, none⟩ vp).setCell ⟨w.heap.size + 1 + 1, 0, none⟩ (.int .i64 0)).setCell ⟨w.heap.size + 1 + 1, 1, none⟩ (.int .i64 0)) :=
      ((Aside.setCell _ _ (.inl rfl)).trans (Aside.setCell _ _ (.inr rfl))).trans (Aside.setCell _ _ (.inr rfl))
    refine ⟨_, rfl, ?_, ?_, u1, ?_, ?_⟩
    · rw [World.cell?_setCell_other _ _ _ _ (by simp), World.cell?_setCell_other _ _ _ _ (by simp)]; exact x0
    · rw [World.cell?_setCell_other _ _ _ _ (by simp)]; exact u0
    · exact (hown.aside hA fun b hb e => by have := (hown.lt b hb).1; omega).mono (by omega)
    · exact below_aside hx hA fun b hb => ⟨by have := ha.size; omega, by omega⟩

set_option maxHeartbeats 8000000 in
theorem read_read {w : World} {s p e : Nat} {vb : Value} {b : List UInt8} {lo hi : Nat} {F : Nat → Got} (t : Int) (ht : (Lit.int .i64 t).wf = true) (hS : Sl w lo hi vb (iz b)) (hhi : hi ≤ w.heap.size) (hbl : b.length ≤ 1000000) (hpe : p ≤ e) (he : e ≤ b.length)
    (hfind : ∀ wx, Sl wx lo hi vb (iz b) → hi ≤ wx.heap.size → ∀ p : Nat, Calls Tryz.prog 90 #[vb, .int .i64 p] wx (Tells wx (gotV (F p)))) :
    Calls Tryz.prog 120 #[.agg #[vb, .int .i64 s, .int .i64 p, .int .i64 e, (.func (.func 90) #[] #[]), .slice none 0 0], .int .i64 t] w (ReadPost w (goP F b s e (kinds t) p [])) := by
  have hmf : ∀ (fn : Fn) (first cap : Array Value) (w : World), (Instr.makeFunc fn first cap).run Tryz.prog w = .ok (.func fn first cap) w := fun _ _ _ _ => rfl
  have HPt := Lib.hid (fun w => parts_any w)
  obtain ⟨R, hR⟩ : ∃ R, goP F b s e (kinds t) p [] = R := ⟨_, rfl⟩
  rw [hR]
  have HR := Lib.hid hR
  have HSM0 := Lib.hid (kinds_small t).2
  have HL0 := Lib.hid (kinds_small t).1
  have HSH := Lib.hid hS
  have HFD := Lib.hid hfind
  obtain ⟨av, cv, rfl, _⟩ := hS
  rw [iz_len] at HSH HFD ⊢
  clear hR hfind
  go_enter_defers Tryz.func120, Tryz.ntmps120
  go_wp2_with fail
  refine (HPt.out _).mono ?_
  rintro e0 w1 ⟨m, rfl, hb1, hlook⟩
  have HB1 := Lib.hid hb1
  rcases hlook t ht with ⟨hk, hl⟩ | ⟨v, hrow, hl⟩
  · have hrw := row_r (W := w1)
    have hbw := bel_call HB1.out hrw.2
    obtain ⟨ks, hks⟩ : ∃ ks, [PK.rst] = ks := ⟨_, rfl⟩
    rw [hk, hks] at HR HSM0 HL0
    have HN := Lib.hid (show ks.length = 1 by rw [← hks]; rfl)
    have HROW := Lib.hid (show RowK (w1.alloc (.cells #[.func (.func 127) #[] #[]] 194)) (w1.heap.size + 1) (.slice (some ⟨w1.heap.size, 0, none⟩) 1 1) ks from hks ▸ hrw.1)
    obtain ⟨HRR0, HCS0, HKC0, HSLA0, HFI0, HBAD0, HFIN0⟩ := rd_setup (f := 90) hbw HSH.out hhi HFD.out
    have HRR := Lib.hid HRR0
    have HCS := Lib.hid HCS0
    have HKC := Lib.hid HKC0
    have HSLA := Lib.hid HSLA0
    have HFI := Lib.hid HFI0
    have HBAD := Lib.hid HBAD0
    have HFIN := Lib.hid HFIN0
    have HSM := HSM0
    clear HRR0 HCS0 HKC0 HSLA0 HFI0 HBAD0 HFIN0 hbw hrw hks hb1 hlook HB1 HPt
    go_wp2_with fail
    obtain ⟨w4, hw4⟩ : ∃ w4, w1.alloc (.cells #[.func (.func 127) #[] #[]] 194) = w4 := ⟨_, rfl⟩
    rw [hw4] at HROW HRR HCS HKC HSLA HFI HBAD HFIN ⊢
    obtain ⟨mm, hmm⟩ : ∃ mm, w1.heap.size + 1 = mm := ⟨_, rfl⟩
    obtain ⟨gg, hgg⟩ : ∃ gg, w1.heap.size = gg := ⟨_, rfl⟩
    rw [hmm, hgg] at HROW
    rw [hgg]
    clear hw4 hmm hgg
    obtain ⟨B, hB⟩ : ∃ B, w4.heap.size = B := ⟨_, rfl⟩
    have HB := Lib.hid hB
    rw [hB] at HRR HKC HSLA HFI HBAD HFIN
    clear hB
    go_loopg [22] 1 (fun g v22 wr => ∃ (k q : Nat) (acc : List Pc), k + g = 1 ∧ v22 = .int .i64 k ∧ q ≤ e ∧ acc.length = k ∧ Hid (Rr wr B w.heap.size (.slice av b.length cv) (.func (.func 90) #[] #[]) s q e acc) ∧ Hid (Aside (RG B w.heap.size) w4 wr) ∧ Hid (goP F b s e (ks.drop k) q acc = R))
    case atStart => exact ⟨0, p, [], by omega, rfl, hpe, rfl, HRR, Aside.refl _ _, HR⟩
    case round =>
      obtain ⟨k, q, acc, hk, rfl, hqe, hacc, HRr, HAs, HG⟩ := hrel
      by_cases hlt0 : k < 1
      · have hlt : k < ks.length := by have := HN.out; omega
        have hrow := (HROW.out).over (by omega) HCS.out (Nat.le_of_eq HB.out) HAs.out
        obtain ⟨g0, c0, _, he0, hcell⟩ := hrow
        injection he0 with he1 he2 he3
        injection he1 with he1
        injection he1 with he1 _ _
        subst he1
        clear he2 he3
        obtain ⟨u, hu, hpv⟩ := hcell k hlt
        have hg := HG.out
        rw [List.drop_eq_getElem_cons hlt, goP] at hg
        have hle := fun x y => step_le (F := F) (b := b) (s := s) (x := x) (q := y) hqe (k := ks[k])
        have hsm := HSM.out ks[k] (List.getElem_mem hlt)
        have HSL := Lib.hid (HSLA.out _ HAs.out)
        have HFO := Lib.hid (HFI.out.later HAs.out)
        have HST : Hid (∀ k0, ks[k] = k0 → stepP F b s e q ks[k] = stepP F b s e q k0) := fun k0 h => by rw [h]
        obtain ⟨k0, hk0⟩ : ∃ k0, ks[k] = k0 := ⟨_, rfl⟩
        rw [hk0] at hpv hg hle hsm
        obtain ⟨Y, hY⟩ : ∃ Y, stepP F b s e q k0 = Y := ⟨_, rfl⟩
        rw [hY] at hg hle
        clear hcell HST hk0
        cases k0 with
        | fix n =>
          obtain ⟨bx, _, rfl, hbx⟩ := hpv
          have HC : Hid (Calls Tryz.prog 136 #[.pointer (some ⟨w.heap.size, 0, none⟩), .pointer (some ⟨bx, 0, none⟩)] wr (StepPost wr B w.heap.size (.slice av b.length cv) (.func (.func 90) #[] #[]) s e acc Y)) := hY ▸ fixedR_any HRr.out HSL.out he hqe (by have := hsm n rfl; omega) hbl hbx (by omega)
          clear hY
          rcases Y with ⟨x, q'⟩ | ⟨cc, aa⟩
          · have hq' := hle x q' rfl
            have HG2 := Lib.hid hg
            have HCC := Lib.hid (show Calls Tryz.prog 136 #[.pointer (some ⟨w.heap.size, 0, none⟩), .pointer (some ⟨bx, 0, none⟩)] wr (Gone wr B w.heap.size (.slice av b.length cv) (.func (.func 90) #[] #[]) s e q' (acc ++ [x])) from HC.out)
            clear hg hle hsm HC
            go_wp2_with fail
            refine HCC.out.mono ?_; rintro en w5 ⟨rfl, hr5, ha5⟩
            have HR5 := Lib.hid hr5
            have HA5 := Lib.hid (HAs.out.trans ha5)
            clear hr5 ha5
            go_wp2_with fail
            go_roundg (1 - (k + 1))
            case measure => omega
            case rel => exact ⟨k + 1, q', acc ++ [x], by omega, by go_num, hq', by rw [List.length_append, hacc]; rfl, HR5, HA5, HG2⟩
          · have hRb : R = .bad cc aa := hg.symm
            subst hRb
            have HCC := Lib.hid (show Calls Tryz.prog 136 #[.pointer (some ⟨w.heap.size, 0, none⟩), .pointer (some ⟨bx, 0, none⟩)] wr (Lost wr B w.heap.size cc aa) from HC.out)
            clear hg hle hsm HC
            go_wp2_with fail
            refine HCC.out.mono ?_; rintro en w5 ⟨rfl, ha5⟩
            have HAd := Lib.hid (HAs.out.trans ha5)
            obtain ⟨k0, k1, k2, f2, f3⟩ := HKC.out _ HAd.out
            refine leaves_cons (f := 125) (args := #[.pointer (some ⟨w.heap.size + 1, 0, none⟩), .pointer (some ⟨w.heap.size + 1 + 1, 0, none⟩)]) (by simp) (by simp [go_sem]) ?_
            refine (mcatch_fault (w.heap.size + 1) (w.heap.size + 1 + 1) (by omega) cc aa _ _ k0 k1 k2 f2 f3).mono ?_
            rintro e9 u' w9 ⟨rfl, rfl, hc9⟩
            obtain ⟨_, m0, m1, m2⟩ := id hc9
            simp [Leaves, settle, results, Tryz.results120, go_sem, m0, m1, m2]
            exact HBAD.out _ _ _ _ HAd.out hc9
        | nam =>
          have hpv : u = _ := hpv; subst hpv
          have HC : Hid (Calls Tryz.prog 132 #[.pointer (some ⟨w.heap.size, 0, none⟩)] wr (StepPost wr B w.heap.size (.slice av b.length cv) (.func (.func 90) #[] #[]) s e acc Y)) := hY ▸ nameR_read HRr.out HFO.out (by omega) (by omega)
          clear hY
          rcases Y with ⟨x, q'⟩ | ⟨cc, aa⟩
          · have hq' := hle x q' rfl
            have HG2 := Lib.hid hg
            have HCC := Lib.hid (show Calls Tryz.prog 132 #[.pointer (some ⟨w.heap.size, 0, none⟩)] wr (Gone wr B w.heap.size (.slice av b.length cv) (.func (.func 90) #[] #[]) s e q' (acc ++ [x])) from HC.out)
            clear hg hle hsm HC
            go_wp2_with fail
            refine HCC.out.mono ?_; rintro en w5 ⟨rfl, hr5, ha5⟩
            have HR5 := Lib.hid hr5
            have HA5 := Lib.hid (HAs.out.trans ha5)
            clear hr5 ha5
            go_wp2_with fail
            go_roundg (1 - (k + 1))
            case measure => omega
            case rel => exact ⟨k + 1, q', acc ++ [x], by omega, by go_num, hq', by rw [List.length_append, hacc]; rfl, HR5, HA5, HG2⟩
          · have hRb : R = .bad cc aa := hg.symm
            subst hRb
            have HCC := Lib.hid (show Calls Tryz.prog 132 #[.pointer (some ⟨w.heap.size, 0, none⟩)] wr (Lost wr B w.heap.size cc aa) from HC.out)
            clear hg hle hsm HC
            go_wp2_with fail
            refine HCC.out.mono ?_; rintro en w5 ⟨rfl, ha5⟩
            have HAd := Lib.hid (HAs.out.trans ha5)
            obtain ⟨k0, k1, k2, f2, f3⟩ := HKC.out _ HAd.out
            refine leaves_cons (f := 125) (args := #[.pointer (some ⟨w.heap.size + 1, 0, none⟩), .pointer (some ⟨w.heap.size + 1 + 1, 0, none⟩)]) (by simp) (by simp [go_sem]) ?_
            refine (mcatch_fault (w.heap.size + 1) (w.heap.size + 1 + 1) (by omega) cc aa _ _ k0 k1 k2 f2 f3).mono ?_
            rintro e9 u' w9 ⟨rfl, rfl, hc9⟩
            obtain ⟨_, m0, m1, m2⟩ := id hc9
            simp [Leaves, settle, results, Tryz.results120, go_sem, m0, m1, m2]
            exact HBAD.out _ _ _ _ HAd.out hc9
        | txt =>
          have hpv : u = _ := hpv; subst hpv
          have HC : Hid (Calls Tryz.prog 133 #[.pointer (some ⟨w.heap.size, 0, none⟩)] wr (StepPost wr B w.heap.size (.slice av b.length cv) (.func (.func 90) #[] #[]) s e acc Y)) := hY ▸ textsR_any HRr.out HSL.out he hqe hbl (by omega)
          clear hY
          rcases Y with ⟨x, q'⟩ | ⟨cc, aa⟩
          · have hq' := hle x q' rfl
            have HG2 := Lib.hid hg
            have HCC := Lib.hid (show Calls Tryz.prog 133 #[.pointer (some ⟨w.heap.size, 0, none⟩)] wr (Gone wr B w.heap.size (.slice av b.length cv) (.func (.func 90) #[] #[]) s e q' (acc ++ [x])) from HC.out)
            clear hg hle hsm HC
            go_wp2_with fail
            refine HCC.out.mono ?_; rintro en w5 ⟨rfl, hr5, ha5⟩
            have HR5 := Lib.hid hr5
            have HA5 := Lib.hid (HAs.out.trans ha5)
            clear hr5 ha5
            go_wp2_with fail
            go_roundg (1 - (k + 1))
            case measure => omega
            case rel => exact ⟨k + 1, q', acc ++ [x], by omega, by go_num, hq', by rw [List.length_append, hacc]; rfl, HR5, HA5, HG2⟩
          · have hRb : R = .bad cc aa := hg.symm
            subst hRb
            have HCC := Lib.hid (show Calls Tryz.prog 133 #[.pointer (some ⟨w.heap.size, 0, none⟩)] wr (Lost wr B w.heap.size cc aa) from HC.out)
            clear hg hle hsm HC
            go_wp2_with fail
            refine HCC.out.mono ?_; rintro en w5 ⟨rfl, ha5⟩
            have HAd := Lib.hid (HAs.out.trans ha5)
            obtain ⟨k0, k1, k2, f2, f3⟩ := HKC.out _ HAd.out
            refine leaves_cons (f := 125) (args := #[.pointer (some ⟨w.heap.size + 1, 0, none⟩), .pointer (some ⟨w.heap.size + 1 + 1, 0, none⟩)]) (by simp) (by simp [go_sem]) ?_
            refine (mcatch_fault (w.heap.size + 1) (w.heap.size + 1 + 1) (by omega) cc aa _ _ k0 k1 k2 f2 f3).mono ?_
            rintro e9 u' w9 ⟨rfl, rfl, hc9⟩
            obtain ⟨_, m0, m1, m2⟩ := id hc9
            simp [Leaves, settle, results, Tryz.results120, go_sem, m0, m1, m2]
            exact HBAD.out _ _ _ _ HAd.out hc9
        | rst =>
          have hpv : u = _ := hpv; subst hpv
          have HC : Hid (Calls Tryz.prog 127 #[.pointer (some ⟨w.heap.size, 0, none⟩)] wr (StepPost wr B w.heap.size (.slice av b.length cv) (.func (.func 90) #[] #[]) s e acc Y)) := hY ▸ restR_any HRr.out HSL.out he hqe (by omega)
          clear hY
          rcases Y with ⟨x, q'⟩ | ⟨cc, aa⟩
          · have hq' := hle x q' rfl
            have HG2 := Lib.hid hg
            have HCC := Lib.hid (show Calls Tryz.prog 127 #[.pointer (some ⟨w.heap.size, 0, none⟩)] wr (Gone wr B w.heap.size (.slice av b.length cv) (.func (.func 90) #[] #[]) s e q' (acc ++ [x])) from HC.out)
            clear hg hle hsm HC
            go_wp2_with fail
            refine HCC.out.mono ?_; rintro en w5 ⟨rfl, hr5, ha5⟩
            have HR5 := Lib.hid hr5
            have HA5 := Lib.hid (HAs.out.trans ha5)
            clear hr5 ha5
            go_wp2_with fail
            go_roundg (1 - (k + 1))
            case measure => omega
            case rel => exact ⟨k + 1, q', acc ++ [x], by omega, by go_num, hq', by rw [List.length_append, hacc]; rfl, HR5, HA5, HG2⟩
          · have hRb : R = .bad cc aa := hg.symm
            subst hRb
            have HCC := Lib.hid (show Calls Tryz.prog 127 #[.pointer (some ⟨w.heap.size, 0, none⟩)] wr (Lost wr B w.heap.size cc aa) from HC.out)
            clear hg hle hsm HC
            go_wp2_with fail
            refine HCC.out.mono ?_; rintro en w5 ⟨rfl, ha5⟩
            have HAd := Lib.hid (HAs.out.trans ha5)
            obtain ⟨k0, k1, k2, f2, f3⟩ := HKC.out _ HAd.out
            refine leaves_cons (f := 125) (args := #[.pointer (some ⟨w.heap.size + 1, 0, none⟩), .pointer (some ⟨w.heap.size + 1 + 1, 0, none⟩)]) (by simp) (by simp [go_sem]) ?_
            refine (mcatch_fault (w.heap.size + 1) (w.heap.size + 1 + 1) (by omega) cc aa _ _ k0 k1 k2 f2 f3).mono ?_
            rintro e9 u' w9 ⟨rfl, rfl, hc9⟩
            obtain ⟨_, m0, m1, m2⟩ := id hc9
            simp [Leaves, settle, results, Tryz.results120, go_sem, m0, m1, m2]
            exact HBAD.out _ _ _ _ HAd.out hc9
      · have hke : k = ks.length := by have := HN.out; omega
        have hg := HG.out
        rw [List.drop_eq_nil_of_le (by omega), goP] at hg
        have c2 := HRr.out.c2
        have c3 := HRr.out.c3
        have t1 : ¬ ((k : Int) < 1) := by omega
        by_cases hlast : q < e
        · rw [if_pos hlast] at hg
          subst hg
          have t2 : decide ((q : Int) < e) = true := by simp; omega
          have HFl := Lib.hid (rfail_any HRr.out)
          go_wp2_with fail
          refine HFl.out.mono ?_; rintro en w5 ⟨rfl, rfl⟩
          have HAd := Lib.hid (HAs.out)
          obtain ⟨k0, k1, k2, f2, f3⟩ := HKC.out _ HAd.out
          refine leaves_cons (f := 125) (args := #[.pointer (some ⟨w.heap.size + 1, 0, none⟩), .pointer (some ⟨w.heap.size + 1 + 1, 0, none⟩)]) (by simp) (by simp [go_sem]) ?_
          refine (mcatch_fault (w.heap.size + 1) (w.heap.size + 1 + 1) (by omega) 4 s _ _ k0 k1 k2 f2 f3).mono ?_
          rintro e9 u' w9 ⟨rfl, rfl, hc9⟩
          obtain ⟨_, m0, m1, m2⟩ := id hc9
          simp [Leaves, settle, results, Tryz.results120, go_sem, m0, m1, m2]
          exact HBAD.out _ _ _ _ HAd.out hc9
        · rw [if_neg hlast] at hg
          subst hg
          have t2 : decide ((q : Int) < e) = false := by simp; omega
          obtain ⟨vp, c5, hown⟩ := HRr.out.c5
          obtain ⟨ap, cp, hvp⟩ := hown.shape
          obtain ⟨zl, hzl⟩ : ∃ zl, acc.length = zl := ⟨_, rfl⟩
          rw [hzl] at hvp
          subst hvp
          clear hzl
          have HOwn := Lib.hid hown
          obtain ⟨k0, k1, k2, f2, f3⟩ := HKC.out _ HAs.out
          have HF := Lib.hid (HFIN.out _ _ _ HAs.out HOwn.out)
          have f20 := f2 0
          have f30 := f3 0
          have f31 := f3 1
          clear hown f2 f3
          go_wp2_with fail
          obtain ⟨Wf, hWf, x0, x1, x2, ho, hb⟩ := HF.out
          rw [← hWf]
          clear hWf
          refine leaves_cons (f := 125) (args := #[.pointer (some ⟨w.heap.size + 1, 0, none⟩), .pointer (some ⟨w.heap.size + 1 + 1, 0, none⟩)]) (by simp) (by simp [go_sem]) ?_
          refine (mcatch_idle ⟨w.heap.size + 1, 0, none⟩ ⟨w.heap.size + 1 + 1, 0, none⟩ _).mono ?_
          rintro en u' w9 ⟨rfl, rfl, rfl⟩
          have hal : Below Wf.heap.size Wf (Wf.alloc (.cells #[.int .i64 0, .int .i64 0] 186)) := (Below.refl _ Wf).alloc (Nat.le_refl _) _
          have a0 := cell_later hal x0
          have a1 := cell_later hal x1
          have a2 := cell_later hal x2
          simp [Leaves, settle, results, Tryz.results120, go_sem, a0, a1, a2]
          exact ⟨_, rfl, ho.below hal, hb.alloc hb.size _⟩
  · have hrow1 := hrow
    obtain ⟨gg, cg, _, hv, _⟩ := hrow
    subst hv
    obtain ⟨ks, hks⟩ : ∃ ks, kinds t = ks := ⟨_, rfl⟩
    rw [hks] at HR HSM0 HL0 hrow1 hl
    obtain ⟨nn, hn⟩ : ∃ nn, ks.length = nn := ⟨_, rfl⟩
    have HN := Lib.hid hn
    rw [hn] at hl hrow1 HL0
    have HROW := Lib.hid hrow1
    obtain ⟨HRR0, HCS0, HKC0, HSLA0, HFI0, HBAD0, HFIN0⟩ := rd_setup (f := 90) hb1 HSH.out hhi HFD.out
    have HRR := Lib.hid HRR0
    have HCS := Lib.hid HCS0
    have HKC := Lib.hid HKC0
    have HSLA := Lib.hid HSLA0
    have HFI := Lib.hid HFI0
    have HBAD := Lib.hid HBAD0
    have HFIN := Lib.hid HFIN0
    have HSM := HSM0
    have hn3 := HL0.out
    clear HRR0 HCS0 HKC0 HSLA0 HFI0 HBAD0 HFIN0 hrow1 hks hn hb1 hlook HB1 HPt
    go_wp2_with fail
    obtain ⟨w4, hw4⟩ : ∃ w4, w1 = w4 := ⟨_, rfl⟩
    rw [hw4] at HROW HRR HCS HKC HSLA HFI HBAD HFIN ⊢
    clear hw4
    obtain ⟨B, hB⟩ : ∃ B, w4.heap.size = B := ⟨_, rfl⟩
    have HB := Lib.hid hB
    rw [hB] at HRR HKC HSLA HFI HBAD HFIN
    clear hB
    go_loopg [22] nn (fun g v22 wr => ∃ (k q : Nat) (acc : List Pc), k + g = nn ∧ v22 = .int .i64 k ∧ q ≤ e ∧ acc.length = k ∧ Hid (Rr wr B w.heap.size (.slice av b.length cv) (.func (.func 90) #[] #[]) s q e acc) ∧ Hid (Aside (RG B w.heap.size) w4 wr) ∧ Hid (goP F b s e (ks.drop k) q acc = R))
    case atStart => exact ⟨0, p, [], by omega, rfl, hpe, rfl, HRR, Aside.refl _ _, HR⟩
    case round =>
      obtain ⟨k, q, acc, hk, rfl, hqe, hacc, HRr, HAs, HG⟩ := hrel
      by_cases hlt0 : k < nn
      · have hlt : k < ks.length := by have := HN.out; omega
        have hrow := (HROW.out).over (by omega) HCS.out (Nat.le_of_eq HB.out) HAs.out
        obtain ⟨g0, c0, _, he0, hcell⟩ := hrow
        injection he0 with he1 he2 he3
        injection he1 with he1
        injection he1 with he1 _ _
        subst he1
        clear he2 he3
        obtain ⟨u, hu, hpv⟩ := hcell k hlt
        have hg := HG.out
        rw [List.drop_eq_getElem_cons hlt, goP] at hg
        have hle := fun x y => step_le (F := F) (b := b) (s := s) (x := x) (q := y) hqe (k := ks[k])
        have hsm := HSM.out ks[k] (List.getElem_mem hlt)
        have HSL := Lib.hid (HSLA.out _ HAs.out)
        have HFO := Lib.hid (HFI.out.later HAs.out)
        have HST : Hid (∀ k0, ks[k] = k0 → stepP F b s e q ks[k] = stepP F b s e q k0) := fun k0 h => by rw [h]
        obtain ⟨k0, hk0⟩ : ∃ k0, ks[k] = k0 := ⟨_, rfl⟩
        rw [hk0] at hpv hg hle hsm
        obtain ⟨Y, hY⟩ : ∃ Y, stepP F b s e q k0 = Y := ⟨_, rfl⟩
        rw [hY] at hg hle
        clear hcell HST hk0
        cases k0 with
        | fix n =>
          obtain ⟨bx, _, rfl, hbx⟩ := hpv
          have HC : Hid (Calls Tryz.prog 136 #[.pointer (some ⟨w.heap.size, 0, none⟩), .pointer (some ⟨bx, 0, none⟩)] wr (StepPost wr B w.heap.size (.slice av b.length cv) (.func (.func 90) #[] #[]) s e acc Y)) := hY ▸ fixedR_any HRr.out HSL.out he hqe (by have := hsm n rfl; omega) hbl hbx (by omega)
          clear hY
          rcases Y with ⟨x, q'⟩ | ⟨cc, aa⟩
          · have hq' := hle x q' rfl
            have HG2 := Lib.hid hg
            have HCC := Lib.hid (show Calls Tryz.prog 136 #[.pointer (some ⟨w.heap.size, 0, none⟩), .pointer (some ⟨bx, 0, none⟩)] wr (Gone wr B w.heap.size (.slice av b.length cv) (.func (.func 90) #[] #[]) s e q' (acc ++ [x])) from HC.out)
            clear hg hle hsm HC
            go_wp2_with fail
            refine HCC.out.mono ?_; rintro en w5 ⟨rfl, hr5, ha5⟩
            have HR5 := Lib.hid hr5
            have HA5 := Lib.hid (HAs.out.trans ha5)
            clear hr5 ha5
            go_wp2_with fail
            go_roundg (nn - (k + 1))
            case measure => omega
            case rel => exact ⟨k + 1, q', acc ++ [x], by omega, by go_num, hq', by rw [List.length_append, hacc]; rfl, HR5, HA5, HG2⟩
          · have hRb : R = .bad cc aa := hg.symm
            subst hRb
            have HCC := Lib.hid (show Calls Tryz.prog 136 #[.pointer (some ⟨w.heap.size, 0, none⟩), .pointer (some ⟨bx, 0, none⟩)] wr (Lost wr B w.heap.size cc aa) from HC.out)
            clear hg hle hsm HC
            go_wp2_with fail
            refine HCC.out.mono ?_; rintro en w5 ⟨rfl, ha5⟩
            have HAd := Lib.hid (HAs.out.trans ha5)
            obtain ⟨k0, k1, k2, f2, f3⟩ := HKC.out _ HAd.out
            refine leaves_cons (f := 125) (args := #[.pointer (some ⟨w.heap.size + 1, 0, none⟩), .pointer (some ⟨w.heap.size + 1 + 1, 0, none⟩)]) (by simp) (by simp [go_sem]) ?_
            refine (mcatch_fault (w.heap.size + 1) (w.heap.size + 1 + 1) (by omega) cc aa _ _ k0 k1 k2 f2 f3).mono ?_
            rintro e9 u' w9 ⟨rfl, rfl, hc9⟩
            obtain ⟨_, m0, m1, m2⟩ := id hc9
            simp [Leaves, settle, results, Tryz.results120, go_sem, m0, m1, m2]
            exact HBAD.out _ _ _ _ HAd.out hc9
        | nam =>
          have hpv : u = _ := hpv; subst hpv
          have HC : Hid (Calls Tryz.prog 132 #[.pointer (some ⟨w.heap.size, 0, none⟩)] wr (StepPost wr B w.heap.size (.slice av b.length cv) (.func (.func 90) #[] #[]) s e acc Y)) := hY ▸ nameR_read HRr.out HFO.out (by omega) (by omega)
          clear hY
          rcases Y with ⟨x, q'⟩ | ⟨cc, aa⟩
          · have hq' := hle x q' rfl
            have HG2 := Lib.hid hg
            have HCC := Lib.hid (show Calls Tryz.prog 132 #[.pointer (some ⟨w.heap.size, 0, none⟩)] wr (Gone wr B w.heap.size (.slice av b.length cv) (.func (.func 90) #[] #[]) s e q' (acc ++ [x])) from HC.out)
            clear hg hle hsm HC
            go_wp2_with fail
            refine HCC.out.mono ?_; rintro en w5 ⟨rfl, hr5, ha5⟩
            have HR5 := Lib.hid hr5
            have HA5 := Lib.hid (HAs.out.trans ha5)
            clear hr5 ha5
            go_wp2_with fail
            go_roundg (nn - (k + 1))
            case measure => omega
            case rel => exact ⟨k + 1, q', acc ++ [x], by omega, by go_num, hq', by rw [List.length_append, hacc]; rfl, HR5, HA5, HG2⟩
          · have hRb : R = .bad cc aa := hg.symm
            subst hRb
            have HCC := Lib.hid (show Calls Tryz.prog 132 #[.pointer (some ⟨w.heap.size, 0, none⟩)] wr (Lost wr B w.heap.size cc aa) from HC.out)
            clear hg hle hsm HC
            go_wp2_with fail
            refine HCC.out.mono ?_; rintro en w5 ⟨rfl, ha5⟩
            have HAd := Lib.hid (HAs.out.trans ha5)
            obtain ⟨k0, k1, k2, f2, f3⟩ := HKC.out _ HAd.out
            refine leaves_cons (f := 125) (args := #[.pointer (some ⟨w.heap.size + 1, 0, none⟩), .pointer (some ⟨w.heap.size + 1 + 1, 0, none⟩)]) (by simp) (by simp [go_sem]) ?_
            refine (mcatch_fault (w.heap.size + 1) (w.heap.size + 1 + 1) (by omega) cc aa _ _ k0 k1 k2 f2 f3).mono ?_
            rintro e9 u' w9 ⟨rfl, rfl, hc9⟩
            obtain ⟨_, m0, m1, m2⟩ := id hc9
            simp [Leaves, settle, results, Tryz.results120, go_sem, m0, m1, m2]
            exact HBAD.out _ _ _ _ HAd.out hc9
        | txt =>
          have hpv : u = _ := hpv; subst hpv
          have HC : Hid (Calls Tryz.prog 133 #[.pointer (some ⟨w.heap.size, 0, none⟩)] wr (StepPost wr B w.heap.size (.slice av b.length cv) (.func (.func 90) #[] #[]) s e acc Y)) := hY ▸ textsR_any HRr.out HSL.out he hqe hbl (by omega)
          clear hY
          rcases Y with ⟨x, q'⟩ | ⟨cc, aa⟩
          · have hq' := hle x q' rfl
            have HG2 := Lib.hid hg
            have HCC := Lib.hid (show Calls Tryz.prog 133 #[.pointer (some ⟨w.heap.size, 0, none⟩)] wr (Gone wr B w.heap.size (.slice av b.length cv) (.func (.func 90) #[] #[]) s e q' (acc ++ [x])) from HC.out)
            clear hg hle hsm HC
            go_wp2_with fail
            refine HCC.out.mono ?_; rintro en w5 ⟨rfl, hr5, ha5⟩
            have HR5 := Lib.hid hr5
            have HA5 := Lib.hid (HAs.out.trans ha5)
            clear hr5 ha5
            go_wp2_with fail
            go_roundg (nn - (k + 1))
            case measure => omega
            case rel => exact ⟨k + 1, q', acc ++ [x], by omega, by go_num, hq', by rw [List.length_append, hacc]; rfl, HR5, HA5, HG2⟩
          · have hRb : R = .bad cc aa := hg.symm
            subst hRb
            have HCC := Lib.hid (show Calls Tryz.prog 133 #[.pointer (some ⟨w.heap.size, 0, none⟩)] wr (Lost wr B w.heap.size cc aa) from HC.out)
            clear hg hle hsm HC
            go_wp2_with fail
            refine HCC.out.mono ?_; rintro en w5 ⟨rfl, ha5⟩
            have HAd := Lib.hid (HAs.out.trans ha5)
            obtain ⟨k0, k1, k2, f2, f3⟩ := HKC.out _ HAd.out
            refine leaves_cons (f := 125) (args := #[.pointer (some ⟨w.heap.size + 1, 0, none⟩), .pointer (some ⟨w.heap.size + 1 + 1, 0, none⟩)]) (by simp) (by simp [go_sem]) ?_
            refine (mcatch_fault (w.heap.size + 1) (w.heap.size + 1 + 1) (by omega) cc aa _ _ k0 k1 k2 f2 f3).mono ?_
            rintro e9 u' w9 ⟨rfl, rfl, hc9⟩
            obtain ⟨_, m0, m1, m2⟩ := id hc9
            simp [Leaves, settle, results, Tryz.results120, go_sem, m0, m1, m2]
            exact HBAD.out _ _ _ _ HAd.out hc9
        | rst =>
          have hpv : u = _ := hpv; subst hpv
          have HC : Hid (Calls Tryz.prog 127 #[.pointer (some ⟨w.heap.size, 0, none⟩)] wr (StepPost wr B w.heap.size (.slice av b.length cv) (.func (.func 90) #[] #[]) s e acc Y)) := hY ▸ restR_any HRr.out HSL.out he hqe (by omega)
          clear hY
          rcases Y with ⟨x, q'⟩ | ⟨cc, aa⟩
          · have hq' := hle x q' rfl
            have HG2 := Lib.hid hg
            have HCC := Lib.hid (show Calls Tryz.prog 127 #[.pointer (some ⟨w.heap.size, 0, none⟩)] wr (Gone wr B w.heap.size (.slice av b.length cv) (.func (.func 90) #[] #[]) s e q' (acc ++ [x])) from HC.out)
            clear hg hle hsm HC
            go_wp2_with fail
            refine HCC.out.mono ?_; rintro en w5 ⟨rfl, hr5, ha5⟩
            have HR5 := Lib.hid hr5
            have HA5 := Lib.hid (HAs.out.trans ha5)
            clear hr5 ha5
            go_wp2_with fail
            go_roundg (nn - (k + 1))
            case measure => omega
            case rel => exact ⟨k + 1, q', acc ++ [x], by omega, by go_num, hq', by rw [List.length_append, hacc]; rfl, HR5, HA5, HG2⟩
          · have hRb : R = .bad cc aa := hg.symm
            subst hRb
            have HCC := Lib.hid (show Calls Tryz.prog 127 #[.pointer (some ⟨w.heap.size, 0, none⟩)] wr (Lost wr B w.heap.size cc aa) from HC.out)
            clear hg hle hsm HC
            go_wp2_with fail
            refine HCC.out.mono ?_; rintro en w5 ⟨rfl, ha5⟩
            have HAd := Lib.hid (HAs.out.trans ha5)
            obtain ⟨k0, k1, k2, f2, f3⟩ := HKC.out _ HAd.out
            refine leaves_cons (f := 125) (args := #[.pointer (some ⟨w.heap.size + 1, 0, none⟩), .pointer (some ⟨w.heap.size + 1 + 1, 0, none⟩)]) (by simp) (by simp [go_sem]) ?_
            refine (mcatch_fault (w.heap.size + 1) (w.heap.size + 1 + 1) (by omega) cc aa _ _ k0 k1 k2 f2 f3).mono ?_
            rintro e9 u' w9 ⟨rfl, rfl, hc9⟩
            obtain ⟨_, m0, m1, m2⟩ := id hc9
            simp [Leaves, settle, results, Tryz.results120, go_sem, m0, m1, m2]
            exact HBAD.out _ _ _ _ HAd.out hc9
      · have hke : k = ks.length := by have := HN.out; omega
        have hg := HG.out
        rw [List.drop_eq_nil_of_le (by omega), goP] at hg
        have c2 := HRr.out.c2
        have c3 := HRr.out.c3
        have t1 : ¬ ((k : Int) < nn) := by omega
        by_cases hlast : q < e
        · rw [if_pos hlast] at hg
          subst hg
          have t2 : decide ((q : Int) < e) = true := by simp; omega
          have HFl := Lib.hid (rfail_any HRr.out)
          go_wp2_with fail
          refine HFl.out.mono ?_; rintro en w5 ⟨rfl, rfl⟩
          have HAd := Lib.hid (HAs.out)
          obtain ⟨k0, k1, k2, f2, f3⟩ := HKC.out _ HAd.out
          refine leaves_cons (f := 125) (args := #[.pointer (some ⟨w.heap.size + 1, 0, none⟩), .pointer (some ⟨w.heap.size + 1 + 1, 0, none⟩)]) (by simp) (by simp [go_sem]) ?_
          refine (mcatch_fault (w.heap.size + 1) (w.heap.size + 1 + 1) (by omega) 4 s _ _ k0 k1 k2 f2 f3).mono ?_
          rintro e9 u' w9 ⟨rfl, rfl, hc9⟩
          obtain ⟨_, m0, m1, m2⟩ := id hc9
          simp [Leaves, settle, results, Tryz.results120, go_sem, m0, m1, m2]
          exact HBAD.out _ _ _ _ HAd.out hc9
        · rw [if_neg hlast] at hg
          subst hg
          have t2 : decide ((q : Int) < e) = false := by simp; omega
          obtain ⟨vp, c5, hown⟩ := HRr.out.c5
          obtain ⟨ap, cp, hvp⟩ := hown.shape
          obtain ⟨zl, hzl⟩ : ∃ zl, acc.length = zl := ⟨_, rfl⟩
          rw [hzl] at hvp
          subst hvp
          clear hzl
          have HOwn := Lib.hid hown
          obtain ⟨k0, k1, k2, f2, f3⟩ := HKC.out _ HAs.out
          have HF := Lib.hid (HFIN.out _ _ _ HAs.out HOwn.out)
          have f20 := f2 0
          have f30 := f3 0
          have f31 := f3 1
          clear hown f2 f3
          go_wp2_with fail
          obtain ⟨Wf, hWf, x0, x1, x2, ho, hb⟩ := HF.out
          rw [← hWf]
          clear hWf
          refine leaves_cons (f := 125) (args := #[.pointer (some ⟨w.heap.size + 1, 0, none⟩), .pointer (some ⟨w.heap.size + 1 + 1, 0, none⟩)]) (by simp) (by simp [go_sem]) ?_
          refine (mcatch_idle ⟨w.heap.size + 1, 0, none⟩ ⟨w.heap.size + 1 + 1, 0, none⟩ _).mono ?_
          rintro en u' w9 ⟨rfl, rfl, rfl⟩
          have hal : Below Wf.heap.size Wf (Wf.alloc (.cells #[.int .i64 0, .int .i64 0] 186)) := (Below.refl _ Wf).alloc (Nat.le_refl _) _
          have a0 := cell_later hal x0
          have a1 := cell_later hal x1
          have a2 := cell_later hal x2
          simp [Leaves, settle, results, Tryz.results120, go_sem, a0, a1, a2]
          exact ⟨_, rfl, ho.below hal, hb.alloc hb.size _⟩
end Go.Proofs.YtpdaekgldgoalaaGreat

/-
  read, where names stand as their bytes.
-/
namespace Go.Proofs.YtpdaekgldgoalaaGreat
open Go.RowKit Go.Shelf
set_option linter.unusedVariables false
set_option linter.unusedSimpArgs false
set_option maxRecDepth 100000

set_option maxHeartbeats 8000000 in
theorem read_plain {w : World} {s p e : Nat} {vb : Value} {b : List UInt8} {lo hi : Nat} {F : Nat → Got} (t : Int) (ht : (Lit.int .i64 t).wf = true) (hS : Sl w lo hi vb (iz b)) (hhi : hi ≤ w.heap.size) (hbl : b.length ≤ 1000000) (hpe : p ≤ e) (he : e ≤ b.length)
    (hfind : ∀ wx, Sl wx lo hi vb (iz b) → hi ≤ wx.heap.size → ∀ p : Nat, Calls Tryz.prog 121 #[vb, .int .i64 p] wx (Tells wx (gotV (F p)))) :
    Calls Tryz.prog 120 #[.agg #[vb, .int .i64 s, .int .i64 p, .int .i64 e, (.func (.func 121) #[] #[]), .slice none 0 0], .int .i64 t] w (ReadPost w (goP F b s e (kinds t) p [])) := by
  have hmf : ∀ (fn : Fn) (first cap : Array Value) (w : World), (Instr.makeFunc fn first cap).run Tryz.prog w = .ok (.func fn first cap) w := fun _ _ _ _ => rfl
  have HPt := Lib.hid (fun w => parts_any w)
  obtain ⟨R, hR⟩ : ∃ R, goP F b s e (kinds t) p [] = R := ⟨_, rfl⟩
  rw [hR]
  have HR := Lib.hid hR
  have HSM0 := Lib.hid (kinds_small t).2
  have HL0 := Lib.hid (kinds_small t).1
  have HSH := Lib.hid hS
  have HFD := Lib.hid hfind
  obtain ⟨av, cv, rfl, _⟩ := hS
  rw [iz_len] at HSH HFD ⊢
  clear hR hfind
  go_enter_defers Tryz.func120, Tryz.ntmps120
  go_wp2_with fail
  refine (HPt.out _).mono ?_
  rintro e0 w1 ⟨m, rfl, hb1, hlook⟩
  have HB1 := Lib.hid hb1
  rcases hlook t ht with ⟨hk, hl⟩ | ⟨v, hrow, hl⟩
  · have hrw := row_r (W := w1)
    have hbw := bel_call HB1.out hrw.2
    obtain ⟨ks, hks⟩ : ∃ ks, [PK.rst] = ks := ⟨_, rfl⟩
    rw [hk, hks] at HR HSM0 HL0
    have HN := Lib.hid (show ks.length = 1 by rw [← hks]; rfl)
    have HROW := Lib.hid (show RowK (w1.alloc (.cells #[.func (.func 127) #[] #[]] 194)) (w1.heap.size + 1) (.slice (some ⟨w1.heap.size, 0, none⟩) 1 1) ks from hks ▸ hrw.1)
    obtain ⟨HRR0, HCS0, HKC0, HSLA0, HFI0, HBAD0, HFIN0⟩ := rd_setup (f := 121) hbw HSH.out hhi HFD.out
    have HRR := Lib.hid HRR0
    have HCS := Lib.hid HCS0
    have HKC := Lib.hid HKC0
    have HSLA := Lib.hid HSLA0
    have HFI := Lib.hid HFI0
    have HBAD := Lib.hid HBAD0
    have HFIN := Lib.hid HFIN0
    have HSM := HSM0
    clear HRR0 HCS0 HKC0 HSLA0 HFI0 HBAD0 HFIN0 hbw hrw hks hb1 hlook HB1 HPt
    go_wp2_with fail
    obtain ⟨w4, hw4⟩ : ∃ w4, w1.alloc (.cells #[.func (.func 127) #[] #[]] 194) = w4 := ⟨_, rfl⟩
    rw [hw4] at HROW HRR HCS HKC HSLA HFI HBAD HFIN ⊢
    obtain ⟨mm, hmm⟩ : ∃ mm, w1.heap.size + 1 = mm := ⟨_, rfl⟩
    obtain ⟨gg, hgg⟩ : ∃ gg, w1.heap.size = gg := ⟨_, rfl⟩
    rw [hmm, hgg] at HROW
    rw [hgg]
    clear hw4 hmm hgg
    obtain ⟨B, hB⟩ : ∃ B, w4.heap.size = B := ⟨_, rfl⟩
    have HB := Lib.hid hB
    rw [hB] at HRR HKC HSLA HFI HBAD HFIN
    clear hB
    go_loopg [22] 1 (fun g v22 wr => ∃ (k q : Nat) (acc : List Pc), k + g = 1 ∧ v22 = .int .i64 k ∧ q ≤ e ∧ acc.length = k ∧ Hid (Rr wr B w.heap.size (.slice av b.length cv) (.func (.func 121) #[] #[]) s q e acc) ∧ Hid (Aside (RG B w.heap.size) w4 wr) ∧ Hid (goP F b s e (ks.drop k) q acc = R))
    case atStart => exact ⟨0, p, [], by omega, rfl, hpe, rfl, HRR, Aside.refl _ _, HR⟩
    case round =>
      obtain ⟨k, q, acc, hk, rfl, hqe, hacc, HRr, HAs, HG⟩ := hrel
      by_cases hlt0 : k < 1
      · have hlt : k < ks.length := by have := HN.out; omega
        have hrow := (HROW.out).over (by omega) HCS.out (Nat.le_of_eq HB.out) HAs.out
        obtain ⟨g0, c0, _, he0, hcell⟩ := hrow
        injection he0 with he1 he2 he3
        injection he1 with he1
        injection he1 with he1 _ _
        subst he1
        clear he2 he3
        obtain ⟨u, hu, hpv⟩ := hcell k hlt
        have hg := HG.out
        rw [List.drop_eq_getElem_cons hlt, goP] at hg
        have hle := fun x y => step_le (F := F) (b := b) (s := s) (x := x) (q := y) hqe (k := ks[k])
        have hsm := HSM.out ks[k] (List.getElem_mem hlt)
        have HSL := Lib.hid (HSLA.out _ HAs.out)
        have HFO := Lib.hid (HFI.out.later HAs.out)
        have HST : Hid (∀ k0, ks[k] = k0 → stepP F b s e q ks[k] = stepP F b s e q k0) := fun k0 h => by rw [h]
        obtain ⟨k0, hk0⟩ : ∃ k0, ks[k] = k0 := ⟨_, rfl⟩
        rw [hk0] at hpv hg hle hsm
        obtain ⟨Y, hY⟩ : ∃ Y, stepP F b s e q k0 = Y := ⟨_, rfl⟩
        rw [hY] at hg hle
        clear hcell HST hk0
        cases k0 with
        | fix n =>
          obtain ⟨bx, _, rfl, hbx⟩ := hpv
          have HC : Hid (Calls Tryz.prog 136 #[.pointer (some ⟨w.heap.size, 0, none⟩), .pointer (some ⟨bx, 0, none⟩)] wr (StepPost wr B w.heap.size (.slice av b.length cv) (.func (.func 121) #[] #[]) s e acc Y)) := hY ▸ fixedR_any HRr.out HSL.out he hqe (by have := hsm n rfl; omega) hbl hbx (by omega)
          clear hY
          rcases Y with ⟨x, q'⟩ | ⟨cc, aa⟩
          · have hq' := hle x q' rfl
            have HG2 := Lib.hid hg
            have HCC := Lib.hid (show Calls Tryz.prog 136 #[.pointer (some ⟨w.heap.size, 0, none⟩), .pointer (some ⟨bx, 0, none⟩)] wr (Gone wr B w.heap.size (.slice av b.length cv) (.func (.func 121) #[] #[]) s e q' (acc ++ [x])) from HC.out)
            clear hg hle hsm HC
            go_wp2_with fail
            refine HCC.out.mono ?_; rintro en w5 ⟨rfl, hr5, ha5⟩
            have HR5 := Lib.hid hr5
            have HA5 := Lib.hid (HAs.out.trans ha5)
            clear hr5 ha5
            go_wp2_with fail
            go_roundg (1 - (k + 1))
            case measure => omega
            case rel => exact ⟨k + 1, q', acc ++ [x], by omega, by go_num, hq', by rw [List.length_append, hacc]; rfl, HR5, HA5, HG2⟩
          · have hRb : R = .bad cc aa := hg.symm
            subst hRb
            have HCC := Lib.hid (show Calls Tryz.prog 136 #[.pointer (some ⟨w.heap.size, 0, none⟩), .pointer (some ⟨bx, 0, none⟩)] wr (Lost wr B w.heap.size cc aa) from HC.out)
            clear hg hle hsm HC
            go_wp2_with fail
            refine HCC.out.mono ?_; rintro en w5 ⟨rfl, ha5⟩
            have HAd := Lib.hid (HAs.out.trans ha5)
            obtain ⟨k0, k1, k2, f2, f3⟩ := HKC.out _ HAd.out
            refine leaves_cons (f := 125) (args := #[.pointer (some ⟨w.heap.size + 1, 0, none⟩), .pointer (some ⟨w.heap.size + 1 + 1, 0, none⟩)]) (by simp) (by simp [go_sem]) ?_
            refine (mcatch_fault (w.heap.size + 1) (w.heap.size + 1 + 1) (by omega) cc aa _ _ k0 k1 k2 f2 f3).mono ?_
            rintro e9 u' w9 ⟨rfl, rfl, hc9⟩
            obtain ⟨_, m0, m1, m2⟩ := id hc9
            simp [Leaves, settle, results, Tryz.results120, go_sem, m0, m1, m2]
            exact HBAD.out _ _ _ _ HAd.out hc9
        | nam =>
          have hpv : u = _ := hpv; subst hpv
          have HC : Hid (Calls Tryz.prog 132 #[.pointer (some ⟨w.heap.size, 0, none⟩)] wr (StepPost wr B w.heap.size (.slice av b.length cv) (.func (.func 121) #[] #[]) s e acc Y)) := hY ▸ nameR_plain HRr.out HFO.out (by omega) (by omega)
          clear hY
          rcases Y with ⟨x, q'⟩ | ⟨cc, aa⟩
          · have hq' := hle x q' rfl
            have HG2 := Lib.hid hg
            have HCC := Lib.hid (show Calls Tryz.prog 132 #[.pointer (some ⟨w.heap.size, 0, none⟩)] wr (Gone wr B w.heap.size (.slice av b.length cv) (.func (.func 121) #[] #[]) s e q' (acc ++ [x])) from HC.out)
            clear hg hle hsm HC
            go_wp2_with fail
            refine HCC.out.mono ?_; rintro en w5 ⟨rfl, hr5, ha5⟩
            have HR5 := Lib.hid hr5
            have HA5 := Lib.hid (HAs.out.trans ha5)
            clear hr5 ha5
            go_wp2_with fail
            go_roundg (1 - (k + 1))
            case measure => omega
            case rel => exact ⟨k + 1, q', acc ++ [x], by omega, by go_num, hq', by rw [List.length_append, hacc]; rfl, HR5, HA5, HG2⟩
          · have hRb : R = .bad cc aa := hg.symm
            subst hRb
            have HCC := Lib.hid (show Calls Tryz.prog 132 #[.pointer (some ⟨w.heap.size, 0, none⟩)] wr (Lost wr B w.heap.size cc aa) from HC.out)
            clear hg hle hsm HC
            go_wp2_with fail
            refine HCC.out.mono ?_; rintro en w5 ⟨rfl, ha5⟩
            have HAd := Lib.hid (HAs.out.trans ha5)
            obtain ⟨k0, k1, k2, f2, f3⟩ := HKC.out _ HAd.out
            refine leaves_cons (f := 125) (args := #[.pointer (some ⟨w.heap.size + 1, 0, none⟩), .pointer (some ⟨w.heap.size + 1 + 1, 0, none⟩)]) (by simp) (by simp [go_sem]) ?_
            refine (mcatch_fault (w.heap.size + 1) (w.heap.size + 1 + 1) (by omega) cc aa _ _ k0 k1 k2 f2 f3).mono ?_
            rintro e9 u' w9 ⟨rfl, rfl, hc9⟩
            obtain ⟨_, m0, m1, m2⟩ := id hc9
            simp [Leaves, settle, results, Tryz.results120, go_sem, m0, m1, m2]
            exact HBAD.out _ _ _ _ HAd.out hc9
        | txt =>
          have hpv : u = _ := hpv; subst hpv
          have HC : Hid (Calls Tryz.prog 133 #[.pointer (some ⟨w.heap.size, 0, none⟩)] wr (StepPost wr B w.heap.size (.slice av b.length cv) (.func (.func 121) #[] #[]) s e acc Y)) := hY ▸ textsR_any HRr.out HSL.out he hqe hbl (by omega)
          clear hY
          rcases Y with ⟨x, q'⟩ | ⟨cc, aa⟩
          · have hq' := hle x q' rfl
            have HG2 := Lib.hid hg
            have HCC := Lib.hid (show Calls Tryz.prog 133 #[.pointer (some ⟨w.heap.size, 0, none⟩)] wr (Gone wr B w.heap.size (.slice av b.length cv) (.func (.func 121) #[] #[]) s e q' (acc ++ [x])) from HC.out)
            clear hg hle hsm HC
            go_wp2_with fail
            refine HCC.out.mono ?_; rintro en w5 ⟨rfl, hr5, ha5⟩
            have HR5 := Lib.hid hr5
            have HA5 := Lib.hid (HAs.out.trans ha5)
            clear hr5 ha5
            go_wp2_with fail
            go_roundg (1 - (k + 1))
            case measure => omega
            case rel => exact ⟨k + 1, q', acc ++ [x], by omega, by go_num, hq', by rw [List.length_append, hacc]; rfl, HR5, HA5, HG2⟩
          · have hRb : R = .bad cc aa := hg.symm
            subst hRb
            have HCC := Lib.hid (show Calls Tryz.prog 133 #[.pointer (some ⟨w.heap.size, 0, none⟩)] wr (Lost wr B w.heap.size cc aa) from HC.out)
            clear hg hle hsm HC
            go_wp2_with fail
            refine HCC.out.mono ?_; rintro en w5 ⟨rfl, ha5⟩
            have HAd := Lib.hid (HAs.out.trans ha5)
            obtain ⟨k0, k1, k2, f2, f3⟩ := HKC.out _ HAd.out
            refine leaves_cons (f := 125) (args := #[.pointer (some ⟨w.heap.size + 1, 0, none⟩), .pointer (some ⟨w.heap.size + 1 + 1, 0, none⟩)]) (by simp) (by simp [go_sem]) ?_
            refine (mcatch_fault (w.heap.size + 1) (w.heap.size + 1 + 1) (by omega) cc aa _ _ k0 k1 k2 f2 f3).mono ?_
            rintro e9 u' w9 ⟨rfl, rfl, hc9⟩
            obtain ⟨_, m0, m1, m2⟩ := id hc9
            simp [Leaves, settle, results, Tryz.results120, go_sem, m0, m1, m2]
            exact HBAD.out _ _ _ _ HAd.out hc9
        | rst =>
          have hpv : u = _ := hpv; subst hpv
          have HC : Hid (Calls Tryz.prog 127 #[.pointer (some ⟨w.heap.size, 0, none⟩)] wr (StepPost wr B w.heap.size (.slice av b.length cv) (.func (.func 121) #[] #[]) s e acc Y)) := hY ▸ restR_any HRr.out HSL.out he hqe (by omega)
          clear hY
          rcases Y with ⟨x, q'⟩ | ⟨cc, aa⟩
          · have hq' := hle x q' rfl
            have HG2 := Lib.hid hg
            have HCC := Lib.hid (show Calls Tryz.prog 127 #[.pointer (some ⟨w.heap.size, 0, none⟩)] wr (Gone wr B w.heap.size (.slice av b.length cv) (.func (.func 121) #[] #[]) s e q' (acc ++ [x])) from HC.out)
            clear hg hle hsm HC
            go_wp2_with fail
            refine HCC.out.mono ?_; rintro en w5 ⟨rfl, hr5, ha5⟩
            have HR5 := Lib.hid hr5
            have HA5 := Lib.hid (HAs.out.trans ha5)
            clear hr5 ha5
            go_wp2_with fail
            go_roundg (1 - (k + 1))
            case measure => omega
            case rel => exact ⟨k + 1, q', acc ++ [x], by omega, by go_num, hq', by rw [List.length_append, hacc]; rfl, HR5, HA5, HG2⟩
          · have hRb : R = .bad cc aa := hg.symm
            subst hRb
            have HCC := Lib.hid (show Calls Tryz.prog 127 #[.pointer (some ⟨w.heap.size, 0, none⟩)] wr (Lost wr B w.heap.size cc aa) from HC.out)
            clear hg hle hsm HC
            go_wp2_with fail
            refine HCC.out.mono ?_; rintro en w5 ⟨rfl, ha5⟩
            have HAd := Lib.hid (HAs.out.trans ha5)
            obtain ⟨k0, k1, k2, f2, f3⟩ := HKC.out _ HAd.out
            refine leaves_cons (f := 125) (args := #[.pointer (some ⟨w.heap.size + 1, 0, none⟩), .pointer (some ⟨w.heap.size + 1 + 1, 0, none⟩)]) (by simp) (by simp [go_sem]) ?_
            refine (mcatch_fault (w.heap.size + 1) (w.heap.size + 1 + 1) (by omega) cc aa _ _ k0 k1 k2 f2 f3).mono ?_
            rintro e9 u' w9 ⟨rfl, rfl, hc9⟩
            obtain ⟨_, m0, m1, m2⟩ := id hc9
            simp [Leaves, settle, results, Tryz.results120, go_sem, m0, m1, m2]
            exact HBAD.out _ _ _ _ HAd.out hc9
      · have hke : k = ks.length := by have := HN.out; omega
        have hg := HG.out
        rw [List.drop_eq_nil_of_le (by omega), goP] at hg
        have c2 := HRr.out.c2
        have c3 := HRr.out.c3
        have t1 : ¬ ((k : Int) < 1) := by omega
        by_cases hlast : q < e
        · rw [if_pos hlast] at hg
          subst hg
          have t2 : decide ((q : Int) < e) = true := by simp; omega
          have HFl := Lib.hid (rfail_any HRr.out)
          go_wp2_with fail
          refine HFl.out.mono ?_; rintro en w5 ⟨rfl, rfl⟩
          have HAd := Lib.hid (HAs.out)
          obtain ⟨k0, k1, k2, f2, f3⟩ := HKC.out _ HAd.out
          refine leaves_cons (f := 125) (args := #[.pointer (some ⟨w.heap.size + 1, 0, none⟩), .pointer (some ⟨w.heap.size + 1 + 1, 0, none⟩)]) (by simp) (by simp [go_sem]) ?_
          refine (mcatch_fault (w.heap.size + 1) (w.heap.size + 1 + 1) (by omega) 4 s _ _ k0 k1 k2 f2 f3).mono ?_
          rintro e9 u' w9 ⟨rfl, rfl, hc9⟩
          obtain ⟨_, m0, m1, m2⟩ := id hc9
          simp [Leaves, settle, results, Tryz.results120, go_sem, m0, m1, m2]
          exact HBAD.out _ _ _ _ HAd.out hc9
        · rw [if_neg hlast] at hg
          subst hg
          have t2 : decide ((q : Int) < e) = false := by simp; omega
          obtain ⟨vp, c5, hown⟩ := HRr.out.c5
          obtain ⟨ap, cp, hvp⟩ := hown.shape
          obtain ⟨zl, hzl⟩ : ∃ zl, acc.length = zl := ⟨_, rfl⟩
          rw [hzl] at hvp
          subst hvp
          clear hzl
          have HOwn := Lib.hid hown
          obtain ⟨k0, k1, k2, f2, f3⟩ := HKC.out _ HAs.out
          have HF := Lib.hid (HFIN.out _ _ _ HAs.out HOwn.out)
          have f20 := f2 0
          have f30 := f3 0
          have f31 := f3 1
          clear hown f2 f3
          go_wp2_with fail
          obtain ⟨Wf, hWf, x0, x1, x2, ho, hb⟩ := HF.out
          rw [← hWf]
          clear hWf
          refine leaves_cons (f := 125) (args := #[.pointer (some ⟨w.heap.size + 1, 0, none⟩), .pointer (some ⟨w.heap.size + 1 + 1, 0, none⟩)]) (by simp) (by simp [go_sem]) ?_
          refine (mcatch_idle ⟨w.heap.size + 1, 0, none⟩ ⟨w.heap.size + 1 + 1, 0, none⟩ _).mono ?_
          rintro en u' w9 ⟨rfl, rfl, rfl⟩
          have hal : Below Wf.heap.size Wf (Wf.alloc (.cells #[.int .i64 0, .int .i64 0] 186)) := (Below.refl _ Wf).alloc (Nat.le_refl _) _
          have a0 := cell_later hal x0
          have a1 := cell_later hal x1
          have a2 := cell_later hal x2
          simp [Leaves, settle, results, Tryz.results120, go_sem, a0, a1, a2]
          exact ⟨_, rfl, ho.below hal, hb.alloc hb.size _⟩
  · have hrow1 := hrow
    obtain ⟨gg, cg, _, hv, _⟩ := hrow
    subst hv
    obtain ⟨ks, hks⟩ : ∃ ks, kinds t = ks := ⟨_, rfl⟩
    rw [hks] at HR HSM0 HL0 hrow1 hl
    obtain ⟨nn, hn⟩ : ∃ nn, ks.length = nn := ⟨_, rfl⟩
    have HN := Lib.hid hn
    rw [hn] at hl hrow1 HL0
    have HROW := Lib.hid hrow1
    obtain ⟨HRR0, HCS0, HKC0, HSLA0, HFI0, HBAD0, HFIN0⟩ := rd_setup (f := 121) hb1 HSH.out hhi HFD.out
    have HRR := Lib.hid HRR0
    have HCS := Lib.hid HCS0
    have HKC := Lib.hid HKC0
    have HSLA := Lib.hid HSLA0
    have HFI := Lib.hid HFI0
    have HBAD := Lib.hid HBAD0
    have HFIN := Lib.hid HFIN0
    have HSM := HSM0
    have hn3 := HL0.out
    clear HRR0 HCS0 HKC0 HSLA0 HFI0 HBAD0 HFIN0 hrow1 hks hn hb1 hlook HB1 HPt
    go_wp2_with fail
    obtain ⟨w4, hw4⟩ : ∃ w4, w1 = w4 := ⟨_, rfl⟩
    rw [hw4] at HROW HRR HCS HKC HSLA HFI HBAD HFIN ⊢
    clear hw4
    obtain ⟨B, hB⟩ : ∃ B, w4.heap.size = B := ⟨_, rfl⟩
    have HB := Lib.hid hB
    rw [hB] at HRR HKC HSLA HFI HBAD HFIN
    clear hB
    go_loopg [22] nn (fun g v22 wr => ∃ (k q : Nat) (acc : List Pc), k + g = nn ∧ v22 = .int .i64 k ∧ q ≤ e ∧ acc.length = k ∧ Hid (Rr wr B w.heap.size (.slice av b.length cv) (.func (.func 121) #[] #[]) s q e acc) ∧ Hid (Aside (RG B w.heap.size) w4 wr) ∧ Hid (goP F b s e (ks.drop k) q acc = R))
    case atStart => exact ⟨0, p, [], by omega, rfl, hpe, rfl, HRR, Aside.refl _ _, HR⟩
    case round =>
      obtain ⟨k, q, acc, hk, rfl, hqe, hacc, HRr, HAs, HG⟩ := hrel
      by_cases hlt0 : k < nn
      · have hlt : k < ks.length := by have := HN.out; omega
        have hrow := (HROW.out).over (by omega) HCS.out (Nat.le_of_eq HB.out) HAs.out
        obtain ⟨g0, c0, _, he0, hcell⟩ := hrow
        injection he0 with he1 he2 he3
        injection he1 with he1
        injection he1 with he1 _ _
        subst he1
        clear he2 he3
        obtain ⟨u, hu, hpv⟩ := hcell k hlt
        have hg := HG.out
        rw [List.drop_eq_getElem_cons hlt, goP] at hg
        have hle := fun x y => step_le (F := F) (b := b) (s := s) (x := x) (q := y) hqe (k := ks[k])
        have hsm := HSM.out ks[k] (List.getElem_mem hlt)
        have HSL := Lib.hid (HSLA.out _ HAs.out)
        have HFO := Lib.hid (HFI.out.later HAs.out)
        have HST : Hid (∀ k0, ks[k] = k0 → stepP F b s e q ks[k] = stepP F b s e q k0) := fun k0 h => by rw [h]
        obtain ⟨k0, hk0⟩ : ∃ k0, ks[k] = k0 := ⟨_, rfl⟩
        rw [hk0] at hpv hg hle hsm
        obtain ⟨Y, hY⟩ : ∃ Y, stepP F b s e q k0 = Y := ⟨_, rfl⟩
        rw [hY] at hg hle
        clear hcell HST hk0
        cases k0 with
        | fix n =>
          obtain ⟨bx, _, rfl, hbx⟩ := hpv
          have HC : Hid (Calls Tryz.prog 136 #[.pointer (some ⟨w.heap.size, 0, none⟩), .pointer (some ⟨bx, 0, none⟩)] wr (StepPost wr B w.heap.size (.slice av b.length cv) (.func (.func 121) #[] #[]) s e acc Y)) := hY ▸ fixedR_any HRr.out HSL.out he hqe (by have := hsm n rfl; omega) hbl hbx (by omega)
          clear hY
          rcases Y with ⟨x, q'⟩ | ⟨cc, aa⟩
          · have hq' := hle x q' rfl
            have HG2 := Lib.hid hg
            have HCC := Lib.hid (show Calls Tryz.prog 136 #[.pointer (some ⟨w.heap.size, 0, none⟩), .pointer (some ⟨bx, 0, none⟩)] wr (Gone wr B w.heap.size (.slice av b.length cv) (.func (.func 121) #[] #[]) s e q' (acc ++ [x])) from HC.out)
            clear hg hle hsm HC
            go_wp2_with fail
            refine HCC.out.mono ?_; rintro en w5 ⟨rfl, hr5, ha5⟩
            have HR5 := Lib.hid hr5
            have HA5 := Lib.hid (HAs.out.trans ha5)
            clear hr5 ha5
            go_wp2_with fail
            go_roundg (nn - (k + 1))
            case measure => omega
            case rel => exact ⟨k + 1, q', acc ++ [x], by omega, by go_num, hq', by rw [List.length_append, hacc]; rfl, HR5, HA5, HG2⟩
          · have hRb : R = .bad cc aa := hg.symm
            subst hRb
            have HCC := Lib.hid (show Calls Tryz.prog 136 #[.pointer (some ⟨w.heap.size, 0, none⟩), .pointer (some ⟨bx, 0, none⟩)] wr (Lost wr B w.heap.size cc aa) from HC.out)
            clear hg hle hsm HC
            go_wp2_with fail
            refine HCC.out.mono ?_; rintro en w5 ⟨rfl, ha5⟩
            have HAd := Lib.hid (HAs.out.trans ha5)
            obtain ⟨k0, k1, k2, f2, f3⟩ := HKC.out _ HAd.out
            refine leaves_cons (f := 125) (args := #[.pointer (some ⟨w.heap.size + 1, 0, none⟩), .pointer (some ⟨w.heap.size + 1 + 1, 0, none⟩)]) (by simp) (by simp [go_sem]) ?_
            refine (mcatch_fault (w.heap.size + 1) (w.heap.size + 1 + 1) (by omega) cc aa _ _ k0 k1 k2 f2 f3).mono ?_
            rintro e9 u' w9 ⟨rfl, rfl, hc9⟩
            obtain ⟨_, m0, m1, m2⟩ := id hc9
            simp [Leaves, settle, results, Tryz.results120, go_sem, m0, m1, m2]
            exact HBAD.out _ _ _ _ HAd.out hc9
        | nam =>
          have hpv : u = _ := hpv; subst hpv
          have HC : Hid (Calls Tryz.prog 132 #[.pointer (some ⟨w.heap.size, 0, none⟩)] wr (StepPost wr B w.heap.size (.slice av b.length cv) (.func (.func 121) #[] #[]) s e acc Y)) := hY ▸ nameR_plain HRr.out HFO.out (by omega) (by omega)
          clear hY
          rcases Y with ⟨x, q'⟩ | ⟨cc, aa⟩
          · have hq' := hle x q' rfl
            have HG2 := Lib.hid hg
            have HCC := Lib.hid (show Calls Tryz.prog 132 #[.pointer (some ⟨w.heap.size, 0, none⟩)] wr (Gone wr B w.heap.size (.slice av b.length cv) (.func (.func 121) #[] #[]) s e q' (acc ++ [x])) from HC.out)
            clear hg hle hsm HC
            go_wp2_with fail
            refine HCC.out.mono ?_; rintro en w5 ⟨rfl, hr5, ha5⟩
            have HR5 := Lib.hid hr5
            have HA5 := Lib.hid (HAs.out.trans ha5)
            clear hr5 ha5
            go_wp2_with fail
            go_roundg (nn - (k + 1))
            case measure => omega
            case rel => exact ⟨k + 1, q', acc ++ [x], by omega, by go_num, hq', by rw [List.length_append, hacc]; rfl, HR5, HA5, HG2⟩
          · have hRb : R = .bad cc aa := hg.symm
            subst hRb
            have HCC := Lib.hid (show Calls Tryz.prog 132 #[.pointer (some ⟨w.heap.size, 0, none⟩)] wr (Lost wr B w.heap.size cc aa) from HC.out)
            clear hg hle hsm HC
            go_wp2_with fail
            refine HCC.out.mono ?_; rintro en w5 ⟨rfl, ha5⟩
            have HAd := Lib.hid (HAs.out.trans ha5)
            obtain ⟨k0, k1, k2, f2, f3⟩ := HKC.out _ HAd.out
            refine leaves_cons (f := 125) (args := #[.pointer (some ⟨w.heap.size + 1, 0, none⟩), .pointer (some ⟨w.heap.size + 1 + 1, 0, none⟩)]) (by simp) (by simp [go_sem]) ?_
            refine (mcatch_fault (w.heap.size + 1) (w.heap.size + 1 + 1) (by omega) cc aa _ _ k0 k1 k2 f2 f3).mono ?_
            rintro e9 u' w9 ⟨rfl, rfl, hc9⟩
            obtain ⟨_, m0, m1, m2⟩ := id hc9
            simp [Leaves, settle, results, Tryz.results120, go_sem, m0, m1, m2]
            exact HBAD.out _ _ _ _ HAd.out hc9
        | txt =>
          have hpv : u = _ := hpv; subst hpv
          have HC : Hid (Calls Tryz.prog 133 #[.pointer (some ⟨w.heap.size, 0, none⟩)] wr (StepPost wr B w.heap.size (.slice av b.length cv) (.func (.func 121) #[] #[]) s e acc Y)) := hY ▸ textsR_any HRr.out HSL.out he hqe hbl (by omega)
          clear hY
          rcases Y with ⟨x, q'⟩ | ⟨cc, aa⟩
          · have hq' := hle x q' rfl
            have HG2 := Lib.hid hg
            have HCC := Lib.hid (show Calls Tryz.prog 133 #[.pointer (some ⟨w.heap.size, 0, none⟩)] wr (Gone wr B w.heap.size (.slice av b.length cv) (.func (.func 121) #[] #[]) s e q' (acc ++ [x])) from HC.out)
            clear hg hle hsm HC
            go_wp2_with fail
            refine HCC.out.mono ?_; rintro en w5 ⟨rfl, hr5, ha5⟩
            have HR5 := Lib.hid hr5
            have HA5 := Lib.hid (HAs.out.trans ha5)
            clear hr5 ha5
            go_wp2_with fail
            go_roundg (nn - (k + 1))
            case measure => omega
            case rel => exact ⟨k + 1, q', acc ++ [x], by omega, by go_num, hq', by rw [List.length_append, hacc]; rfl, HR5, HA5, HG2⟩
          · have hRb : R = .bad cc aa := hg.symm
            subst hRb
            have HCC := Lib.hid (show Calls Tryz.prog 133 #[.pointer (some ⟨w.heap.size, 0, none⟩)] wr (Lost wr B w.heap.size cc aa) from HC.out)
            clear hg hle hsm HC
            go_wp2_with fail
            refine HCC.out.mono ?_; rintro en w5 ⟨rfl, ha5⟩
            have HAd := Lib.hid (HAs.out.trans ha5)
            obtain ⟨k0, k1, k2, f2, f3⟩ := HKC.out _ HAd.out
            refine leaves_cons (f := 125) (args := #[.pointer (some ⟨w.heap.size + 1, 0, none⟩), .pointer (some ⟨w.heap.size + 1 + 1, 0, none⟩)]) (by simp) (by simp [go_sem]) ?_
            refine (mcatch_fault (w.heap.size + 1) (w.heap.size + 1 + 1) (by omega) cc aa _ _ k0 k1 k2 f2 f3).mono ?_
            rintro e9 u' w9 ⟨rfl, rfl, hc9⟩
            obtain ⟨_, m0, m1, m2⟩ := id hc9
            simp [Leaves, settle, results, Tryz.results120, go_sem, m0, m1, m2]
            exact HBAD.out _ _ _ _ HAd.out hc9
        | rst =>
          have hpv : u = _ := hpv; subst hpv
          have HC : Hid (Calls Tryz.prog 127 #[.pointer (some ⟨w.heap.size, 0, none⟩)] wr (StepPost wr B w.heap.size (.slice av b.length cv) (.func (.func 121) #[] #[]) s e acc Y)) := hY ▸ restR_any HRr.out HSL.out he hqe (by omega)
          clear hY
          rcases Y with ⟨x, q'⟩ | ⟨cc, aa⟩
          · have hq' := hle x q' rfl
            have HG2 := Lib.hid hg
            have HCC := Lib.hid (show Calls Tryz.prog 127 #[.pointer (some ⟨w.heap.size, 0, none⟩)] wr (Gone wr B w.heap.size (.slice av b.length cv) (.func (.func 121) #[] #[]) s e q' (acc ++ [x])) from HC.out)
            clear hg hle hsm HC
            go_wp2_with fail
            refine HCC.out.mono ?_; rintro en w5 ⟨rfl, hr5, ha5⟩
            have HR5 := Lib.hid hr5
            have HA5 := Lib.hid (HAs.out.trans ha5)
            clear hr5 ha5
            go_wp2_with fail
            go_roundg (nn - (k + 1))
            case measure => omega
            case rel => exact ⟨k + 1, q', acc ++ [x], by omega, by go_num, hq', by rw [List.length_append, hacc]; rfl, HR5, HA5, HG2⟩
          · have hRb : R = .bad cc aa := hg.symm
            subst hRb
            have HCC := Lib.hid (show Calls Tryz.prog 127 #[.pointer (some ⟨w.heap.size, 0, none⟩)] wr (Lost wr B w.heap.size cc aa) from HC.out)
            clear hg hle hsm HC
            go_wp2_with fail
            refine HCC.out.mono ?_; rintro en w5 ⟨rfl, ha5⟩
            have HAd := Lib.hid (HAs.out.trans ha5)
            obtain ⟨k0, k1, k2, f2, f3⟩ := HKC.out _ HAd.out
            refine leaves_cons (f := 125) (args := #[.pointer (some ⟨w.heap.size + 1, 0, none⟩), .pointer (some ⟨w.heap.size + 1 + 1, 0, none⟩)]) (by simp) (by simp [go_sem]) ?_
            refine (mcatch_fault (w.heap.size + 1) (w.heap.size + 1 + 1) (by omega) cc aa _ _ k0 k1 k2 f2 f3).mono ?_
            rintro e9 u' w9 ⟨rfl, rfl, hc9⟩
            obtain ⟨_, m0, m1, m2⟩ := id hc9
            simp [Leaves, settle, results, Tryz.results120, go_sem, m0, m1, m2]
            exact HBAD.out _ _ _ _ HAd.out hc9
      · have hke : k = ks.length := by have := HN.out; omega
        have hg := HG.out
        rw [List.drop_eq_nil_of_le (by omega), goP] at hg
        have c2 := HRr.out.c2
        have c3 := HRr.out.c3
        have t1 : ¬ ((k : Int) < nn) := by omega
        by_cases hlast : q < e
        · rw [if_pos hlast] at hg
          subst hg
          have t2 : decide ((q : Int) < e) = true := by simp; omega
          have HFl := Lib.hid (rfail_any HRr.out)
          go_wp2_with fail
          refine HFl.out.mono ?_; rintro en w5 ⟨rfl, rfl⟩
          have HAd := Lib.hid (HAs.out)
          obtain ⟨k0, k1, k2, f2, f3⟩ := HKC.out _ HAd.out
          refine leaves_cons (f := 125) (args := #[.pointer (some ⟨w.heap.size + 1, 0, none⟩), .pointer (some ⟨w.heap.size + 1 + 1, 0, none⟩)]) (by simp) (by simp [go_sem]) ?_
          refine (mcatch_fault (w.heap.size + 1) (w.heap.size + 1 + 1) (by omega) 4 s _ _ k0 k1 k2 f2 f3).mono ?_
          rintro e9 u' w9 ⟨rfl, rfl, hc9⟩
          obtain ⟨_, m0, m1, m2⟩ := id hc9
          simp [Leaves, settle, results, Tryz.results120, go_sem, m0, m1, m2]
          exact HBAD.out _ _ _ _ HAd.out hc9
        · rw [if_neg hlast] at hg
          subst hg
          have t2 : decide ((q : Int) < e) = false := by simp; omega
          obtain ⟨vp, c5, hown⟩ := HRr.out.c5
          obtain ⟨ap, cp, hvp⟩ := hown.shape
          obtain ⟨zl, hzl⟩ : ∃ zl, acc.length = zl := ⟨_, rfl⟩
          rw [hzl] at hvp
          subst hvp
          clear hzl
          have HOwn := Lib.hid hown
          obtain ⟨k0, k1, k2, f2, f3⟩ := HKC.out _ HAs.out
          have HF := Lib.hid (HFIN.out _ _ _ HAs.out HOwn.out)
          have f20 := f2 0
          have f30 := f3 0
          have f31 := f3 1
          clear hown f2 f3
          go_wp2_with fail
          obtain ⟨Wf, hWf, x0, x1, x2, ho, hb⟩ := HF.out
          rw [← hWf]
          clear hWf
          refine leaves_cons (f := 125) (args := #[.pointer (some ⟨w.heap.size + 1, 0, none⟩), .pointer (some ⟨w.heap.size + 1 + 1, 0, none⟩)]) (by simp) (by simp [go_sem]) ?_
          refine (mcatch_idle ⟨w.heap.size + 1, 0, none⟩ ⟨w.heap.size + 1 + 1, 0, none⟩ _).mono ?_
          rintro en u' w9 ⟨rfl, rfl, rfl⟩
          have hal : Below Wf.heap.size Wf (Wf.alloc (.cells #[.int .i64 0, .int .i64 0] 186)) := (Below.refl _ Wf).alloc (Nat.le_refl _) _
          have a0 := cell_later hal x0
          have a1 := cell_later hal x1
          have a2 := cell_later hal x2
          simp [Leaves, settle, results, Tryz.results120, go_sem, a0, a1, a2]
          exact ⟨_, rfl, ho.below hal, hb.alloc hb.size _⟩
end Go.Proofs.YtpdaekgldgoalaaGreat
