/-
  The document's reader: Push, the walk.
-/
import Derived.Test.YtkoohdacneflfaaGreatDoorW00
import Derived.Test.YtkoohdacneflfaaGreatDoorZ11
import Derived.BigRegion
import Derived.Deep.RegionLaw
import Derived.Deep.RegionHeld
namespace Go.Proofs.YtkoohdacneflfaaGreatDoor
open Go.RowKit Go.Shelf
set_option linter.unusedVariables false
set_option linter.unusedSimpArgs false
set_option maxRecDepth 100000

set_option maxHeartbeats 1000000 in
theorem pushC_out {w : World} {D g : Nat} {l : List UInt8} {bv : Value} (h : Rc w D g l true) :
    Calls Tryz.prog 14 #[.pointer (some ⟨D, 0, none⟩), bv] w fun e w' => e = .returned (.tuple #[.slice none 0 0, .int .i64 9]) ∧ w' = w := by
  obtain ⟨v, c0, c1, cz, hs, hty⟩ := h
  clear hs hty
  go_enter Tryz.func14, Tryz.ntmps14
  go_wp2_with fail
  go_ret2
  exact ⟨rfl, rfl⟩

set_option maxHeartbeats 8000000 in
theorem pushC_any {w : World} {D g0 : Nat} {l p : List UInt8} {bv : Value} {out : Bool} (h : Rc w D g0 l out) (hs : Sl w 0 w.heap.size bv (iz p)) (ho : out = true → l = []) (hL : (l ++ p).length ≤ 900000) :
    Calls Tryz.prog 14 #[.pointer (some ⟨D, 0, none⟩), bv] w (PushC w D out (stepX l out p)) := by
  cases out with
  | true =>
    refine (pushC_out h).mono ?_
    rintro e w' ⟨rfl, rfl⟩
    have := ho rfl
    subst this
    exact ⟨_, [], g0, rfl, rfl, TI.nil _ _ _ _, h, .inr rfl, Aside.refl _ _⟩
  | false =>
    have hD := h.lt
    obtain ⟨v, c0, c1, cz, hsv, hty⟩ := h
    obtain ⟨va, vc, rfl⟩ := sl_shape hsv rfl
    obtain ⟨pa, pc, rfl⟩ := sl_shape hs rfl
    have hb1 : Below w.heap.size w (w.alloc (.cells #[] 5)) := (Below.refl _ _).alloc (Nat.le_refl _) _
    have o1 : OwnB (w.alloc (.cells #[] 5)) w.heap.size (.slice (some ⟨w.heap.size, 0, none⟩) 0 0) [] :=
      .inr ⟨w.heap.size, 0, (0, 0), rfl, Nat.le_refl _, Nat.le_refl _, Nat.zero_le _, .inl rfl, heap_alloc_new w _⟩
    have hLl : (l ++ p).length = l.length + p.length := List.length_append
    obtain ⟨ra, rc, w1, hrun1, ro1, rA1⟩ := run_appBs w.heap.size _ (.slice va l.length vc) [] l o1 (sl_apart3 hsv (Aside.of_all (G := fun _ => False) hb1) (.inl fun h => h)) (by simp; omega) (by simp)
    simp only [List.length_nil, Nat.zero_add, List.nil_append] at hrun1 ro1
    have hb2 : Below w.heap.size w w1 := hb1.trans (rA1.below fun k hk => ⟨by simp; omega, fun e => by have e2 : w.heap.size = k := (by injection e); omega⟩)
    obtain ⟨na, nc, w2, hrun2, ro2, rA2⟩ := run_appBs w.heap.size _ (.slice pa p.length pc) l p ro1 (hs.below hb2 (Nat.le_refl _)) (by omega) hb2.size
    have hb3 : Below w.heap.size w w2 := hb2.trans (rA2.below fun k hk => ⟨Nat.lt_of_lt_of_le hk hb2.size, fun e => by have := (ro1.lt k e).1; omega⟩)
    rw [← hLl] at hrun2 ro2
    obtain ⟨L, hLL⟩ : ∃ L, l ++ p = L := ⟨_, rfl⟩
    rw [hLL] at hrun2 ro2 hL
    have hst : Aside (fun k => k = D) w2 (w2.setCell ⟨D, 0, none⟩ (.slice na L.length nc)) := Aside.setCell w2 (p := ⟨D, 0, none⟩) _ rfl
    have k0 : w2.cell? ⟨D, 0, none⟩ = some (.slice va l.length vc) := (hb3.cell (p := ⟨D, 0, none⟩) hD).trans c0
    have k1 : w2.cell? ⟨D, 1, none⟩ = some (.bool false) := (hb3.cell (p := ⟨D, 1, none⟩) hD).trans c1
    have kz : ∀ j, w2.frozen? ⟨D, j, none⟩ = false := fun j => ((Aside.of_all (G := fun _ => False) hb3).frozen (p := ⟨D, j, none⟩) hD fun h => h).trans (cz j)
    have m0 : w1.cell? ⟨D, 0, none⟩ = some (.slice va l.length vc) := (hb2.cell (p := ⟨D, 0, none⟩) hD).trans c0
    have ro3 := ro2.aside hst fun k hk e => by have := (ro2.lt k hk).1; omega
    obtain ⟨g, hg, hsg⟩ := ro3.slg 0
    have HG := Lib.hid (show (Value.slice na L.length nc).ownBlock = some g ∨ L = [] from hg.imp id fun h => h.2)
    have HI0 := Lib.hid (show PcI w D g (.slice na L.length nc) L (w2.setCell ⟨D, 0, none⟩ (.slice na L.length nc)) (.slice none 0 0) [] L from
      ⟨⟨_, World.cell?_setCell_same _ _ _ k0, (World.cell?_setCell_other _ _ _ _ (by simp)).trans k1, fun j => by rw [World.frozen?_setCell]; exact kz j, hsg, TyD.set (by obtain ⟨z, fz, ht⟩ := hty; exact ⟨z, fz, (hb3.block D hD).trans ht⟩) 0 _⟩, ro3, TI.nil _ _ _ _, by simp, by simp, Nat.le_refl _, (Aside.of_all hb3).trans hst⟩)
    have HD := Lib.hid hD
    have HLN := Lib.hid hL
    have HX := Lib.hid (show stepX l false p = runH L from by rw [← hLL]; rfl)
    rw [HX.out]
    have kz0 := kz 0
    have hDw : D < w.heap.size := hD
    clear hsv hty hs hb1 o1 hb2 hb3 ro1 ro2 ro3 rA1 rA2 hst k1 kz hg hsg hL hLL hLl ho
    go_enter Tryz.func14, Tryz.ntmps14
    go_wp2_with (at_builtin; first | refine wpList_append_run (.tmp 15) (.tmp 19) 28 28 rfl rfl rfl rfl hrun1 ?_ | refine wpList_append_run (.tmp 20) (.tmp 21) 28 28 rfl rfl rfl rfl hrun2 ?_)
    clear c0 c1 cz k0 m0 kz0 hrun1 hrun2
    obtain ⟨W3, hW3⟩ : ∃ W, w2.setCell ⟨D, 0, none⟩ (.slice na L.length nc) = W := ⟨_, rfl⟩
    rw [hW3] at HI0 ⊢
    clear hW3
    go_loopg [6, 7, 8, 9] L.length (fun g6 v6 _ _ _ wr => ∃ (ps : List Rp) (b : List UInt8) (a6 : Option Addr) (c6 : Nat), v6 = .slice a6 ps.length c6 ∧ b.length = g6 ∧ Hid (PcI w D g (.slice na L.length nc) L wr (.slice a6 ps.length c6) ps b))
    case atStart => exact ⟨[], L, none, 0, rfl, rfl, HI0⟩
    case round =>
      clear HI0
      obtain ⟨ps, b, a6, c6, rfl, hg6, HI⟩ := hrel
      have HG6 := Lib.hid hg6
      clear hg6
      obtain ⟨vb, d0, d1, dz, hsb, _⟩ := HI.out.rd
      obtain ⟨ba, bc, rfl⟩ := sl_shape hsb rfl
      have HO := Lib.hid (one_any (w := wr) (b := b) (v := .slice ba b.length bc) (by
        rcases sl_in' hsb with e | e
        · exact hsb.wide (Nat.zero_le _) (by omega)
        · subst e
          obtain ⟨a', c', e1, h1, h2, _⟩ := hsb
          exact ⟨a', c', e1, h1, h2, fun h0 => by simp [iz] at h0⟩) (by have := HI.out.le; have := HLN.out; omega))
      clear hsb
      go_wp2_with fail
      refine HO.out.mono ?_
      rintro e w5 ⟨hb5, hcase⟩
      rcases hcase with ⟨hn, st, rfl⟩ | ⟨⟨⟨pst, ph, pb, pk⟩, ps', pbv⟩, n, hn, rfl, hp⟩
      · have hrun := run_none hn
        have hR := HI.out.run
        rw [hrun, List.append_nil] at hR
        have HF := Lib.hid (fun W (hb : Below w5.heap.size w5 W) => show PushC w D false (runH L) (.returned (.tuple #[.slice a6 ps.length c6, .int .i64 0])) W from by
          have hbw := hb5.trans (hb.mono hb5.size)
          have hrd := HI.out.rd.below hbw
          refine ⟨_, ps, g, rfl, by rw [hR], HI.out.ti.below hbw, by rw [hR]; exact hrd, ?_, HI.out.asd.trans (Aside.of_all hbw)⟩
          rcases HG.out with h | h
          · exact .inl (HI.out.kp.lt g h).1
          · right
            rw [hR]
            have := HI.out.le
            rw [h] at this
            exact List.eq_nil_of_length_eq_zero (by simpa using this))
        clear hn hrun hR d0 d1 dz
        go_wp2_with fail
        go_ret2
        exact HF.out _ ((Below.refl _ _).alloc (Nat.le_refl _) _)
      · obtain ⟨xa, xc, hps⟩ := hp.f.shape
        obtain ⟨ya, yc, hpb⟩ := hp.b.shape
        simp only at hps hpb
        subst hps; subst hpb
        obtain ⟨a7, c7, w7, ua, uc, happ, kz, k1, k0, hq7, hD7, hw57, fa, fn, fc, hfr, ht1, ht2⟩ := HI.out.told HD.out HG.out HLN.out hb5 hn hp
        have HT1 := Lib.hid ht1
        have HT2 := Lib.hid ht2
        have HN4 := Lib.hid (one_some hn)
        obtain ⟨q0, _, _, _, _, _, q6⟩ := hq7.seven
        have kz0 := kz 0
        have kz1 := kz 1
        have hD5 : D < w5.heap.size := by have := hb5.size; have := HI.out.rd.lt; omega
        have hrun := happ
        simp only [cI, List.toArray] at hrun
        simp only [vI]
        clear hn hb5 hp hq7 ht1 ht2 d0 d1 dz happ kz
        by_cases h2 : pst = 200
        · subst h2
          cases pk with
          | true =>
            have HI8 := Lib.hid (HT1.out (by simp [lastH]))
            go_wp2_with (at_builtin; refine Lib.wpList_append_run _ rfl _ _ _ _ rfl _ _ rfl rfl _ _ hrun ?_)
            go_roundg (b.drop n).length
            case measure =>
              have h3 := HG6.out
              have h4 := HN4.out.1
              have h5 := HN4.out.2 trivial
              rw [List.length_drop]
              omega
            case rel => exact ⟨ps ++ [(⟨⟨_, ph, pb, _⟩, .slice xa ph.fs.length xc, .slice ya pb.length yc⟩ : Rp)], b.drop n, _, _, by rw [List.length_append, List.length_singleton], rfl, by rw [List.length_append, List.length_singleton]; exact HI8⟩
          | false =>
            have HP := Lib.hid (HT2.out (by simp [lastH]))
            go_wp2_with (at_builtin; refine Lib.wpList_append_run _ rfl _ _ _ _ rfl _ _ rfl rfl _ _ hrun ?_)
            go_ret2
            exact HP.out
        · have t2 : (pst == 200) = false := by simpa using h2
          have HP := Lib.hid (HT2.out (by simp [lastH, h2]))
          go_wp2_with (at_builtin; refine Lib.wpList_append_run _ rfl _ _ _ _ rfl _ _ rfl rfl _ _ hrun ?_)
          go_ret2
          exact HP.out
end Go.Proofs.YtkoohdacneflfaaGreatDoor

/-
  The law's Long.
-/
namespace Go.Proofs.YtkoohdacneflfaaGreatDoor
open Go.RowKit Go.Shelf
set_option linter.unusedVariables false
set_option linter.unusedSimpArgs false
set_option maxRecDepth 100000

/-- Are pieces more than are gone through? -/
def longP (l : List (List UInt8)) : Bool := decide (60 < l.length) || decide (9000 < l.flatten.length)

theorem flat_takeP (l : List (List UInt8)) (k : Nat) (hk : k < l.length) : (l.take (k + 1)).flatten.length = (l.take k).flatten.length + (l.getD k []).length := by
  rw [List.take_add_one, List.getElem?_eq_getElem hk, List.flatten_append, List.length_append, List.getD, List.getElem?_eq_getElem hk]
  simp

theorem flat_leP (l : List (List UInt8)) (k : Nat) : (l.take k).flatten.length ≤ l.flatten.length := by
  have e : l.flatten.length = (l.take k).flatten.length + (l.drop k).flatten.length := by
    rw [← List.length_append, ← List.flatten_append, List.take_append_drop]
  omega

set_option maxHeartbeats 2000000 in
theorem long14_any {w : World} {v : Value} {l : List (List UInt8)} (h : Bl w v l) (hl : l.length ≤ 140737488355328) (he : ∀ j, j < l.length → (l.getD j []).length ≤ 140737488355328) :
    Calls Tryz.prog 10 #[v] w fun e w' => e = .returned (.bool (longP l)) ∧ w' = w := by
  obtain ⟨a, c, rfl, _, hp⟩ := h
  have HP := Lib.hid hp
  have HE := Lib.hid he
  clear hp he
  go_enter Tryz.func10, Tryz.ntmps10
  go_wp2_with fail
  go_loopw [3, 4] (fun n i wr => ∃ k s : Nat, k ≤ l.length ∧ i = .int .i64 k ∧ n = .int .i64 s ∧ Hid (s = (l.take k).flatten.length) ∧ s ≤ 140737488364328 ∧ wr = w) (fun n i _ => l.length - (intOf i).toNat)
  case atStart => exact ⟨0, 0, by omega, rfl, rfl, Lib.hid (by simp), by omega, rfl⟩
  case round =>
    obtain ⟨k, s, hk, rfl, rfl, HS, hs, rfl⟩ := hrel
    have hfin : ∀ (q : Bool), q = longP l → q = longP l := fun _ h => h
    by_cases hlt : k < l.length
    · have t1 : (k : Int) < l.length := by omega
      by_cases hbig : 9000 < s
      · have t2 : ¬ (s : Int) ≤ 9000 := by omega
        have t3 : (9000 : Int) < s := by omega
        have hL : longP l = true := by
          have h1 := HS.out
          have h2 := flat_leP l k
          unfold longP
          rw [decide_eq_true (show 9000 < l.flatten.length by omega), Bool.or_true]
        have HL := Lib.hid hL
        clear hfin hL
        by_cases t4 : (60 : Int) < l.length
        · go_wp2_with fail
          go_ret
          exact ⟨by rw [HL.out]; rfl, rfl⟩
        · go_wp2_with fail
          go_ret
          exact ⟨by rw [HL.out]; rfl, rfl⟩
      · have t2 : (s : Int) ≤ 9000 := by omega
        obtain ⟨b, o, rfl, _, hc⟩ := HP.out (by omega)
        obtain ⟨u, c1, c2⟩ := hc k hlt
        obtain ⟨ua, uc, rfl, _⟩ := c2
        rw [iz_len] at c1
        have hb := HE.out k hlt
        have ht := Lib.hid ((flat_takeP l k hlt).trans (by rw [← HS.out]))
        obtain ⟨z, hz⟩ : ∃ z, (l.getD k []).length = z := ⟨_, rfl⟩
        rw [hz] at c1 hb ht
        clear hc hfin hz
        go_wp2_with fail
        refine ⟨⟨k + 1, s + z, by omega, by go_num, by go_num, Lib.hid ht.out.symm, by omega, trivial⟩, ?_⟩
        simp [intOf]; omega
    · have t1 : ¬ (k : Int) < l.length := by omega
      have hL : longP l = (decide (60 < l.length) || decide (9000 < s)) := by
        have h1 := HS.out
        rw [List.take_of_length_le (by omega)] at h1
        unfold longP
        rw [h1]
      have HL := Lib.hid hL
      clear hfin hL
      by_cases t4 : (60 : Int) < l.length
      · have e1 : decide (60 < l.length) = true := decide_eq_true (by omega)
        rw [e1] at HL
        go_wp2_with fail
        go_ret
        exact ⟨by rw [HL.out]; rfl, rfl⟩
      · have e1 : decide (60 < l.length) = false := decide_eq_false (by omega)
        rw [e1] at HL
        by_cases t5 : (9000 : Int) < s
        · have e2 : decide (9000 < s) = true := decide_eq_true (by omega)
          rw [e2] at HL
          go_wp2_with fail
          go_ret
          exact ⟨by rw [HL.out]; rfl, rfl⟩
        · have e2 : decide (9000 < s) = false := decide_eq_false (by omega)
          rw [e2] at HL
          go_wp2_with fail
          go_ret
          exact ⟨by rw [HL.out]; rfl, rfl⟩

/-- The two readers, between the rounds. -/
structure ScI (w : World) (D : Nat) (ls : List (List UInt8)) (k : Nat) (o : Option Nat) (g : Nat) (l : List UInt8) (out : Bool) (W : World) : Prop where
  rk : Rk W w.heap.size o w.heap.size l out
  rc : Rc W D g l out
  len : l.length ≤ (ls.take k).flatten.length
  sep : ∀ x, o = some x → D < x ∧ (x ≠ g ∨ l = [])
  gr : (g ≠ w.heap.size ∧ g ≠ D) ∨ l = []
  dlt : w.heap.size < D ∧ D < W.heap.size
  bel : Below w.heap.size w W

/-- Within a round, behind both pushes. -/
structure Mid (w : World) (D B4 B5 g : Nat) (o : Option Nat) (l : List UInt8) (out : Bool) (vx : Value) (ps : List Rp) (W : World) : Prop where
  rk : Rk W w.heap.size o w.heap.size l out
  rc : Rc W D g l out
  row : OwnI W B4 vx ps
  ov : ∀ p ∈ ps, OvB W B4 p.b
  lim : ∀ p ∈ ps, ∀ b, p.b.ownBlock = some b → B4 ≤ b ∧ b < B5 ∧ o ≠ some b
  off : ∀ x, o = some x → D < x ∧ (x ≠ g ∨ l = [])
  gk : (g ≠ w.heap.size ∧ g ≠ D ∧ B5 ≤ g) ∨ l = []
  dlt : w.heap.size < D ∧ D < B4 ∧ B4 ≤ B5 ∧ D < W.heap.size
  bel : Below w.heap.size w W

theorem OvB.typ {W : World} {B : Nat} {u : Value} (h : OvB W B u) : ∀ b, u.ownBlock = some b → ∃ z fz, W.heap[b]? = some (.cells z 5 fz) := fun b hb => by
  rcases h with rfl | ⟨g, n, c, rfl, _, _, _, l2, f2, _, _, hg⟩
  · cases hb
  · injection hb with hb
    subst hb
    exact ⟨_, _, hg⟩
theorem OvB.below {w w' : World} {B : Nat} {u : Value} (h : OvB w B u) (hb : Below w.heap.size w w') : OvB w' B u := by
  rcases h with h | ⟨g, n, c, h1, h2, h3, h4, l, fz, h5, h6, h7⟩
  · exact .inl h
  · exact .inr ⟨g, n, c, h1, h2, h3, h4, l, fz, h5, h6, (hb.block g (Array.getElem?_eq_some_iff.mp h7).1).trans h7⟩
section
variable {w W W' : World} {D B4 B5 g : Nat} {o : Option Nat} {l : List UInt8} {out : Bool} {vx u : Value} {ps : List Rp} {p : Rp}
theorem Mid.turn {G : Nat → Prop} (h : Mid w D B4 B5 g o l out vx ps W) (ha : Aside G W W') (hG : ∀ b, G b → w.heap.size < b ∧ b ≠ D ∧ (b ≠ g ∨ l = []) ∧ o ≠ some b ∧ vx.ownBlock ≠ some b ∧ ∃ z fz, W.heap[b]? = some (.cells z 5 fz)) (hov : ∀ B' u, OvB W B' u → OvB W' B' u) : Mid w D B4 B5 g o l out vx ps W' := by
  have hs := h.bel.size
  refine ⟨h.rk.aside ha (fun e => by have := (hG _ e).1; omega) (fun x hx e => (hG x e).2.2.2.1 hx) (fun b hb => by
    obtain ⟨_, _, _, _, _, z, fz, hz⟩ := hG b hb
    exact .inr (.inr ⟨z, fz, _, hz, by decide⟩)), h.rc.aside ha (fun e => (hG _ e).2.1 rfl) ?_, row_aside h.row ha fun b hb e => (hG b e).2.2.2.2.1 hb, fun p hp => hov _ _ (h.ov p hp), h.lim, h.off, h.gk, ⟨h.dlt.1, h.dlt.2.1, h.dlt.2.2.1, Nat.lt_of_lt_of_le h.dlt.2.2.2 ha.size⟩, h.bel.trans (ha.below fun b hb => ⟨by omega, fun e => by have := (hG b e).1; omega⟩)⟩
  by_cases hl : l = []
  · exact .inr hl
  · exact .inl fun e => by
      rcases (hG g e).2.2.1 with h1 | h1
      · exact h1 rfl
      · exact hl h1
theorem Mid.below (h : Mid w D B4 B5 g o l out vx ps W) (hb : Below W.heap.size W W') : Mid w D B4 B5 g o l out vx ps W' :=
  h.turn (G := fun _ => False) (Aside.of_all hb) (fun _ h => h.elim) fun _ _ hu => hu.below hb
/-- A told body is written over. -/
theorem Mid.over (h : Mid w D B4 B5 g o l out vx ps W) (hp : p ∈ ps) (ha : Aside (fun b => p.b.ownBlock = some b) W W') (hov : ∀ B' u, OvB W B' u → OvB W' B' u) : Mid w D B4 B5 g o l out vx ps W' :=
  h.turn ha (fun b hb => by
    have h1 := h.lim p hp b hb
    have h2 := h.dlt
    refine ⟨by omega, by omega, ?_, h1.2.2, fun e => row_apartV (h.ov p hp) h.row (by decide) b hb e, (h.ov p hp).typ b hb⟩
    rcases h.gk with h3 | h3
    · exact .inl (by omega)
    · exact .inr h3) hov
/-- What was handed in is written over. -/
theorem Mid.hand (h : Mid w D B4 B5 g o l out vx ps W) (hu : OvB W B4 u ∨ True) (ht : ∀ b, u.ownBlock = some b → (∃ z fz, W.heap[b]? = some (.cells z 5 fz)) ∧ D < b ∧ b < B4 ∧ o ≠ some b) (ha : Aside (fun b => u.ownBlock = some b) W W') (hov : ∀ B' u, OvB W B' u → OvB W' B' u) : Mid w D B4 B5 g o l out vx ps W' :=
  h.turn ha (fun b hb => by
    obtain ⟨h1, h2, h3, h4⟩ := ht b hb
    have h5 := h.dlt
    refine ⟨by omega, by omega, ?_, h4, fun e => by have := (World.ownsRow.lt h.row b e).1; omega, h1⟩
    rcases h.gk with h6 | h6
    · exact .inl (by omega)
    · exact .inr h6) hov
theorem Mid.next {ls : List (List UInt8)} {k : Nat} (h : Mid w D B4 B5 g o l out vx ps W) (hl : l.length ≤ (ls.take k).flatten.length) : ScI w D ls k o g l out W :=
  ⟨h.rk, h.rc, hl, h.off, h.gk.imp (fun h => ⟨h.1, h.2.1⟩) id, ⟨h.dlt.1, h.dlt.2.2.2⟩, h.bel⟩
end

/-- Behind both pushes. -/
theorem ScI.mid {w wr w4 w5 w6 : World} {D k g g' : Nat} {ls : List (List UInt8)} {o o2 : Option Nat} {l : List UInt8} {out : Bool} {X : List Ih × List UInt8 × Bool} {vx : Value} {psx : List Rp} (h : ScI w D ls k o g l out wr)
    (b4 : Below wr.heap.size wr w4) (tx : TI w5 w.heap.size w4.heap.size (fun j => j = w.heap.size ∨ o2 = some j) vx psx) (r5 : Rk w5 w.heap.size o2 w.heap.size X.2.1 X.2.2) (ho2 : ∀ x, o2 = some x → o = some x ∨ w4.heap.size ≤ x) (h5 : Aside (fun j => j = w.heap.size ∨ o = some j) w4 w5)
    (rc6 : Rc w6 D g' X.2.1 X.2.2) (hg' : w5.heap.size ≤ g' ∨ X.2.1 = []) (h6 : Aside (fun j => j = D) w5 w6) : Mid w D w4.heap.size w5.heap.size g' o2 X.2.1 X.2.2 vx psx w6 := by
  have hd := h.dlt
  have hs4 := b4.size
  have hs5 := h5.size
  have hs6 := h6.size
  have ho5 : ∀ x, o2 = some x → D < x ∧ x < w5.heap.size := fun x hx => ⟨by
    rcases ho2 x hx with e | e
    · exact (h.sep x e).1
    · omega, (r5.olt x hx).2.1⟩
  have t6 := tx.aside (X' := fun j => j = w.heap.size ∨ o2 = some j) (G := fun j => j = D) h6
  have hrow : OwnI w6 w4.heap.size vx psx := row_aside tx.row h6 fun b hb e => by have := (tx.lt b hb).1; omega
  refine ⟨r5.aside h6 (by omega) (fun x hx e => by have := ho5 x hx; omega) (fun b hb => ?_), rc6, hrow, fun p hp => ?_, fun p hp b hb => ?_, fun x hx => ?_, ?_, ⟨hd.1, by omega, hs5, by omega⟩, ?_⟩
  · -- the document's reader's block is none of fields
    subst hb
    obtain ⟨v, _, _, _, _, z, fz, hz⟩ := h.rc
    have h4 : w5.heap[b]? = some (.cells z 30 fz) := (h5.block b (by omega) (fun e => by
      rcases e with e | e
      · omega
      · have := (h.sep b e).1; omega)).trans ((b4.block b hd.2).trans hz)
    exact .inr (.inr ⟨z, fz, _, h4, by decide⟩)
  · exact ((tx.each p hp).b.aside h6 fun b hb e => by have := ((tx.each p hp).b.lt b hb).1; omega).ov
  · have h1 := (tx.each p hp).b.lt b hb
    exact ⟨h1.1, h1.2, fun e => (tx.each p hp).bx b hb (.inr e)⟩
  · have h1 := ho5 x hx
    refine ⟨h1.1, ?_⟩
    rcases hg' with e | e
    · exact .inl (by omega)
    · exact .inr e
  · rcases hg' with e | e
    · exact .inl ⟨by omega, by omega, e⟩
    · exact .inr e
  · exact ((h.bel.trans (b4.mono h.bel.size)).trans (h5.below fun b hb => ⟨by have := h.bel.size; omega, fun e => by
      rcases e with e | e
      · omega
      · have := (h.sep b e).1; omega⟩)).trans (h6.below fun b hb => ⟨by have := h.bel.size; omega, by omega⟩)
end Go.Proofs.YtkoohdacneflfaaGreatDoor

/-
  The law HttpScript.
-/
namespace Go.Proofs.YtkoohdacneflfaaGreatDoor
open Go.RowKit Go.Shelf
set_option linter.unusedVariables false
set_option linter.unusedSimpArgs false
set_option maxRecDepth 100000

theorem ownI_at {w : World} {B n c : Nat} {a : Option Addr} {l : List Rp} (h : OwnI w B (.slice a n c) l) (h0 : 0 < l.length) : ∃ b, a = some ⟨b, 0, none⟩ ∧ b < w.heap.size ∧ ∀ j (hj : j < l.length), AtI w b (j * 7) l[j] := by
  have hl := World.ownsRow.lt h
  rcases h.2 with ⟨e, h1⟩ | ⟨g, cap, cur, e, hB, hg, hc, hx⟩
  · omega
  · injection e with e1 e2 e3
    refine ⟨g, e1, (hl g (by rw [e1]; rfl)).2, fun j hj => ?_⟩
    have cs := World.ownsRow.cells h (g := g) (by rw [e1]; rfl)
    have key : ∀ i u, (cI l[j])[i]? = some u → w.cell? ⟨g, j * 7 + i, none⟩ = some u := fun i u hu => by
      have := cs (j * 7 + i) u (flat_at (f := cI) (k := 7) (fun _ => rfl) l j hj i u hu)
      rw [WideShapes.add_plain, Nat.zero_add] at this
      exact this
    exact ⟨key 0 _ rfl, key 1 _ rfl, key 2 _ rfl, key 3 _ rfl, key 4 _ rfl, key 5 _ rfl, key 6 _ rfl⟩

set_option maxHeartbeats 8000000 in
theorem script_any {w : World} {lv : Value} {ls : List (List UInt8)} (h : Bl w lv ls) (hE : Env w) (hl : ls.length ≤ 140737488355328) (he : ∀ j, j < ls.length → (ls.getD j []).length ≤ 140737488355328) :
    Calls Tryz.prog 3 #[lv] w (Tells w (.bool true)) := by
  have HA := Lib.hid (fun W (hb : Below w.heap.size w W) => awake_any (hE.later hb))
  have HNW := Lib.hid (new_any w w.heap.size (Nat.le_refl _))
  have HEN := Lib.hid (EnvN.of hE)
  have HLO := Lib.hid (fun W (hb : Below w.heap.size w W) => long14_any (h.below hb) hl he)
  obtain ⟨a, c, rfl, hlc, hel⟩ := h.one
  have HE := Lib.hid hel
  have e9 := ptr_not
  clear h hel he hE
  obtain ⟨LB, hLB⟩ : ∃ b, longP ls = b := ⟨_, rfl⟩
  rw [hLB] at HLO
  cases LB with
  | true =>
    clear hLB
    go_enter Tryz.func3, Tryz.ntmps3
    go_wp2_with fail
    refine HNW.out.mono ?_; rintro e w1 ⟨rfl, r1, b1⟩
    have B1 := Lib.hid b1
    have HLO1 := Lib.hid (HLO.out w1 b1)
    clear r1 b1
    go_wp2_with fail
    refine HLO1.out.mono ?_; rintro e w2 ⟨rfl, rfl⟩
    go_wp2_with fail
    refine (HA.out _ B1.out).mono ?_; rintro e w3 ⟨rfl, b3⟩
    have B3 := Lib.hid (B1.out.trans (b3.mono B1.out.size))
    clear b3
    go_wp2_with fail
    go_ret
    exact ⟨rfl, B3.out⟩
  | false =>
    have hl60 : ls.length ≤ 60 := by
      unfold longP at hLB
      simp at hLB
      omega
    have hfl : ls.flatten.length ≤ 9000 := by
      unfold longP at hLB
      have h2 := (Bool.or_eq_false_iff.mp hLB).2
      have := of_decide_eq_false h2
      omega
    clear hLB hl
    go_enter Tryz.func3, Tryz.ntmps3
    go_wp2_with fail
    refine HNW.out.mono ?_; rintro e w1 ⟨rfl, r1, b1⟩
    have B1 := Lib.hid b1
    have HLO1 := Lib.hid (HLO.out w1 b1)
    have R1 := Lib.hid r1
    clear r1 b1 HNW HLO
    go_wp2_with fail
    refine HLO1.out.mono ?_; rintro e w1' ⟨rfl, rfl⟩
    obtain ⟨D, hDD⟩ : ∃ D, w1'.heap.size = D := ⟨_, rfl⟩
    have hb2 : Below w1'.heap.size w1' (w1'.alloc (.cells #[.slice none 0 0, .bool false] 30)) := (Below.refl _ _).alloc (Nat.le_refl _) _
    have hcl := cel_newA w1' [.slice none 0 0, .bool false] 30
    have hty : TyD (w1'.alloc (.cells #[.slice none 0 0, .bool false] 30)) w1'.heap.size := ⟨_, _, heap_alloc_new _ _⟩
    have hs2 : (w1'.alloc (.cells #[.slice none 0 0, .bool false] 30)).heap.size = w1'.heap.size + 1 := by simp
    have HI0 := Lib.hid (show ScI w w1'.heap.size ls 0 none (w1'.heap.size + 1) [] false (w1'.alloc (.cells #[.slice none 0 0, .bool false] 30)) from
      ⟨R1.out.below hb2, ⟨_, hcl.c 0 (by simp), hcl.c 1 (by simp), hcl.fz, ⟨none, 0, rfl, by simp [iz], fun _ => rfl, fun h => by simp [iz] at h⟩, hty⟩, by simp, (fun x hx => by cases hx), .inr rfl, ⟨R1.out.lt, by omega⟩, B1.out.trans (hb2.mono B1.out.size)⟩)
    rw [hDD] at HI0
    clear hb2 hcl hty hs2 HLO1
    go_wp2_with fail
    obtain ⟨W2, hW2⟩ : ∃ W, w1'.alloc (.cells #[.slice none 0 0, .bool false] 30) = W := ⟨_, rfl⟩
    rw [hW2] at HI0 ⊢
    try rw [hDD]
    clear hW2 hDD
    go_loopg [5, 6, 7, 8, 9, 10, 11] ls.length (fun g6 i _ _ _ _ _ _ wr => ∃ (k : Nat) (o : Option Nat) (g : Nat) (l : List UInt8) (out : Bool), k + g6 = ls.length ∧ i = .int .i64 k ∧ Hid (ScI w D ls k o g l out wr))
    case atStart => exact ⟨0, none, _, [], false, by omega, rfl, HI0⟩
    case round =>
      clear HI0 R1
      obtain ⟨k, o, g, l, out, hk, rfl, HI⟩ := hrel
      by_cases hlt : k < ls.length
      · have t1 : (k : Int) < ls.length := by omega
        obtain ⟨eb, eo, ek, eu, ea, hel1, hel2, hel3, hel4⟩ := HE.out k hlt
        subst ea
        have q1 : wr.cell? ⟨eb, eo + k, none⟩ = some eu := ((Aside.of_all (G := fun _ => False) HI.out.bel).cell (p := ⟨eb, eo + k, none⟩) hel1 fun h => h).trans hel3
        have HQ := Lib.hid (fun W (hb : Below w.heap.size w W) => ((Aside.of_all (G := fun _ => False) hb).cell (p := ⟨eb, eo + k, none⟩) hel1 fun h => h).trans hel3)
        have HSx := Lib.hid (fun W (hb : Below w.heap.size w W) => sl_apart2 (b := ls.getD k []) hel4 (Aside.of_all (G := fun _ => False) hb) fun h => h)
        have HEK := Lib.hid hel2
        obtain ⟨p, hp⟩ : ∃ p, ls.getD k [] = p := ⟨_, rfl⟩
        have hfl2 := flat_le ls k hlt
        rw [hp] at HSx hfl2
        obtain ⟨pa, pc, heu⟩ := sl_shape (HSx.out w (Below.refl _ _)) rfl
        subst heu
        have HS := Lib.hid (fun W (hb : Below w.heap.size w W) => show Sl W 0 W.heap.size (.slice pa p.length pc) (iz p) from (HSx.out W hb).wide (Nat.zero_le _) (by have := HEK.out; have := hb.size; omega))
        have hpl : p.length ≤ 9000 := by omega
        have hll := HI.out.len
        have hsx := stepX_len l p out
        have HLE0 := Lib.hid (show (stepX l out p).2.1.length ≤ (ls.take (k + 1)).flatten.length from by omega)
        have HCP := Lib.hid (copyB_any (HS.out wr HI.out.bel) (by omega))
        have HLL := Lib.hid (show (l ++ p).length ≤ 900000 from by rw [List.length_append]; omega)
        have HPL := Lib.hid hpl
        have HNIL := Lib.hid (show out = true → l = [] from fun e => by subst e; exact HI.out.rk.nil)
        have HXL := Lib.hid hsx.2
        have HL9 := Lib.hid (show l.length ≤ 9000 from by omega)
        clear hel3 hel4 hp hfl2 hll hsx HSx
        go_wp2_with fail
        refine HCP.out.mono ?_; rintro e w4 ⟨vi, rfl, oi, bi⟩
        obtain ⟨ia, ic, rfl⟩ := oi.shape
        have OI := Lib.hid oi
        have BI := Lib.hid bi
        have BW4 := Lib.hid (HI.out.bel.trans (bi.mono HI.out.bel.size))
        have q4 := HQ.out w4 BW4.out
        have HPB := Lib.hid (pushX_any (HI.out.rk.below bi) oi.sl (HEN.out.below BW4.out) HLL.out)
        have HPC := Lib.hid (fun W (hr : Rc W D g l out) (hb : Below w.heap.size w W) => pushC_any hr (HS.out W hb) HNIL.out HLL.out)
        obtain ⟨⟨X1, X2, X3⟩, hX⟩ : ∃ X, stepX l out p = X := ⟨_, rfl⟩
        simp only [hX] at HPB HPC HLE0 HXL
        unfold PushX at HPB
        unfold PushC at HPC
        obtain ⟨E, hEE⟩ : ∃ E : Int, (if out then 9 else 0) = E := ⟨_, rfl⟩
        simp only [hEE] at HPB HPC
        clear oi bi hX hEE HCP
        go_wp2_with fail
        refine HPB.out.mono ?_; rintro e w5 ⟨vx, psx, o2, rfl, hmx, tx, r5, ho2, ha5⟩
        have BW5 := Lib.hid (BW4.out.trans (ha5.below fun b hb => ⟨by have := BW4.out.size; omega, fun e => by
          rcases e with e | e
          · omega
          · have := (HI.out.sep b e).1; have := HI.out.dlt.1; omega⟩))
        have q5 := HQ.out w5 BW5.out
        have RC5 : Rc w5 D g l out := ((HI.out.rc.below BI.out).aside ha5 (fun e => by
          rcases e with e | e
          · have := HI.out.dlt.1; omega
          · have := (HI.out.sep D e).1; omega) (by
          rcases HI.out.gr with ⟨h1, h2⟩ | h1
          · by_cases hl : l = []
            · exact .inr hl
            · exact .inl fun e => by
                rcases e with e | e
                · exact h1 e
                · rcases (HI.out.sep g e).2 with h3 | h3
                  · exact h3 rfl
                  · exact hl h3
          · exact .inr h1))
        have HPC5 := Lib.hid (HPC.out w5 RC5 BW5.out)
        obtain ⟨xa, xc, rfl⟩ := tx.shape
        have TX := Lib.hid tx
        have R5 := Lib.hid r5
        have HO2 := Lib.hid ho2
        have HA5 := Lib.hid ha5
        have HMX := Lib.hid hmx
        clear tx r5 ho2 ha5 hmx HPB HPC RC5
        go_wp2_with fail
        refine HPC5.out.mono ?_; rintro e w6 ⟨vy, psy, g', rfl, hmy, ty, rc6, hg', ha6⟩
        have M6 := Lib.hid (HI.out.mid (X := (X1, X2, X3)) BI.out TX.out R5.out HO2.out HA5.out rc6 hg' ha6)
        have hs4 := BI.out.size
        have hs5 := HA5.out.size
        have hdl := HI.out.dlt
        have OI6 := Lib.hid ((OI.out.aside HA5.out (fun b hb e => by
          have h1 := OI.out.lt b hb
          rcases e with e | e
          · omega
          · have := (HI.out.rk.olt b e).2.1; omega)).aside ha6 (fun b hb e => by have h1 := OI.out.lt b hb; omega))
        have HIL := Lib.hid (show ∀ b, (Value.slice ia p.length ic).ownBlock = some b → D < b ∧ b < w4.heap.size ∧ o2 ≠ some b from fun b hb => by
          have h1 := OI.out.lt b hb
          refine ⟨by omega, h1.2, fun e => ?_⟩
          rcases HO2.out b e with e | e
          · have := (HI.out.rk.olt b e).2.1; omega
          · omega)
        have TX6 := TX.out.aside (X' := NoX) (G := fun j => j = D) ha6
        have hpx : psx.length ≤ 1000000 := by
          have := congrArg List.length HMX.out
          rw [List.length_map] at this
          have := HXL.out
          have := HL9.out
          try simp only at this
          omega
        have tx6 : TI w6 w.heap.size w4.heap.size NoX (.slice xa psx.length xc) psx := by
          refine ⟨row_aside TX.out.row ha6 fun b hb e => by have := (TX.out.lt b hb).1; omega, fun _ _ h => h.elim, fun q hq => ?_⟩
          have hq5 := TX.out.each q hq
          obtain ⟨z, fz, hz⟩ : ∃ z fz, w5.heap[D]? = some (.cells z 30 fz) := by
            obtain ⟨v, _, _, _, _, z, fz, hz⟩ := HI.out.rc
            exact ⟨z, fz, (HA5.out.block D (by omega) (fun e => by
              rcases e with e | e
              · omega
              · have := (HI.out.sep D e).1; omega)).trans ((BI.out.block D hdl.2).trans hz)⟩
          refine ⟨row_aside hq5.f ha6 fun b hb e => ?_, hq5.fl, fun _ _ h => h.elim, hq5.b.aside ha6 fun b hb e => by have := (hq5.b.lt b hb).1; omega, fun _ _ h => h.elim⟩
          subst e
          rcases hq5.f.2 with ⟨e1, _⟩ | ⟨g1, cap, cur, e1, _, hh, _⟩
          · rw [e1] at hb; cases hb
          · rw [e1] at hb
            injection hb with hb
            subst hb
            rw [hh] at hz
            injection hz with hz
            injection hz with _ h3
            exact absurd h3 (by decide)
        clear TX6
        have HSL := Lib.hid (sameI_yes (tx6.below (Below.refl _ _).drew) (ty.below (Below.refl _ _).drew) (HMX.out.trans hmy.symm) hpx)
        obtain ⟨ya, yc, rfl⟩ := ty.shape
        obtain ⟨dv, d0, d1, dz, dsl, _⟩ := rc6
        obtain ⟨da, dc, rfl⟩ := sl_shape dsl rfl
        have HLE := HLE0
        obtain ⟨ln, hln⟩ : ∃ n, X2.length = n := ⟨_, rfl⟩
        have HLN := Lib.hid hln
        have HCQ := Lib.hid (fun wx (hb : Below w6.heap.size w6 wx) => show wx.cell? ⟨eb, eo + k, none⟩ = some (.slice pa p.length pc) ∧ wx.cell? ⟨D, 0, none⟩ = some (.slice da ln dc) ∧ wx.cell? ⟨D, 1, none⟩ = some (.bool X3) from
          ⟨HQ.out wx (M6.out.bel.trans (hb.mono M6.out.bel.size)), (hb.cell (p := ⟨D, 0, none⟩) M6.out.dlt.2.2.2).trans (by rw [← hln]; exact d0), (hb.cell (p := ⟨D, 1, none⟩) M6.out.dlt.2.2.2).trans d1⟩)
        have HC60 := Lib.hid (HCQ.out w6.drew (Below.refl _ _).drew)
        have HPX := Lib.hid hpx
        try simp only at HLE
        rw [hln] at HLE
        have HLE : Hid (X2.length ≤ (ls.take (k + 1)).flatten.length) := Lib.hid (by rw [hln]; exact HLE.out)
        clear hg' ha6 tx6 ty hmy d0 d1 dz dsl hs4 hs5 hdl hln HPC5 q1 q4 q5 hpx HLE0
        go_wp2_with fail
        refine wp_region_held_drew (S := (fun wx => wx.cell? ⟨eb, eo + k, none⟩ = some (.slice pa p.length pc) ∧ wx.cell? ⟨D, 0, none⟩ = some (.slice da ln dc) ∧ wx.cell? ⟨D, 1, none⟩ = some (.bool X3))) (by kernel_rfl) HC60.out (fun hHeld => ?_)
        refine wpAnyH_take (i := 0) (oi := { dst := some 46, op := Op.move (Operand.tmp 8), type := 33, pos := "law.go:34", after := #[], guard := none }) (v := ?_) rfl (by kernel_rfl) (by kernel_rfl) (by kernel_rfl) (fun _ _ _ h => h) (Or.inl ⟨by rfl, ?_⟩) (by assumption) ?_
        rotate_left 1
        · intro w hSw; (try dsimp only at hSw); go_simp; try (with_reducible rfl)
        try simp only [Act.put, List.setIfInBounds_toArray, List.set_cons_zero, List.set_cons_succ]
        refine wpAnyH_take (i := 1) (oi := { dst := some 47, op := Op.move (Operand.tmp 10), type := 33, pos := "law.go:34", after := #[], guard := none }) (v := ?_) rfl (by kernel_rfl) (by kernel_rfl) (by kernel_rfl) (fun _ _ _ h => h) (Or.inl ⟨by rfl, ?_⟩) (by assumption) ?_
        rotate_left 1
        · intro w hSw; (try dsimp only at hSw); go_simp; try (with_reducible rfl)
        try simp only [Act.put, List.setIfInBounds_toArray, List.set_cons_zero, List.set_cons_succ]
        refine wpAnyH_take (i := 2) (oi := { dst := some 48, op := Op.binOp BinOp.neq 33 (Operand.tmp 46) (Operand.tmp 47) 33, type := 4, pos := "law.go:34", after := #[{ on := 0, ground := Ground.data }, { on := 1, ground := Ground.data }], guard := none }) (v := ?_) rfl (by kernel_rfl) (by kernel_rfl) (by kernel_rfl) (fun _ _ _ h => h) (Or.inl ⟨by rfl, ?_⟩) (by assumption) ?_
        rotate_left 1
        · intro w hSw; (try dsimp only at hSw); go_simp; try (with_reducible rfl)
        try simp only [Act.put, List.setIfInBounds_toArray, List.set_cons_zero, List.set_cons_succ]
        refine wpAnyH_take (i := 3) (oi := { dst := some 49, op := Op.move (Operand.tmp 48), type := 4, pos := "law.go:34", after := #[{ on := 2, ground := Ground.data }], guard := none }) (v := ?_) rfl (by kernel_rfl) (by kernel_rfl) (by kernel_rfl) (fun _ _ _ h => h) (Or.inl ⟨by rfl, ?_⟩) (by assumption) ?_
        rotate_left 1
        · intro w hSw; (try dsimp only at hSw); go_simp; try (with_reducible rfl)
        try simp only [Act.put, List.setIfInBounds_toArray, List.set_cons_zero, List.set_cons_succ]
        refine wpAnyH_take (i := 4) (oi := { dst := some 50, op := Op.move (Operand.tmp 7), type := 32, pos := "law.go:34", after := #[{ on := 3, ground := Ground.guard }], guard := some (3, false) }) (v := ?_) rfl (by kernel_rfl) (by kernel_rfl) (by kernel_rfl) (fun _ _ _ h => h) (Or.inl ⟨by rfl, ?_⟩) (by assumption) ?_
        rotate_left 1
        · intro w hSw; (try dsimp only at hSw); go_simp; try (with_reducible rfl)
        try simp only [Act.put, List.setIfInBounds_toArray, List.set_cons_zero, List.set_cons_succ]
        refine wpAnyH_take (i := 5) (oi := { dst := some 51, op := Op.move (Operand.tmp 9), type := 32, pos := "law.go:34", after := #[{ on := 3, ground := Ground.guard }], guard := some (3, false) }) (v := ?_) rfl (by kernel_rfl) (by kernel_rfl) (by kernel_rfl) (fun _ _ _ h => h) (Or.inl ⟨by rfl, ?_⟩) (by assumption) ?_
        rotate_left 1
        · intro w hSw; (try dsimp only at hSw); go_simp; try (with_reducible rfl)
        try simp only [Act.put, List.setIfInBounds_toArray, List.set_cons_zero, List.set_cons_succ]
        refine wpAnyH_ready (rs := [6]) (by kernel_rfl) (by simp) ?_
        refine AllReadyH.cons (o := { dst := some 52, op := Op.call { callee := Callee.value (Operand.func 15), args := #[Operand.tmp 50, Operand.tmp 51], argTypes := #[32, 32] }, type := 4, pos := "law.go:34", after := #[{ on := 4, ground := Ground.data }, { on := 5, ground := Ground.data }, { on := 3, ground := Ground.chain }, { on := 3, ground := Ground.guard }], guard := some (3, false) }) rfl (fun K hK => ?_) (AllReadyH.nil)
        go_simp
        refine HSL.out.mono ?_; rintro en w7 ⟨rfl, b7⟩
        have HB7 := Lib.hid (((Below.refl w6.heap.size w6).drew).trans b7)
        have M7 := Lib.hid (M6.out.below HB7.out)
        have OI7 := Lib.hid (OI6.out.below HB7.out)
        have HC7 := Lib.hid (HCQ.out w7 HB7.out)
        have HSB := Lib.hid (same_any OI7.out.sl (HS.out w7 M7.out.bel))
        have HLF := Lib.hid (left_any M7.out.rk)
        have HOVR := Lib.hid (over_any M7.out.rk)
        rw [HLN.out] at HLF
        clear b7
        refine hK.out _ _ HC7.out (fun hHeld => ?_)
        clear hK K
        try simp only [Act.put, List.setIfInBounds_toArray, List.set_cons_zero, List.set_cons_succ]
        refine wpAnyH_take (i := 7) (oi := { dst := some 53, op := Op.unOp UnOp.not 4 (Operand.tmp 52), type := 4, pos := "law.go:34", after := #[{ on := 6, ground := Ground.data }, { on := 3, ground := Ground.guard }], guard := some (3, false) }) (v := ?_) rfl (by kernel_rfl) (by kernel_rfl) (by kernel_rfl) (fun _ _ _ h => h) (Or.inl ⟨by rfl, ?_⟩) (by assumption) ?_
        rotate_left 1
        · intro w hSw; (try dsimp only at hSw); go_simp; try (with_reducible rfl)
        try simp only [Act.put, List.setIfInBounds_toArray, List.set_cons_zero, List.set_cons_succ]
        refine wpAnyH_take (i := 8) (oi := { dst := some 54, op := Op.pick (Operand.tmp 49) (Operand.const (Value.bool true)) (Operand.tmp 53), type := 4, pos := "law.go:34", after := #[{ on := 3, ground := Ground.data }, { on := 7, ground := Ground.data }], guard := none }) (v := ?_) rfl (by kernel_rfl) (by kernel_rfl) (by kernel_rfl) (fun _ _ _ h => h) (Or.inl ⟨by rfl, ?_⟩) (by assumption) ?_
        rotate_left 1
        · intro w hSw; (try dsimp only at hSw); go_simp; try (with_reducible rfl)
        try simp only [Act.put, List.setIfInBounds_toArray, List.set_cons_zero, List.set_cons_succ]
        refine wpAnyH_take (i := 9) (oi := { dst := some 55, op := Op.move (Operand.tmp 54), type := 4, pos := "law.go:34", after := #[{ on := 8, ground := Ground.data }, { on := 6, ground := Ground.chain }], guard := none }) (v := ?_) rfl (by kernel_rfl) (by kernel_rfl) (by kernel_rfl) (fun _ _ _ h => h) (Or.inl ⟨by rfl, ?_⟩) (by assumption) ?_
        rotate_left 1
        · intro w hSw; (try dsimp only at hSw); go_simp; try (with_reducible rfl)
        try simp only [Act.put, List.setIfInBounds_toArray, List.set_cons_zero, List.set_cons_succ]
        refine wpAnyH_take (i := 10) (oi := { dst := some 56, op := Op.move (Operand.tmp 6), type := 28, pos := "law.go:34", after := #[{ on := 9, ground := Ground.guard }], guard := some (9, false) }) (v := ?_) rfl (by kernel_rfl) (by kernel_rfl) (by kernel_rfl) (fun _ _ _ h => h) (Or.inl ⟨by rfl, ?_⟩) (by assumption) ?_
        rotate_left 1
        · intro w hSw; (try dsimp only at hSw); go_simp; try (with_reducible rfl)
        try simp only [Act.put, List.setIfInBounds_toArray, List.set_cons_zero, List.set_cons_succ]
        refine wpAnyH_take (i := 11) (oi := { dst := some 57, op := Op.move (Operand.tmp 0), type := 22, pos := "law.go:34", after := #[{ on := 9, ground := Ground.guard }], guard := some (9, false) }) (v := ?_) rfl (by kernel_rfl) (by kernel_rfl) (by kernel_rfl) (fun _ _ _ h => h) (Or.inl ⟨by rfl, ?_⟩) (by assumption) ?_
        rotate_left 1
        · intro w hSw; (try dsimp only at hSw); go_simp; try (with_reducible rfl)
        try simp only [Act.put, List.setIfInBounds_toArray, List.set_cons_zero, List.set_cons_succ]
        refine wpAnyH_take (i := 12) (oi := { dst := some 58, op := Op.move (Operand.tmp 5), type := 3, pos := "law.go:34", after := #[{ on := 9, ground := Ground.guard }], guard := some (9, false) }) (v := ?_) rfl (by kernel_rfl) (by kernel_rfl) (by kernel_rfl) (fun _ _ _ h => h) (Or.inl ⟨by rfl, ?_⟩) (by assumption) ?_
        rotate_left 1
        · intro w hSw; (try dsimp only at hSw); go_simp; try (with_reducible rfl)
        try simp only [Act.put, List.setIfInBounds_toArray, List.set_cons_zero, List.set_cons_succ]
        refine wpAnyH_take (i := 13) (oi := { dst := some 59, op := Op.indexAddr 22 (Operand.tmp 57) (Operand.tmp 58), type := 0, pos := "law.go:34", after := #[{ on := 11, ground := Ground.data }, { on := 12, ground := Ground.data }, { on := 9, ground := Ground.guard }], guard := some (9, false) }) (v := ?_) rfl (by kernel_rfl) (by kernel_rfl) (by kernel_rfl) (fun _ _ _ h => h) (Or.inl ⟨by rfl, ?_⟩) (by assumption) ?_
        rotate_left 1
        · intro w hSw; (try dsimp only at hSw); go_simp; try (with_reducible rfl)
        try simp only [Act.put, List.setIfInBounds_toArray, List.set_cons_zero, List.set_cons_succ]
        refine wpAnyH_take (i := 14) (oi := { dst := some 60, op := Op.load 28 (Operand.tmp 59), type := 28, pos := "law.go:34", after := #[{ on := 13, ground := Ground.data }, { on := 9, ground := Ground.guard }], guard := some (9, false) }) (v := ?_) rfl (by kernel_rfl) (by kernel_rfl) (by kernel_rfl) (fun _ _ _ h => h) (Or.inl ⟨by rfl, ?_⟩) (by assumption) ?_
        rotate_left 1
        · intro w hSw; (try dsimp only at hSw); go_simp; try (with_reducible rfl)
        try simp only [Act.put, List.setIfInBounds_toArray, List.set_cons_zero, List.set_cons_succ]
        refine wpAnyH_ready (rs := [15]) (by kernel_rfl) (by simp) ?_
        refine AllReadyH.cons (o := { dst := some 61, op := Op.call { callee := Callee.value (Operand.func 16), args := #[Operand.tmp 56, Operand.tmp 60], argTypes := #[28, 28] }, type := 4, pos := "law.go:34", after := #[{ on := 10, ground := Ground.data }, { on := 14, ground := Ground.data }, { on := 9, ground := Ground.chain }, { on := 9, ground := Ground.guard }], guard := some (9, false) }) rfl (fun K hK => ?_) (AllReadyH.nil)
        go_simp
        refine HSB.out.mono ?_; rintro en w8 ⟨rfl, rfl⟩
        refine hK.out _ _ HC7.out (fun hHeld => ?_)
        clear hK K
        try simp only [Act.put, List.setIfInBounds_toArray, List.set_cons_zero, List.set_cons_succ]
        refine wpAnyH_take (i := 16) (oi := { dst := some 62, op := Op.unOp UnOp.not 4 (Operand.tmp 61), type := 4, pos := "law.go:34", after := #[{ on := 15, ground := Ground.data }, { on := 9, ground := Ground.guard }], guard := some (9, false) }) (v := ?_) rfl (by kernel_rfl) (by kernel_rfl) (by kernel_rfl) (fun _ _ _ h => h) (Or.inl ⟨by rfl, ?_⟩) (by assumption) ?_
        rotate_left 1
        · intro w hSw; (try dsimp only at hSw); go_simp; try (with_reducible rfl)
        try simp only [Act.put, List.setIfInBounds_toArray, List.set_cons_zero, List.set_cons_succ]
        refine wpAnyH_take (i := 17) (oi := { dst := some 63, op := Op.pick (Operand.tmp 55) (Operand.const (Value.bool true)) (Operand.tmp 62), type := 4, pos := "law.go:34", after := #[{ on := 9, ground := Ground.data }, { on := 16, ground := Ground.data }], guard := none }) (v := ?_) rfl (by kernel_rfl) (by kernel_rfl) (by kernel_rfl) (fun _ _ _ h => h) (Or.inl ⟨by rfl, ?_⟩) (by assumption) ?_
        rotate_left 1
        · intro w hSw; (try dsimp only at hSw); go_simp; try (with_reducible rfl)
        try simp only [Act.put, List.setIfInBounds_toArray, List.set_cons_zero, List.set_cons_succ]
        refine wpAnyH_take (i := 18) (oi := { dst := some 64, op := Op.move (Operand.tmp 63), type := 4, pos := "law.go:34", after := #[{ on := 17, ground := Ground.data }, { on := 15, ground := Ground.chain }], guard := none }) (v := ?_) rfl (by kernel_rfl) (by kernel_rfl) (by kernel_rfl) (fun _ _ _ h => h) (Or.inl ⟨by rfl, ?_⟩) (by assumption) ?_
        rotate_left 1
        · intro w hSw; (try dsimp only at hSw); go_simp; try (with_reducible rfl)
        try simp only [Act.put, List.setIfInBounds_toArray, List.set_cons_zero, List.set_cons_succ]
        refine wpAnyH_take (i := 19) (oi := { dst := some 65, op := Op.move (Operand.tmp 3), type := 23, pos := "law.go:34", after := #[{ on := 18, ground := Ground.guard }], guard := some (18, false) }) (v := ?_) rfl (by kernel_rfl) (by kernel_rfl) (by kernel_rfl) (fun _ _ _ h => h) (Or.inl ⟨by rfl, ?_⟩) (by assumption) ?_
        rotate_left 1
        · intro w hSw; (try dsimp only at hSw); go_simp; try (with_reducible rfl)
        try simp only [Act.put, List.setIfInBounds_toArray, List.set_cons_zero, List.set_cons_succ]
        refine wpAnyH_take (i := 21) (oi := { dst := some 67, op := Op.move (Operand.tmp 4), type := 27, pos := "law.go:34", after := #[{ on := 18, ground := Ground.guard }], guard := some (18, false) }) (v := ?_) rfl (by kernel_rfl) (by kernel_rfl) (by kernel_rfl) (fun _ _ _ h => h) (Or.inl ⟨by rfl, ?_⟩) (by assumption) ?_
        rotate_left 1
        · intro w hSw; (try dsimp only at hSw); go_simp; try (with_reducible rfl)
        try simp only [Act.put, List.setIfInBounds_toArray, List.set_cons_zero, List.set_cons_succ]
        refine wpAnyH_take (i := 22) (oi := { dst := some 68, op := Op.nilCheck (Operand.tmp 67), type := 0, pos := "law.go:34", after := #[{ on := 21, ground := Ground.data }, { on := 18, ground := Ground.guard }], guard := some (18, false) }) (v := ?_) rfl (by kernel_rfl) (by kernel_rfl) (by kernel_rfl) (fun _ _ _ h => h) (Or.inl ⟨by rfl, ?_⟩) (by assumption) ?_
        rotate_left 1
        · intro w hSw; (try dsimp only at hSw); go_simp; try (with_reducible rfl)
        try simp only [Act.put, List.setIfInBounds_toArray, List.set_cons_zero, List.set_cons_succ]
        refine wpAnyH_take (i := 23) (oi := { dst := some 69, op := Op.fieldAddr 30 (Operand.tmp 68) 0, type := 0, pos := "law.go:34", after := #[{ on := 22, ground := Ground.data }, { on := 18, ground := Ground.guard }], guard := some (18, false) }) (v := ?_) rfl (by kernel_rfl) (by kernel_rfl) (by kernel_rfl) (fun _ _ _ h => h) (Or.inl ⟨by rfl, ?_⟩) (by assumption) ?_
        rotate_left 1
        · intro w hSw; (try dsimp only at hSw); go_simp; try (with_reducible rfl)
        try simp only [Act.put, List.setIfInBounds_toArray, List.set_cons_zero, List.set_cons_succ]
        refine wpAnyH_take (i := 24) (oi := { dst := some 70, op := Op.load 28 (Operand.tmp 69), type := 28, pos := "law.go:34", after := #[{ on := 23, ground := Ground.data }, { on := 18, ground := Ground.guard }], guard := some (18, false) }) (v := ?_) rfl (by kernel_rfl) (by kernel_rfl) (by kernel_rfl) (fun _ _ _ h => h) (Or.inl ⟨by rfl, ?_⟩) (by assumption) ?_
        rotate_left 1
        · intro w hSw; (try dsimp only at hSw); go_simp; try (with_reducible rfl)
        try simp only [Act.put, List.setIfInBounds_toArray, List.set_cons_zero, List.set_cons_succ]
        refine wpAnyH_take (i := 25) (oi := { dst := some 71, op := Op.call { callee := Callee.builtin Builtin.len, args := #[Operand.tmp 70], argTypes := #[28] }, type := 3, pos := "law.go:34", after := #[{ on := 24, ground := Ground.data }, { on := 18, ground := Ground.guard }], guard := some (18, false) }) (v := ?_) rfl (by kernel_rfl) (by kernel_rfl) (by kernel_rfl) (fun _ _ _ h => h) (Or.inl ⟨by rfl, ?_⟩) (by assumption) ?_
        rotate_left 1
        · intro w hSw; (try dsimp only at hSw); go_simp; try (with_reducible rfl)
        try simp only [Act.put, List.setIfInBounds_toArray, List.set_cons_zero, List.set_cons_succ]
        refine wpAnyH_ready (rs := [20]) (by kernel_rfl) (by simp) ?_
        refine AllReadyH.cons (o := { dst := some 66, op := Op.call { callee := Callee.value (Operand.func 17), args := #[Operand.tmp 65], argTypes := #[23] }, type := 3, pos := "law.go:34", after := #[{ on := 19, ground := Ground.data }, { on := 18, ground := Ground.chain }, { on := 18, ground := Ground.guard }], guard := some (18, false) }) rfl (fun K hK => ?_) (AllReadyH.nil)
        go_simp
        refine HLF.out.mono ?_; rintro en w8 ⟨rfl, rfl⟩
        refine hK.out _ _ HC7.out (fun hHeld => ?_)
        clear hK K
        try simp only [Act.put, List.setIfInBounds_toArray, List.set_cons_zero, List.set_cons_succ]
        refine wpAnyH_take (i := 26) (oi := { dst := some 72, op := Op.binOp BinOp.neq 3 (Operand.tmp 66) (Operand.tmp 71) 3, type := 4, pos := "law.go:34", after := #[{ on := 20, ground := Ground.data }, { on := 25, ground := Ground.data }, { on := 18, ground := Ground.guard }], guard := some (18, false) }) (v := ?_) rfl (by kernel_rfl) (by kernel_rfl) (by kernel_rfl) (fun _ _ _ h => h) (Or.inl ⟨by rfl, ?_⟩) (by assumption) ?_
        rotate_left 1
        · intro w hSw; (try dsimp only at hSw); go_simp; try (with_reducible rfl)
        try simp only [Act.put, List.setIfInBounds_toArray, List.set_cons_zero, List.set_cons_succ]
        refine wpAnyH_take (i := 27) (oi := { dst := some 73, op := Op.pick (Operand.tmp 64) (Operand.const (Value.bool true)) (Operand.tmp 72), type := 4, pos := "law.go:34", after := #[{ on := 18, ground := Ground.data }, { on := 26, ground := Ground.data }], guard := none }) (v := ?_) rfl (by kernel_rfl) (by kernel_rfl) (by kernel_rfl) (fun _ _ _ h => h) (Or.inl ⟨by rfl, ?_⟩) (by assumption) ?_
        rotate_left 1
        · intro w hSw; (try dsimp only at hSw); go_simp; try (with_reducible rfl)
        try simp only [Act.put, List.setIfInBounds_toArray, List.set_cons_zero, List.set_cons_succ]
        refine wpAnyH_take (i := 28) (oi := { dst := some 74, op := Op.move (Operand.tmp 73), type := 4, pos := "law.go:34", after := #[{ on := 27, ground := Ground.data }, { on := 20, ground := Ground.chain }], guard := none }) (v := ?_) rfl (by kernel_rfl) (by kernel_rfl) (by kernel_rfl) (fun _ _ _ h => h) (Or.inl ⟨by rfl, ?_⟩) (by assumption) ?_
        rotate_left 1
        · intro w hSw; (try dsimp only at hSw); go_simp; try (with_reducible rfl)
        try simp only [Act.put, List.setIfInBounds_toArray, List.set_cons_zero, List.set_cons_succ]
        refine wpAnyH_take (i := 29) (oi := { dst := some 75, op := Op.move (Operand.tmp 3), type := 23, pos := "law.go:34", after := #[{ on := 28, ground := Ground.guard }], guard := some (28, false) }) (v := ?_) rfl (by kernel_rfl) (by kernel_rfl) (by kernel_rfl) (fun _ _ _ h => h) (Or.inl ⟨by rfl, ?_⟩) (by assumption) ?_
        rotate_left 1
        · intro w hSw; (try dsimp only at hSw); go_simp; try (with_reducible rfl)
        try simp only [Act.put, List.setIfInBounds_toArray, List.set_cons_zero, List.set_cons_succ]
        refine wpAnyH_take (i := 31) (oi := { dst := some 77, op := Op.move (Operand.tmp 4), type := 27, pos := "law.go:34", after := #[{ on := 28, ground := Ground.guard }], guard := some (28, false) }) (v := ?_) rfl (by kernel_rfl) (by kernel_rfl) (by kernel_rfl) (fun _ _ _ h => h) (Or.inl ⟨by rfl, ?_⟩) (by assumption) ?_
        rotate_left 1
        · intro w hSw; (try dsimp only at hSw); go_simp; try (with_reducible rfl)
        try simp only [Act.put, List.setIfInBounds_toArray, List.set_cons_zero, List.set_cons_succ]
        refine wpAnyH_take (i := 32) (oi := { dst := some 78, op := Op.nilCheck (Operand.tmp 77), type := 0, pos := "law.go:34", after := #[{ on := 31, ground := Ground.data }, { on := 28, ground := Ground.guard }], guard := some (28, false) }) (v := ?_) rfl (by kernel_rfl) (by kernel_rfl) (by kernel_rfl) (fun _ _ _ h => h) (Or.inl ⟨by rfl, ?_⟩) (by assumption) ?_
        rotate_left 1
        · intro w hSw; (try dsimp only at hSw); go_simp; try (with_reducible rfl)
        try simp only [Act.put, List.setIfInBounds_toArray, List.set_cons_zero, List.set_cons_succ]
        refine wpAnyH_take (i := 33) (oi := { dst := some 79, op := Op.fieldAddr 30 (Operand.tmp 78) 1, type := 0, pos := "law.go:34", after := #[{ on := 32, ground := Ground.data }, { on := 28, ground := Ground.guard }], guard := some (28, false) }) (v := ?_) rfl (by kernel_rfl) (by kernel_rfl) (by kernel_rfl) (fun _ _ _ h => h) (Or.inl ⟨by rfl, ?_⟩) (by assumption) ?_
        rotate_left 1
        · intro w hSw; (try dsimp only at hSw); go_simp; try (with_reducible rfl)
        try simp only [Act.put, List.setIfInBounds_toArray, List.set_cons_zero, List.set_cons_succ]
        refine wpAnyH_take (i := 34) (oi := { dst := some 80, op := Op.load 4 (Operand.tmp 79), type := 4, pos := "law.go:34", after := #[{ on := 33, ground := Ground.data }, { on := 28, ground := Ground.guard }], guard := some (28, false) }) (v := ?_) rfl (by kernel_rfl) (by kernel_rfl) (by kernel_rfl) (fun _ _ _ h => h) (Or.inl ⟨by rfl, ?_⟩) (by assumption) ?_
        rotate_left 1
        · intro w hSw; (try dsimp only at hSw); go_simp; try (with_reducible rfl)
        try simp only [Act.put, List.setIfInBounds_toArray, List.set_cons_zero, List.set_cons_succ]
        refine wpAnyH_ready (rs := [30]) (by kernel_rfl) (by simp) ?_
        refine AllReadyH.cons (o := { dst := some 76, op := Op.call { callee := Callee.value (Operand.func 18), args := #[Operand.tmp 75], argTypes := #[23] }, type := 4, pos := "law.go:34", after := #[{ on := 29, ground := Ground.data }, { on := 28, ground := Ground.chain }, { on := 28, ground := Ground.guard }], guard := some (28, false) }) rfl (fun K hK => ?_) (AllReadyH.nil)
        go_simp
        refine HOVR.out.mono ?_; rintro en w8 ⟨rfl, rfl⟩
        refine hK.out _ _ HC7.out (fun hHeld => ?_)
        clear hK K
        try simp only [Act.put, List.setIfInBounds_toArray, List.set_cons_zero, List.set_cons_succ]
        refine wpAnyH_take (i := 35) (oi := { dst := some 81, op := Op.binOp BinOp.neq 4 (Operand.tmp 76) (Operand.tmp 80) 4, type := 4, pos := "law.go:34", after := #[{ on := 30, ground := Ground.data }, { on := 34, ground := Ground.data }, { on := 28, ground := Ground.guard }], guard := some (28, false) }) (v := ?_) rfl (by kernel_rfl) (by kernel_rfl) (by kernel_rfl) (fun _ _ _ h => h) (Or.inl ⟨by rfl, ?_⟩) (by assumption) ?_
        rotate_left 1
        · intro w hSw; (try dsimp only at hSw); go_simp; try (with_reducible rfl)
        try simp only [Act.put, List.setIfInBounds_toArray, List.set_cons_zero, List.set_cons_succ]
        refine wpAnyH_take (i := 36) (oi := { dst := some 82, op := Op.pick (Operand.tmp 74) (Operand.const (Value.bool true)) (Operand.tmp 81), type := 4, pos := "law.go:34", after := #[{ on := 28, ground := Ground.data }, { on := 35, ground := Ground.data }], guard := none }) (v := ?_) rfl (by kernel_rfl) (by kernel_rfl) (by kernel_rfl) (fun _ _ _ h => h) (Or.inl ⟨by rfl, ?_⟩) (by assumption) ?_
        rotate_left 1
        · intro w hSw; (try dsimp only at hSw); go_simp; try (with_reducible rfl)
        try simp only [Act.put, List.setIfInBounds_toArray, List.set_cons_zero, List.set_cons_succ]
        refine wpAnyH_done (by kernel_rfl) ?_ _
        clear hHeld
        have HOV := Lib.hid (over_ov OI7.out.ov)
        go_wp2_with fail
        refine HOV.out.mono ?_; rintro e w9 ⟨rfl, ha9, hov9⟩
        have M9 := Lib.hid (M7.out.hand (.inr trivial) (fun b hb => ⟨OI7.out.ov.typ b hb, HIL.out b hb⟩) ha9 hov9)
        clear ha9 hov9
        go_wp2_with fail
        go_loopg [11] psx.length (fun g2 i wy => ∃ j : Nat, j + g2 = psx.length ∧ i = .int .i64 j ∧ Hid (Mid w D w4.heap.size w5.heap.size g' o2 X2 X3 (.slice xa psx.length xc) psx wy))
        case atStart => exact ⟨0, by omega, rfl, M9⟩
        case round =>
          obtain ⟨j, hj, rfl, HM⟩ := hrel
          by_cases hju : j < psx.length
          · have u1 : (j : Int) < psx.length := by omega
            obtain ⟨gx, hxa, _, hcx⟩ := ownI_at HM.out.row (by omega)
            subst hxa
            have k5 := (hcx j hju).c5
            have hmem := List.getElem_mem hju
            have HO2 := Lib.hid (over_ov (HM.out.ov _ hmem))
            obtain ⟨pj, hpj⟩ : ∃ q, psx[j] = q := ⟨_, rfl⟩
            rw [hpj] at k5 HO2 hmem
            have HME := Lib.hid hmem
            obtain ⟨ua, un, uc, hu⟩ : ∃ ua un uc, pj.b = .slice ua un uc := by
              rcases HM.out.ov pj hmem with h | ⟨g, n, c, h, _⟩
              · exact ⟨_, _, _, h⟩
              · exact ⟨_, _, _, h⟩
            rw [hu] at k5 HO2
            have HU := Lib.hid hu
            clear hcx hmem hpj hu
            go_wp2_with fail
            refine HO2.out.mono ?_; rintro e w10 ⟨rfl, ha10, hov10⟩
            have HM10 := Lib.hid (HM.out.over HME.out (by rw [HU.out]; exact ha10) hov10)
            clear ha10 hov10 k5
            have hpx := HPX.out
            go_wp2_with fail
            go_roundg (psx.length - (j + 1))
            case measure => omega
            case rel => exact ⟨j + 1, by omega, by go_num, HM10⟩
          · have u1 : ¬ (j : Int) < psx.length := by omega
            have HI9 := Lib.hid (HM.out.next HLE.out)
            go_wp2_with fail
            go_roundg (ls.length - (k + 1))
            case measure => omega
            case rel => exact ⟨k + 1, o2, g', X2, X3, by omega, by go_num, HI9⟩
      · have t1 : ¬ (k : Int) < ls.length := by omega
        have B1 := Lib.hid HI.out.bel
        go_wp2_with fail
        refine (HA.out _ B1.out).mono ?_; rintro e w4 ⟨rfl, b4⟩
        have B4 := Lib.hid (B1.out.trans (b4.mono B1.out.size))
        clear b4
        go_wp2_with fail
        go_ret
        exact ⟨rfl, B4.out⟩
end Go.Proofs.YtkoohdacneflfaaGreatDoor
