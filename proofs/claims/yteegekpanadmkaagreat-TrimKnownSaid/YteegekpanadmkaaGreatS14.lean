/-
  An entry is put behind the others of its list.
-/
import Derived.Test.YteegekpanadmkaaGreatS13
import Derived.Test.YteegekpanadmkaaGreatS09
import Derived.Test.YteegekpanadmkaaGreatS08
import Derived.Deep.RegionHeld
import Derived.Test.YteegekpanadmkaaGreatS01
namespace Go.Proofs.YteegekpanadmkaaGreat
open Go.RowKit Go.Shelf
set_option linter.unusedVariables false
set_option linter.unusedSimpArgs false
set_option maxRecDepth 100000

/-- Two rows stand apart. -/
def Dif (u v : Value) : Prop := ∀ k, u.ownBlock = some k → ¬ v.ownBlock = some k
theorem Dif.symm {u v : Value} (h : Dif u v) : Dif v u := fun k h1 h2 => h k h2 h1
theorem dif_nil (v : Value) : Dif (.slice none 0 0) v := fun k h => by simp [Value.ownBlock] at h
/-- A message whose lists are rows of the call's own, the additional ones apart from the others. -/
def OwnX (w : World) (B : Nat) (v : Value) (m : Ms) : Prop := ∃ q a n r, v = .agg #[.int .i64 m.id, .int .i64 m.fl, q, a, n, r] ∧ OwnQn w B q m.q ∧ OwnRc w B a m.an ∧ OwnRc w B n m.ns ∧ OwnRc w B r m.ar ∧ Dif a r ∧ Dif n r
/-- A message that is gathered: its box, its lists, rows of the call's own. -/
structure Gat (w : World) (M B : Nat) (m : Ms) (q a n r : Value) : Prop where
  x : Cel w M [.int .i64 m.id, .int .i64 m.fl, q, a, n, r]
  oq : OwnQn w B q m.q
  oa : OwnRc w B a m.an
  on : OwnRc w B n m.ns
  or : OwnRc w B r m.ar
  an : Dif a n
  ar : Dif a r
  nr : Dif n r
  lt : M < B
  size : B ≤ w.heap.size
theorem Gat.later {w w' : World} {M B : Nat} {m : Ms} {q a n r : Value} (h : Gat w M B m q a n r) (hb : Below w.heap.size w w') : Gat w' M B m q a n r :=
  ⟨h.x.below (by simp) hb, row_below h.oq hb, row_below h.oa hb, row_below h.on hb, row_below h.or hb, h.an, h.ar, h.nr, h.lt, Nat.le_trans h.size hb.size⟩
theorem dif_new {w : World} {B : Nat} {u u' v : Value} {l : List Rc} (h : Dif u v) (hv : OwnRc w B v l) (hu : u'.ownBlock = u.ownBlock ∨ u'.ownBlock = some w.heap.size) : Dif u' v := fun k h1 h2 => by
  rcases hu with e | e
  · rw [e] at h1; exact h k h1 h2
  · rw [e] at h1
    injection h1 with h1
    have := (World.ownsRow.lt hv k h2).2
    omega
theorem Gat.app_q {w W : World} {M B hi : Nat} {m : Ms} {q a n r u : Value} (h : Gat w M B m q a n r) (hW : Below w.heap.size w W) (x : Qn) (hx : SQ W hi u [x]) (hn : m.q.length + 1 ≤ 1000000) :
    ∃ b c W2, (Builtin.append_ #[22, 22] 22 #[q, u]).run Tryz.prog W = .ok (.slice b (m.q.length + 1) c) W2 ∧
      W2.cell? ⟨M, 2, none⟩ = some q ∧ W2.frozen? ⟨M, 2, none⟩ = false ∧ Gat (W2.setCell ⟨M, 2, none⟩ (.slice b (m.q.length + 1) c)) M B { m with q := m.q ++ [x] } (.slice b (m.q.length + 1) c) a n r ∧ Below M w (W2.setCell ⟨M, 2, none⟩ (.slice b (m.q.length + 1) c)) := by
  have hR := h.later hW
  obtain ⟨b, c, W2, hr, ho, ha, hk⟩ := run_appQn hR.oq hx hn hR.size
  simp only [List.length_singleton] at hr ho hk
  have hlt := World.ownsRow.lt hR.oq
  have hG : ¬ q.ownBlock = some M := fun hv => by have := (hlt M hv).1; have := hR.lt; omega
  have hx := hR.x.aside (by simp) ha hG
  have h2 : Aside (fun k => k = M) W2 (W2.setCell ⟨M, 2, none⟩ (.slice b (m.q.length + 1) c)) := Aside.setCell _ (p := ⟨M, 2, none⟩) _ rfl
  have hM := hR.lt
  have hsz := hR.size
  have h0 := h.size
  refine ⟨b, c, W2, hr, hx.c 2 (by simp), hx.fz 2, ⟨hx.set (o := 2) (by simp) _, row_aside (show OwnQn W2 B _ (m.q ++ [x]) from ho) h2 (fun k hk hg => by have := (World.ownsRow.lt ho k hk).1; have := hR.lt; omega), row_aside (row_aside hR.oa ha (fun k hk hg => row_apart hR.oa hR.oq (by decide) k hk hg)) h2 (fun k hk hg => by have := (World.ownsRow.lt hR.oa k hk).1; have := hR.lt; omega), row_aside (row_aside hR.on ha (fun k hk hg => row_apart hR.on hR.oq (by decide) k hk hg)) h2 (fun k hk hg => by have := (World.ownsRow.lt hR.on k hk).1; have := hR.lt; omega), row_aside (row_aside hR.or ha (fun k hk hg => row_apart hR.or hR.oq (by decide) k hk hg)) h2 (fun k hk hg => by have := (World.ownsRow.lt hR.or k hk).1; have := hR.lt; omega), hR.an, hR.ar, hR.nr, hM, Nat.le_trans hsz (Nat.le_trans ha.size h2.size)⟩, ?_⟩
  refine below_aside (below_aside (hW.mono (by omega)) ha (fun k hk => ⟨by omega, fun hv => by have := (hlt k hv).1; omega⟩)) h2 (fun k hk => ⟨by have := ha.size; omega, by omega⟩)
theorem Gat.app_a {w W : World} {M B hi : Nat} {m : Ms} {q a n r u : Value} (h : Gat w M B m q a n r) (hW : Below w.heap.size w W) (x : Rc) (hx : SR W hi u [x]) (hn : m.an.length + 1 ≤ 1000000) :
    ∃ b c W2, (Builtin.append_ #[23, 23] 23 #[a, u]).run Tryz.prog W = .ok (.slice b (m.an.length + 1) c) W2 ∧
      W2.cell? ⟨M, 3, none⟩ = some a ∧ W2.frozen? ⟨M, 3, none⟩ = false ∧ Gat (W2.setCell ⟨M, 3, none⟩ (.slice b (m.an.length + 1) c)) M B { m with an := m.an ++ [x] } q (.slice b (m.an.length + 1) c) n r ∧ Below M w (W2.setCell ⟨M, 3, none⟩ (.slice b (m.an.length + 1) c)) := by
  have hR := h.later hW
  obtain ⟨b, c, W2, hr, ho, ha, hk⟩ := run_appRc hR.oa hx hn hR.size
  simp only [List.length_singleton] at hr ho hk
  have hlt := World.ownsRow.lt hR.oa
  have hG : ¬ a.ownBlock = some M := fun hv => by have := (hlt M hv).1; have := hR.lt; omega
  have hx := hR.x.aside (by simp) ha hG
  have h2 : Aside (fun k => k = M) W2 (W2.setCell ⟨M, 3, none⟩ (.slice b (m.an.length + 1) c)) := Aside.setCell _ (p := ⟨M, 3, none⟩) _ rfl
  have hM := hR.lt
  have hsz := hR.size
  have h0 := h.size
  refine ⟨b, c, W2, hr, hx.c 3 (by simp), hx.fz 3, ⟨hx.set (o := 3) (by simp) _, row_aside (row_aside hR.oq ha (fun k hk hg => row_apart hR.oq hR.oa (by decide) k hk hg)) h2 (fun k hk hg => by have := (World.ownsRow.lt hR.oq k hk).1; have := hR.lt; omega), row_aside (show OwnRc W2 B _ (m.an ++ [x]) from ho) h2 (fun k hk hg => by have := (World.ownsRow.lt ho k hk).1; have := hR.lt; omega), row_aside (row_aside hR.on ha hR.an.symm) h2 (fun k hk hg => by have := (World.ownsRow.lt hR.on k hk).1; have := hR.lt; omega), row_aside (row_aside hR.or ha hR.ar.symm) h2 (fun k hk hg => by have := (World.ownsRow.lt hR.or k hk).1; have := hR.lt; omega), dif_new hR.an hR.on hk, dif_new hR.ar hR.or hk, hR.nr, hM, Nat.le_trans hsz (Nat.le_trans ha.size h2.size)⟩, ?_⟩
  refine below_aside (below_aside (hW.mono (by omega)) ha (fun k hk => ⟨by omega, fun hv => by have := (hlt k hv).1; omega⟩)) h2 (fun k hk => ⟨by have := ha.size; omega, by omega⟩)
theorem Gat.app_n {w W : World} {M B hi : Nat} {m : Ms} {q a n r u : Value} (h : Gat w M B m q a n r) (hW : Below w.heap.size w W) (x : Rc) (hx : SR W hi u [x]) (hn : m.ns.length + 1 ≤ 1000000) :
    ∃ b c W2, (Builtin.append_ #[23, 23] 23 #[n, u]).run Tryz.prog W = .ok (.slice b (m.ns.length + 1) c) W2 ∧
      W2.cell? ⟨M, 4, none⟩ = some n ∧ W2.frozen? ⟨M, 4, none⟩ = false ∧ Gat (W2.setCell ⟨M, 4, none⟩ (.slice b (m.ns.length + 1) c)) M B { m with ns := m.ns ++ [x] } q a (.slice b (m.ns.length + 1) c) r ∧ Below M w (W2.setCell ⟨M, 4, none⟩ (.slice b (m.ns.length + 1) c)) := by
  have hR := h.later hW
  obtain ⟨b, c, W2, hr, ho, ha, hk⟩ := run_appRc hR.on hx hn hR.size
  simp only [List.length_singleton] at hr ho hk
  have hlt := World.ownsRow.lt hR.on
  have hG : ¬ n.ownBlock = some M := fun hv => by have := (hlt M hv).1; have := hR.lt; omega
  have hx := hR.x.aside (by simp) ha hG
  have h2 : Aside (fun k => k = M) W2 (W2.setCell ⟨M, 4, none⟩ (.slice b (m.ns.length + 1) c)) := Aside.setCell _ (p := ⟨M, 4, none⟩) _ rfl
  have hM := hR.lt
  have hsz := hR.size
  have h0 := h.size
  refine ⟨b, c, W2, hr, hx.c 4 (by simp), hx.fz 4, ⟨hx.set (o := 4) (by simp) _, row_aside (row_aside hR.oq ha (fun k hk hg => row_apart hR.oq hR.on (by decide) k hk hg)) h2 (fun k hk hg => by have := (World.ownsRow.lt hR.oq k hk).1; have := hR.lt; omega), row_aside (row_aside hR.oa ha hR.an) h2 (fun k hk hg => by have := (World.ownsRow.lt hR.oa k hk).1; have := hR.lt; omega), row_aside (show OwnRc W2 B _ (m.ns ++ [x]) from ho) h2 (fun k hk hg => by have := (World.ownsRow.lt ho k hk).1; have := hR.lt; omega), row_aside (row_aside hR.or ha hR.nr.symm) h2 (fun k hk hg => by have := (World.ownsRow.lt hR.or k hk).1; have := hR.lt; omega), (dif_new hR.an.symm hR.oa hk).symm, hR.ar, dif_new hR.nr hR.or hk, hM, Nat.le_trans hsz (Nat.le_trans ha.size h2.size)⟩, ?_⟩
  refine below_aside (below_aside (hW.mono (by omega)) ha (fun k hk => ⟨by omega, fun hv => by have := (hlt k hv).1; omega⟩)) h2 (fun k hk => ⟨by have := ha.size; omega, by omega⟩)
theorem Gat.app_r {w W : World} {M B hi : Nat} {m : Ms} {q a n r u : Value} (h : Gat w M B m q a n r) (hW : Below w.heap.size w W) (x : Rc) (hx : SR W hi u [x]) (hn : m.ar.length + 1 ≤ 1000000) :
    ∃ b c W2, (Builtin.append_ #[23, 23] 23 #[r, u]).run Tryz.prog W = .ok (.slice b (m.ar.length + 1) c) W2 ∧
      W2.cell? ⟨M, 5, none⟩ = some r ∧ W2.frozen? ⟨M, 5, none⟩ = false ∧ Gat (W2.setCell ⟨M, 5, none⟩ (.slice b (m.ar.length + 1) c)) M B { m with ar := m.ar ++ [x] } q a n (.slice b (m.ar.length + 1) c) ∧ Below M w (W2.setCell ⟨M, 5, none⟩ (.slice b (m.ar.length + 1) c)) := by
  have hR := h.later hW
  obtain ⟨b, c, W2, hr, ho, ha, hk⟩ := run_appRc hR.or hx hn hR.size
  simp only [List.length_singleton] at hr ho hk
  have hlt := World.ownsRow.lt hR.or
  have hG : ¬ r.ownBlock = some M := fun hv => by have := (hlt M hv).1; have := hR.lt; omega
  have hx := hR.x.aside (by simp) ha hG
  have h2 : Aside (fun k => k = M) W2 (W2.setCell ⟨M, 5, none⟩ (.slice b (m.ar.length + 1) c)) := Aside.setCell _ (p := ⟨M, 5, none⟩) _ rfl
  have hM := hR.lt
  have hsz := hR.size
  have h0 := h.size
  refine ⟨b, c, W2, hr, hx.c 5 (by simp), hx.fz 5, ⟨hx.set (o := 5) (by simp) _, row_aside (row_aside hR.oq ha (fun k hk hg => row_apart hR.oq hR.or (by decide) k hk hg)) h2 (fun k hk hg => by have := (World.ownsRow.lt hR.oq k hk).1; have := hR.lt; omega), row_aside (row_aside hR.oa ha hR.ar) h2 (fun k hk hg => by have := (World.ownsRow.lt hR.oa k hk).1; have := hR.lt; omega), row_aside (row_aside hR.on ha hR.nr) h2 (fun k hk hg => by have := (World.ownsRow.lt hR.on k hk).1; have := hR.lt; omega), row_aside (show OwnRc W2 B _ (m.ar ++ [x]) from ho) h2 (fun k hk hg => by have := (World.ownsRow.lt ho k hk).1; have := hR.lt; omega), hR.an, (dif_new hR.ar.symm hR.oa hk).symm, (dif_new hR.nr.symm hR.on hk).symm, hM, Nat.le_trans hsz (Nat.le_trans ha.size h2.size)⟩, ?_⟩
  refine below_aside (below_aside (hW.mono (by omega)) ha (fun k hk => ⟨by omega, fun hv => by have := (hlt k hv).1; omega⟩)) h2 (fun k hk => ⟨by have := ha.size; omega, by omega⟩)

/-- An entry stands at a place. -/
def AtE (w : World) (b o : Nat) (e : En) : Prop := ∃ p : Bool, ∀ i u, (ce e p)[i]? = some u → w.cell? ⟨b, o + i, none⟩ = some u
def EnPost (w : World) (M B : Nat) (m : Ms) (e : En) (x : Ending) (w' : World) : Prop := x = .returned (.tuple #[]) ∧ (∃ q a n r, Gat w' M B (putEn m e) q a n r) ∧ Below M w w'

set_option maxHeartbeats 4000000 in
theorem putEn_any {w : World} {M B b o : Nat} {m : Ms} {q a n r : Value} {e : En} (h : Gat w M B m q a n r) (he : AtE w b o e) (hb : b < M) (hn : m.q.length + m.an.length + m.ns.length + m.ar.length ≤ 900000) :
    Calls Tryz.prog 61 #[.pointer (some ⟨b, o, none⟩), .pointer (some ⟨M, 0, none⟩)] w (EnPost w M B m e) := by
  obtain ⟨p, hc⟩ := he
  obtain ⟨k, ⟨q1, q2, q3⟩, ⟨x1, x2, x3, x4, x5⟩⟩ := e
  have c0 := hc 0 _ rfl
  have c1 := hc 1 _ rfl
  have c2 := hc 2 _ rfl
  have c3 := hc 3 _ rfl
  have c4 := hc 4 _ rfl
  have c5 := hc 5 _ rfl
  have c6 := hc 6 _ rfl
  have c7 := hc 7 _ rfl
  have c8 := hc 8 _ rfl
  rw [Nat.add_zero] at c0
  simp only at c0 c1 c2 c3 c4 c5 c6 c7 c8
  have hbw : b < w.heap.size := World.block_lt_of_cell? w ⟨b, o, none⟩ c0
  obtain ⟨y0, y1, y2, y3, y4, y5⟩ := h.x.six
  have hMw : M < w.heap.size := by have := h.lt; have := h.size; omega
  have HH := Lib.hid h
  obtain ⟨qa, qc, rfl⟩ := row_shape h.oq
  obtain ⟨aa, ac, rfl⟩ := row_shape h.oa
  obtain ⟨na, nc, rfl⟩ := row_shape h.on
  obtain ⟨ra, rc, rfl⟩ := row_shape h.or
  have HL := Lib.hid hn
  clear hc h hn y0 y1
  by_cases hk4 : k = 4
  · subst hk4
    have hE : putEn m ⟨4, ⟨q1, q2, q3⟩, ⟨x1, x2, x3, x4, x5⟩⟩ = { m with q := m.q ++ [⟨q1, q2, q3⟩] } := by unfold putEn; rw [if_pos rfl]
    obtain ⟨b9, c9, W2, hrun, k2, k3, hS2, hB2⟩ := HH.out.app_q (W := w.drew.alloc (.cells #[.string (bs q1), .int .i64 q2, .int .i64 q3] 56)) (((Below.refl _ w).drew).alloc (Nat.le_refl _) _) ⟨q1, q2, q3⟩ (sq_one w.drew ⟨q1, q2, q3⟩) (by have := HL.out; omega)
    have HRUN := Lib.hid hrun
    have HF := Lib.hid (show EnPost w M B m ⟨4, ⟨q1, q2, q3⟩, ⟨x1, x2, x3, x4, x5⟩⟩ (.returned (.tuple #[])) (W2.setCell ⟨M, 2, none⟩ (.slice b9 (m.q.length + 1) c9)) from ⟨rfl, by rw [hE]; exact ⟨_, _, _, _, hS2⟩, hB2⟩)
    obtain ⟨ll, hll⟩ : ∃ l, m.q.length = l := ⟨_, rfl⟩
    rw [hll] at y2 HRUN k2 HF
    clear hrun hS2 hB2 hE hll y3 y4 y5
    have hk : ((4 : Int) == 4) = true := rfl
    go_enter Tryz.func61, Tryz.ntmps61
    go_wp2_with fail
    go_region_law (refine step_app_run rfl (.tmp 27) (.tmp 32) 22 22 rfl rfl rfl HRUN.out ?_)
    all_goals
      go_wp2_with fail
      go_end0
      exact HF.out
  by_cases hk2 : k = 2
  · subst hk2
    have hE : putEn m ⟨2, ⟨q1, q2, q3⟩, ⟨x1, x2, x3, x4, x5⟩⟩ = { m with an := m.an ++ [⟨x1, x2, x3, x4, x5⟩] } := by unfold putEn; rw [if_neg (by simp), if_pos rfl]
    obtain ⟨b9, c9, W2, hrun, k2, k3, hS2, hB2⟩ := HH.out.app_a (W := w.drew.alloc (.cells #[.string (bs x1), .int .i64 x2, .int .i64 x3, .int .i64 x4, .string (bs x5)] 52)) (((Below.refl _ w).drew).alloc (Nat.le_refl _) _) ⟨x1, x2, x3, x4, x5⟩ (sr_one w.drew ⟨x1, x2, x3, x4, x5⟩) (by have := HL.out; omega)
    have HRUN := Lib.hid hrun
    have HF := Lib.hid (show EnPost w M B m ⟨2, ⟨q1, q2, q3⟩, ⟨x1, x2, x3, x4, x5⟩⟩ (.returned (.tuple #[])) (W2.setCell ⟨M, 3, none⟩ (.slice b9 (m.an.length + 1) c9)) from ⟨rfl, by rw [hE]; exact ⟨_, _, _, _, hS2⟩, hB2⟩)
    obtain ⟨ll, hll⟩ : ∃ l, m.an.length = l := ⟨_, rfl⟩
    rw [hll] at y3 HRUN k2 HF
    clear hrun hS2 hB2 hE hll y2 y4 y5
    clear hk4
    go_enter Tryz.func61, Tryz.ntmps61
    go_wp2_with fail
    go_region_law (refine step_app_run rfl (.tmp 42) (.tmp 47) 23 23 rfl rfl rfl HRUN.out ?_)
    all_goals
      go_wp2_with fail
      go_end0
      exact HF.out
  by_cases hk1 : k = 1
  · subst hk1
    have hE : putEn m ⟨1, ⟨q1, q2, q3⟩, ⟨x1, x2, x3, x4, x5⟩⟩ = { m with ns := m.ns ++ [⟨x1, x2, x3, x4, x5⟩] } := by unfold putEn; rw [if_neg (by simp), if_neg (by simp), if_pos rfl]
    obtain ⟨b9, c9, W2, hrun, k2, k3, hS2, hB2⟩ := HH.out.app_n (W := w.drew.alloc (.cells #[.string (bs x1), .int .i64 x2, .int .i64 x3, .int .i64 x4, .string (bs x5)] 52)) (((Below.refl _ w).drew).alloc (Nat.le_refl _) _) ⟨x1, x2, x3, x4, x5⟩ (sr_one w.drew ⟨x1, x2, x3, x4, x5⟩) (by have := HL.out; omega)
    have HRUN := Lib.hid hrun
    have HF := Lib.hid (show EnPost w M B m ⟨1, ⟨q1, q2, q3⟩, ⟨x1, x2, x3, x4, x5⟩⟩ (.returned (.tuple #[])) (W2.setCell ⟨M, 4, none⟩ (.slice b9 (m.ns.length + 1) c9)) from ⟨rfl, by rw [hE]; exact ⟨_, _, _, _, hS2⟩, hB2⟩)
    obtain ⟨ll, hll⟩ : ∃ l, m.ns.length = l := ⟨_, rfl⟩
    rw [hll] at y4 HRUN k2 HF
    clear hrun hS2 hB2 hE hll y2 y3 y5
    clear hk4 hk2
    go_enter Tryz.func61, Tryz.ntmps61
    go_wp2_with fail
    go_region_law (refine step_app_run rfl (.tmp 57) (.tmp 62) 23 23 rfl rfl rfl HRUN.out ?_)
    all_goals
      go_wp2_with fail
      go_end0
      exact HF.out
  · have g4 : (k == 4) = false := by simpa using hk4
    have g2 : (k == 2) = false := by simpa using hk2
    have g1 : (k == 1) = false := by simpa using hk1
    have hE : putEn m ⟨k, ⟨q1, q2, q3⟩, ⟨x1, x2, x3, x4, x5⟩⟩ = { m with ar := m.ar ++ [⟨x1, x2, x3, x4, x5⟩] } := by unfold putEn; rw [if_neg hk4, if_neg hk2, if_neg hk1]
    obtain ⟨b9, c9, W2, hrun, k2, k3, hS2, hB2⟩ := HH.out.app_r (W := w.drew.alloc (.cells #[.string (bs x1), .int .i64 x2, .int .i64 x3, .int .i64 x4, .string (bs x5)] 52)) (((Below.refl _ w).drew).alloc (Nat.le_refl _) _) ⟨x1, x2, x3, x4, x5⟩ (sr_one w.drew ⟨x1, x2, x3, x4, x5⟩) (by have := HL.out; omega)
    have HRUN := Lib.hid hrun
    have HF := Lib.hid (show EnPost w M B m ⟨k, ⟨q1, q2, q3⟩, ⟨x1, x2, x3, x4, x5⟩⟩ (.returned (.tuple #[])) (W2.setCell ⟨M, 5, none⟩ (.slice b9 (m.ar.length + 1) c9)) from ⟨rfl, by rw [hE]; exact ⟨_, _, _, _, hS2⟩, hB2⟩)
    obtain ⟨ll, hll⟩ : ∃ l, m.ar.length = l := ⟨_, rfl⟩
    rw [hll] at y5 HRUN k2 HF
    clear hrun hS2 hB2 hE hll y2 y3 y4
    skip
    go_enter Tryz.func61, Tryz.ntmps61
    go_wp2_with fail
    go_region_law (refine step_app_run rfl (.tmp 12) (.tmp 17) 23 23 rfl rfl rfl HRUN.out ?_)
    all_goals
      go_wp2_with fail
      go_end0
      exact HF.out
end Go.Proofs.YteegekpanadmkaaGreat

/-
  Which entries are left out, plainly; whether an entry is one of the additional ones.
-/
namespace Go.Proofs.YteegekpanadmkaaGreat
open Go.RowKit Go.Shelf
set_option linter.unusedVariables false
set_option linter.unusedSimpArgs false
set_option maxRecDepth 100000

/-- Is it told that an entry of the kind is left out? -/
def late (k : Int) : Bool := !(k == 0 || k == 3)
/-- The flags, when so many of these places are left out. -/
def flG (κ : Nat → Int) (l : List Nat) (f : Int) : Int := if (l.any fun x => late (κ x)) = true then tcG f else f
theorem flG_more {κ : Nat → Int} {l : List Nat} {f : Int} (h0 : 0 ≤ f) (h1 : f ≤ 65535) (x : Nat) : (if late (κ x) = true then tcG (flG κ l f) else flG κ l f) = flG κ (l ++ [x]) f := by
  unfold flG
  rw [List.any_append, List.any_cons, List.any_nil, Bool.or_false]
  cases ha : (l.any fun x => late (κ x)) <;> cases hb : late (κ x) <;> simp [tcG_twice h0 h1]

set_option maxHeartbeats 1000000 in
theorem inAr_any {w : World} {b o : Nat} {k : Int} (hc : w.cell? ⟨b, o, none⟩ = some (.int .i64 k)) : Calls Tryz.prog 60 #[.pointer (some ⟨b, o, none⟩)] w fun e w' => e = .returned (.bool (!late k)) ∧ w' = w := by
  unfold late
  rw [Bool.not_not]
  by_cases h0 : k = 0
  · subst h0
    go_enter Tryz.func60, Tryz.ntmps60
    go_wp2
    go_ret
    exact ⟨rfl, rfl⟩
  · have g0 : (k == 0) = false := by simpa using h0
    by_cases h3 : k = 3
    · subst h3
      go_enter Tryz.func60, Tryz.ntmps60
      go_wp2
      go_ret
      exact ⟨rfl, rfl⟩
    · have g3 : (k == 3) = false := by simpa using h3
      rw [g0, g3]
      go_enter Tryz.func60, Tryz.ntmps60
      go_wp2
      go_ret
      exact ⟨rfl, rfl⟩
end Go.Proofs.YteegekpanadmkaaGreat

/-
  The message that a sheet tells is the message with so many entries left out.
-/
namespace Go.Proofs.YteegekpanadmkaaGreat
open Go.RowKit Go.Shelf
set_option linter.unusedVariables false
set_option linter.unusedSimpArgs false
set_option maxRecDepth 100000

/-- How many go ahead of the entry at a place. -/
def rnk (E : List En) (x : Nat) : Nat := E.countP (fun e => decide (e.k < kOf E x)) + (E.drop (x + 1)).countP (fun e => decide (e.k = kOf E x))
theorem countP_le (l : List En) (k : Int) : l.countP (fun e => decide (e.k ≤ k)) = l.countP (fun e => decide (e.k < k)) + l.countP (fun e => decide (e.k = k)) := by
  induction l with
  | nil => rfl
  | cons e l ih =>
    rw [List.countP_cons, List.countP_cons, List.countP_cons, ih]
    rcases Int.lt_trichotomy e.k k with h | h | h
    · rw [if_pos (by simpa using Int.le_of_lt h), if_pos (by simpa using h), if_neg (by simp; omega)]; omega
    · rw [if_pos (by simp; omega), if_neg (by simp; omega), if_pos (by simpa using h)]; omega
    · rw [if_neg (by simp; omega), if_neg (by simp; omega), if_neg (by simp; omega)]; omega
theorem kOf_map (E : List En) : (List.range E.length).map (kOf E) = E.map En.k := by
  apply List.ext_getElem
  · simp
  · intro j h1 h2
    have h3 : j < E.length := by simpa using h1
    simp only [List.getElem_map, List.getElem_range]
    exact kOf_at h3
theorem count_rank (E : List En) (x : Nat) (hx : x < E.length) : (List.range E.length).countP (fun j => decide (Bef (kOf E) j x)) = rnk E x := by
  obtain ⟨k, hk⟩ : ∃ k, kOf E x = k := ⟨_, rfl⟩
  have hsplit : List.range E.length = List.range x ++ x :: (List.range (E.length - (x + 1))).map (fun j => x + 1 + j) := by
    have h1 := List.range_add (n := x + 1) (m := E.length - (x + 1))
    rw [show x + 1 + (E.length - (x + 1)) = E.length by omega, List.range_succ] at h1
    rw [h1]; simp
  have hmap := kOf_map E
  rw [hsplit, List.map_append, List.map_cons] at hmap
  have hA : (List.range x).map (kOf E) = (E.take x).map En.k := by
    have := congrArg (List.take x) hmap
    rw [List.take_left' (by simp)] at this
    rw [this, List.map_take]
  have hC : ((List.range (E.length - (x + 1))).map (fun j => x + 1 + j)).map (kOf E) = (E.drop (x + 1)).map En.k := by
    have := congrArg (List.drop (x + 1)) hmap
    rw [List.drop_append, List.drop_of_length_le (by simp)] at this
    simp only [List.length_map, List.length_range, Nat.add_sub_cancel_left, List.nil_append, List.drop_succ_cons, List.drop_zero] at this
    rw [this, List.map_drop]
  rw [hsplit, List.countP_append, List.countP_cons, if_neg (by simpa using Bef.irr)]
  have e1 : (List.range x).countP (fun j => decide (Bef (kOf E) j x)) = (E.take x).countP (fun e => decide (e.k < k)) := by
    have : (List.range x).countP (fun j => decide (Bef (kOf E) j x)) = ((List.range x).map (kOf E)).countP (fun z => decide (z < k)) := by
      rw [List.countP_map]
      apply List.countP_congr
      intro j hj
      have hj : j < x := by simpa using hj
      simp only [decide_eq_true_eq, Function.comp]
      rw [bef_lt hj, hk]
    rw [this, hA, List.countP_map]; rfl
  have e2 : ((List.range (E.length - (x + 1))).map (fun j => x + 1 + j)).countP (fun j => decide (Bef (kOf E) j x)) = (E.drop (x + 1)).countP (fun e => decide (e.k ≤ k)) := by
    have : ((List.range (E.length - (x + 1))).map (fun j => x + 1 + j)).countP (fun j => decide (Bef (kOf E) j x)) = (((List.range (E.length - (x + 1))).map (fun j => x + 1 + j)).map (kOf E)).countP (fun z => decide (z ≤ k)) := by
      rw [List.countP_map (p := fun z => decide (z ≤ k))]
      apply List.countP_congr
      intro j hj
      obtain ⟨y, _, rfl⟩ := List.mem_map.mp hj
      simp only [decide_eq_true_eq, Function.comp]
      unfold Bef
      rw [hk]
      omega
    rw [this, hC, List.countP_map]; rfl
  have e3 : E.countP (fun e => decide (e.k < k)) = (E.take x).countP (fun e => decide (e.k < k)) + (E.drop (x + 1)).countP (fun e => decide (e.k < k)) := by
    conv => lhs; rw [← List.take_append_drop x E, List.drop_eq_getElem_cons hx]
    rw [List.countP_append, List.countP_cons, if_neg (by
      have := kOf_at hx
      simp; omega)]
    omega
  unfold rnk
  rw [hk, e1, e2, countP_le, e3]
  omega
/-- Which are left out, by that. -/
theorem out_rnk {E : List En} {ord : List Nat} (h : Mrg (kOf E) ord (List.range E.length).reverse) (n x : Nat) (hx : x < E.length) : decide (x ∈ ord.take n) = decide (rnk E x < n) := by
  have hp : ord.Perm (List.range E.length) := h.1.trans (List.reverse_perm _)
  have hmem : x ∈ ord := hp.mem_iff.mpr (by simpa using hx)
  have hc := hp.countP_eq (fun j => decide (Bef (kOf E) j x))
  rw [count_rank E x hx] at hc
  have := bef_rank h.2 hmem n
  rw [hc] at this
  simp only [this]

/-! ### by lists -/

theorem cnt_q (l : List Qn) (p : En → Bool) (b : Bool) (h : ∀ x, p (enQ x) = b) : (l.map enQ).countP p = if b = true then l.length else 0 := by
  rw [List.countP_map]
  cases b with
  | true => rw [if_pos rfl, List.countP_eq_length]; intro x _; exact h x
  | false => rw [if_neg (by simp), List.countP_eq_zero]; intro x _; simpa using h x
theorem cnt_r (k : Int) (l : List Rc) (p : En → Bool) (b : Bool) (h : ∀ x, p (enR k x) = b) : (l.map (enR k)).countP p = if b = true then l.length else 0 := by
  rw [List.countP_map]
  cases b with
  | true => rw [if_pos rfl, List.countP_eq_length]; intro x _; exact h x
  | false => rw [if_neg (by simp), List.countP_eq_zero]; intro x _; simpa using h x
theorem cnt_a (l : List Rc) (p : En → Bool) (b : Bool) (h3 : ∀ x, isO x = true → p (enA x) = b) (c : Bool) (h0 : ∀ x, isO x = false → p (enA x) = c) : (l.map enA).countP p = (if b = true then l.countP isO else 0) + if c = true then l.countP nO else 0 := by
  induction l with
  | nil => cases b <;> cases c <;> rfl
  | cons x l ih =>
    rw [List.map_cons, List.countP_cons, ih, List.countP_cons, List.countP_cons]
    cases hx : isO x with
    | true => rw [h3 x hx]; have : nO x = false := by simp [nO, hx]
              rw [this]; cases b <;> cases c <;> simp <;> omega
    | false => rw [h0 x hx]; have : nO x = true := by simp [nO, hx]
               rw [this]; cases b <;> cases c <;> simp <;> omega
/-! ### the lists -/

theorem take_eq_self {α : Type} (l : List α) (k : Nat) (h : k = 0) : l.take (l.length - k) = l := by rw [h, Nat.sub_zero, List.take_length]
/-- By kinds: what is left of the additional ones. -/
theorem kept_ar (n s : Nat) (l : List Rc) (h : l.countP nO ≤ s) : kept (fun x t => if isO x = true then decide (s + t.countP isO < n) else decide (t.countP nO < n)) l = (lop nO n l).take ((lop nO n l).length - (n - s)) := by
  by_cases hn : n ≤ s
  · have e1 : kept (fun x t => if isO x = true then decide (s + t.countP isO < n) else decide (t.countP nO < n)) l = lop nO n l := by
      unfold lop
      apply kept_congr
      intro j hj
      unfold nO
      cases hx : isO l[j] with
      | true => simp; omega
      | false => simp
    rw [e1, take_eq_self _ _ (by omega)]
  · have hall : lop nO n l = l.filter isO := by
      rw [lop_all nO n l (by omega)]
      congr 1
      funext x
      unfold nO; simp
    have hgo : ∀ (l : List Rc), l.countP nO ≤ s → kept (fun x t => if isO x = true then decide (s + t.countP isO < n) else decide (t.countP nO < n)) l = (l.filter isO).take ((l.filter isO).length - (n - s)) := by
      intro l
      induction l with
      | nil => intro _; simp [kept]
      | cons x l ih =>
        intro hc
        have hc2 : l.countP nO ≤ s := by rw [List.countP_cons] at hc; omega
        rw [kept, ih hc2]
        cases hx : isO x with
        | true =>
          rw [List.filter_cons_of_pos hx, if_pos rfl, List.length_cons, List.countP_eq_length_filter]
          by_cases h2 : s + (l.filter isO).length < n
          · rw [if_pos (by simpa using h2), show (l.filter isO).length + 1 - (n - s) = 0 by omega, show (l.filter isO).length - (n - s) = 0 by omega, List.take_zero, List.take_zero]
          · rw [if_neg (by simpa using h2), show (l.filter isO).length + 1 - (n - s) = ((l.filter isO).length - (n - s)) + 1 by omega, List.take_succ_cons]
        | false =>
          simp only [Bool.false_eq_true, if_false]
          rw [List.filter_cons_of_neg (by simp [hx]), if_pos (by simp; omega)]
    rw [hgo l h, hall]

/-- How many there are by kinds, of all and from a place on. -/
theorem ents_cnt (m : Ms) (p : En → Bool) (b4 b2 b1 b3 b0 : Bool) (h4 : ∀ x, p (enQ x) = b4) (h2 : ∀ x, p (enR 2 x) = b2) (h1 : ∀ x, p (enR 1 x) = b1) (h3 : ∀ x, isO x = true → p (enA x) = b3) (h0 : ∀ x, isO x = false → p (enA x) = b0) :
    (ents m).countP p = (if b4 = true then m.q.length else 0) + ((if b2 = true then m.an.length else 0) + ((if b1 = true then m.ns.length else 0) + ((if b3 = true then nD m else 0) + (if b0 = true then nA m else 0)))) := by
  unfold ents
  rw [List.countP_append, List.countP_append, List.countP_append, cnt_q _ p b4 h4, cnt_r 2 _ p b2 h2, cnt_r 1 _ p b1 h1, cnt_a _ p b3 h3 b0 h0]
  rfl
theorem kOf_left {A B : List En} {i : Nat} (h : i < A.length) : kOf (A ++ B) i = kOf A i := by
  unfold kOf
  rw [List.map_append, List.getD, List.getD, List.getElem?_append_left (by simpa using h)]
theorem kOf_right {A B : List En} (k i : Nat) (h : A.length = k) : kOf (A ++ B) (k + i) = kOf B i := by
  subst h
  unfold kOf
  rw [List.map_append, List.getD, List.getD, List.getElem?_append_right (by simp), List.length_map, Nat.add_sub_cancel_left]
theorem kOf_map_at {α : Type} (f : α → En) (l : List α) (j : Nat) (hj : j < l.length) : kOf (l.map f) j = (f l[j]).k := by
  rw [kOf_at (by simpa using hj), List.getElem_map]
theorem k_a (x : Rc) : (enA x).k = if isO x then 3 else 0 := rfl
theorem k_a3 {x : Rc} (h : isO x = true) : (enA x).k = 3 := by rw [k_a, if_pos h]
theorem k_a0 {x : Rc} (h : isO x = false) : (enA x).k = 0 := by rw [k_a, if_neg (by simp [h])]
theorem rnk_q (m : Ms) (j : Nat) (hj : j < m.q.length) : kOf (ents m) j = 4 ∧ rnk (ents m) j = nA m + m.ns.length + m.an.length + nD m + (m.q.drop (j + 1)).length := by
  have hx : j < (ents m).length := by rw [ents_len]; omega
  have hk : kOf (ents m) j = 4 := by
    unfold ents
    rw [kOf_left (by simpa using hj), kOf_map_at _ _ _ hj]; rfl
  refine ⟨hk, ?_⟩
  unfold rnk
  rw [hk, ents_cnt m (fun e => decide (e.k < 4)) false true true true true (fun x => rfl) (fun x => rfl) (fun x => rfl) (fun x h => by simp [k_a3 h]) (fun x h => by simp [k_a0 h])]
  have hd : (ents m).drop (j + 1) = (m.q.drop (j + 1)).map enQ ++ (m.an.map (enR 2) ++ (m.ns.map (enR 1) ++ m.ar.map enA)) := by
    unfold ents
    rw [List.drop_append_of_le_length (by simp; omega), List.map_drop]
  rw [hd, List.countP_append, List.countP_append, List.countP_append, cnt_q _ _ true (fun x => rfl), cnt_r 2 _ _ false (fun x => rfl), cnt_r 1 _ _ false (fun x => rfl), cnt_a _ _ false (fun x h => by simp [k_a3 h]) false (fun x h => by simp [k_a0 h])]
  simp
  omega
theorem rnk_an (m : Ms) (j : Nat) (hj : j < m.an.length) : kOf (ents m) (m.q.length + j) = 2 ∧ rnk (ents m) (m.q.length + j) = nA m + m.ns.length + (m.an.drop (j + 1)).length := by
  have hx : m.q.length + j < (ents m).length := by rw [ents_len]; omega
  have hk : kOf (ents m) (m.q.length + j) = 2 := by
    unfold ents
    rw [kOf_right _ _ (by simp), kOf_left (by simpa using hj), kOf_map_at _ _ _ hj]; rfl
  refine ⟨hk, ?_⟩
  unfold rnk
  rw [hk, ents_cnt m (fun e => decide (e.k < 2)) false false true false true (fun x => rfl) (fun x => rfl) (fun x => rfl) (fun x h => by simp [k_a3 h]) (fun x h => by simp [k_a0 h])]
  have hd : (ents m).drop (m.q.length + j + 1) = (m.an.drop (j + 1)).map (enR 2) ++ (m.ns.map (enR 1) ++ m.ar.map enA) := by
    unfold ents
    rw [List.drop_append, List.drop_of_length_le (by simp; omega), List.nil_append, List.length_map, show m.q.length + j + 1 - m.q.length = j + 1 by omega, List.drop_append_of_le_length (by simp; omega), List.map_drop]
  rw [hd, List.countP_append, List.countP_append, cnt_r 2 _ _ true (fun x => rfl), cnt_r 1 _ _ false (fun x => rfl), cnt_a _ _ false (fun x h => by simp [k_a3 h]) false (fun x h => by simp [k_a0 h])]
  simp
  omega
theorem rnk_ns (m : Ms) (j : Nat) (hj : j < m.ns.length) : kOf (ents m) (m.q.length + m.an.length + j) = 1 ∧ rnk (ents m) (m.q.length + m.an.length + j) = nA m + (m.ns.drop (j + 1)).length := by
  have hx : m.q.length + m.an.length + j < (ents m).length := by rw [ents_len]; omega
  have hk : kOf (ents m) (m.q.length + m.an.length + j) = 1 := by
    unfold ents
    rw [Nat.add_assoc, kOf_right _ _ (by simp), kOf_right _ _ (by simp), kOf_left (by simpa using hj), kOf_map_at _ _ _ hj]; rfl
  refine ⟨hk, ?_⟩
  unfold rnk
  rw [hk, ents_cnt m (fun e => decide (e.k < 1)) false false false false true (fun x => rfl) (fun x => rfl) (fun x => rfl) (fun x h => by simp [k_a3 h]) (fun x h => by simp [k_a0 h])]
  have hd : (ents m).drop (m.q.length + m.an.length + j + 1) = (m.ns.drop (j + 1)).map (enR 1) ++ m.ar.map enA := by
    unfold ents
    rw [List.drop_append, List.drop_of_length_le (by simp; omega), List.nil_append, List.length_map, show m.q.length + m.an.length + j + 1 - m.q.length = m.an.length + (j + 1) by omega,
      List.drop_append, List.drop_of_length_le (by simp), List.nil_append, List.length_map, Nat.add_sub_cancel_left, List.drop_append_of_le_length (by simp; omega), List.map_drop]
  rw [hd, List.countP_append, cnt_r 1 _ _ true (fun x => rfl), cnt_a _ _ false (fun x h => by simp [k_a3 h]) false (fun x h => by simp [k_a0 h])]
  simp
theorem rnk_ar (m : Ms) (j : Nat) (hj : j < m.ar.length) : kOf (ents m) (m.q.length + m.an.length + m.ns.length + j) = (if isO m.ar[j] = true then 3 else 0) ∧
    rnk (ents m) (m.q.length + m.an.length + m.ns.length + j) = if isO m.ar[j] = true then nA m + m.ns.length + m.an.length + (m.ar.drop (j + 1)).countP isO else (m.ar.drop (j + 1)).countP nO := by
  have hx : m.q.length + m.an.length + m.ns.length + j < (ents m).length := by rw [ents_len]; omega
  have hk : kOf (ents m) (m.q.length + m.an.length + m.ns.length + j) = if isO m.ar[j] = true then 3 else 0 := by
    unfold ents
    rw [Nat.add_assoc, Nat.add_assoc, kOf_right _ _ (by simp), kOf_right _ _ (by simp), kOf_right _ _ (by simp), kOf_map_at _ _ _ hj]; rfl
  refine ⟨hk, ?_⟩
  have hd : (ents m).drop (m.q.length + m.an.length + m.ns.length + j + 1) = (m.ar.drop (j + 1)).map enA := by
    unfold ents
    rw [List.drop_append, List.drop_of_length_le (by simp; omega), List.nil_append, List.length_map, show m.q.length + m.an.length + m.ns.length + j + 1 - m.q.length = m.an.length + (m.ns.length + (j + 1)) by omega,
      List.drop_append, List.drop_of_length_le (by simp), List.nil_append, List.length_map, Nat.add_sub_cancel_left, List.drop_append, List.drop_of_length_le (by simp), List.nil_append, List.length_map, Nat.add_sub_cancel_left, List.map_drop]
  unfold rnk
  rw [hk, hd]
  cases ho : isO m.ar[j] with
  | true =>
    rw [if_pos rfl, if_pos rfl, ents_cnt m (fun e => decide (e.k < 3)) false true true false true (fun x => rfl) (fun x => rfl) (fun x => rfl) (fun x h => by simp [k_a3 h]) (fun x h => by simp [k_a0 h]), cnt_a _ _ true (fun x h => by simp [k_a3 h]) false (fun x h => by simp [k_a0 h])]
    simp
    omega
  | false =>
    rw [if_neg (by simp), if_neg (by simp), ents_cnt m (fun e => decide (e.k < 0)) false false false false false (fun x => rfl) (fun x => rfl) (fun x => rfl) (fun x h => by simp [k_a3 h]) (fun x h => by simp [k_a0 h]), cnt_a _ _ false (fun x h => by simp [k_a3 h]) true (fun x h => by simp [k_a0 h])]
    simp
/-- What is told when any of some is left out. -/
theorem flG_eq (m : Ms) {ord : List Nat} (h : Mrg (kOf (ents m)) ord (List.range (ents m).length).reverse) (n : Nat) (f : Int) :
    flG (kOf (ents m)) (ord.take n) f = if (nA m < n ∧ 0 < m.ns.length) ∨ (nA m + m.ns.length < n ∧ 0 < m.an.length) ∨ (nA m + m.ns.length + m.an.length + nD m < n ∧ 0 < m.q.length) then tcG f else f := by
  have hp : ord.Perm (List.range (ents m).length) := h.1.trans (List.reverse_perm _)
  have hout := fun x hx => out_rnk h n x hx
  have hin : ∀ x, x < (ents m).length → (x ∈ ord.take n ↔ rnk (ents m) x < n) := fun x hx => by
    have := hout x hx
    exact decide_eq_decide.mp this
  unfold flG
  by_cases hc : (nA m < n ∧ 0 < m.ns.length) ∨ (nA m + m.ns.length < n ∧ 0 < m.an.length) ∨ (nA m + m.ns.length + m.an.length + nD m < n ∧ 0 < m.q.length)
  · rw [if_pos hc, if_pos]
    rw [List.any_eq_true]
    rcases hc with ⟨h1, h2⟩ | ⟨h1, h2⟩ | ⟨h1, h2⟩
    · obtain ⟨k1, k2⟩ := rnk_ns m (m.ns.length - 1) (by omega)
      refine ⟨m.q.length + m.an.length + (m.ns.length - 1), (hin _ (by rw [ents_len]; omega)).mpr (by rw [k2, List.length_drop]; omega), by rw [k1]; rfl⟩
    · obtain ⟨k1, k2⟩ := rnk_an m (m.an.length - 1) (by omega)
      refine ⟨m.q.length + (m.an.length - 1), (hin _ (by rw [ents_len]; omega)).mpr (by rw [k2, List.length_drop]; omega), by rw [k1]; rfl⟩
    · obtain ⟨k1, k2⟩ := rnk_q m (m.q.length - 1) (by omega)
      refine ⟨m.q.length - 1, (hin _ (by rw [ents_len]; omega)).mpr (by rw [k2, List.length_drop]; omega), by rw [k1]; rfl⟩
  · rw [if_neg hc, if_neg]
    rw [List.any_eq_true]
    rintro ⟨x, hx, hl⟩
    have hxN : x < (ents m).length := by
      have := hp.mem_iff.mp (List.mem_of_mem_take hx)
      simpa using this
    have hr := (hin x hxN).mp hx
    rw [ents_len] at hxN
    rcases Nat.lt_or_ge x m.q.length with g | g
    · obtain ⟨_, k2⟩ := rnk_q m x g
      exact hc (.inr (.inr ⟨by omega, by omega⟩))
    · rcases Nat.lt_or_ge x (m.q.length + m.an.length) with g2 | g2
      · obtain ⟨j, rfl⟩ : ∃ j, x = m.q.length + j := ⟨x - m.q.length, by omega⟩
        obtain ⟨_, k2⟩ := rnk_an m j (by omega)
        exact hc (.inr (.inl ⟨by omega, by omega⟩))
      · rcases Nat.lt_or_ge x (m.q.length + m.an.length + m.ns.length) with g3 | g3
        · obtain ⟨j, rfl⟩ : ∃ j, x = m.q.length + m.an.length + j := ⟨x - (m.q.length + m.an.length), by omega⟩
          obtain ⟨_, k2⟩ := rnk_ns m j (by omega)
          exact hc (.inl ⟨by omega, by omega⟩)
        · obtain ⟨j, rfl⟩ : ∃ j, x = m.q.length + m.an.length + m.ns.length + j := ⟨x - (m.q.length + m.an.length + m.ns.length), by omega⟩
          obtain ⟨k1, _⟩ := rnk_ar m j (by omega)
          rw [k1] at hl
          cases isO m.ar[j] <;> simp [late] at hl
/-- **What a sheet tells.** -/
theorem gath_mcut (m : Ms) {ord : List Nat} (h : Mrg (kOf (ents m)) ord (List.range (ents m).length).reverse) (n : Nat) :
    gath (fun x => decide (x ∈ ord.take n)) 0 (ents m) ⟨m.id, flG (kOf (ents m)) (ord.take n) m.fl, [], [], [], []⟩ = mcut m n := by
  rw [gath_ents, flG_eq m h]
  have hout := fun x hx => out_rnk h n x hx
  have hl := ents_len m
  have eq : selL (fun x => decide (x ∈ ord.take n)) 0 m.q = m.q.take (m.q.length - (n - (nA m + m.ns.length + m.an.length + nD m))) := by
    rw [selL_kept (f := fun _ t => decide (nA m + m.ns.length + m.an.length + nD m + t.length < n)) (fun j hj => by
      show decide (0 + j ∈ ord.take n) = _
      rw [Nat.zero_add, hout j (by omega), (rnk_q m j hj).2])]
    exact kept_take _ _ _
  have ea : selL (fun x => decide (x ∈ ord.take n)) m.q.length m.an = m.an.take (m.an.length - (n - (nA m + m.ns.length))) := by
    rw [selL_kept (f := fun _ t => decide (nA m + m.ns.length + t.length < n)) (fun j hj => by
      show decide (m.q.length + j ∈ ord.take n) = _
      rw [hout _ (by omega), (rnk_an m j hj).2])]
    exact kept_take _ _ _
  have en : selL (fun x => decide (x ∈ ord.take n)) (m.q.length + m.an.length) m.ns = m.ns.take (m.ns.length - (n - nA m)) := by
    rw [selL_kept (f := fun _ t => decide (nA m + t.length < n)) (fun j hj => by
      show decide (m.q.length + m.an.length + j ∈ ord.take n) = _
      rw [hout _ (by omega), (rnk_ns m j hj).2])]
    exact kept_take _ _ _
  have er : selL (fun x => decide (x ∈ ord.take n)) (m.q.length + m.an.length + m.ns.length) m.ar = (lop nO n m.ar).take ((lop nO n m.ar).length - (n - (nA m + m.ns.length + m.an.length))) := by
    rw [selL_kept (f := fun x t => if isO x = true then decide (nA m + m.ns.length + m.an.length + t.countP isO < n) else decide (t.countP nO < n)) (fun j hj => by
      show decide (m.q.length + m.an.length + m.ns.length + j ∈ ord.take n) = _
      rw [hout _ (by omega), (rnk_ar m j hj).2]
      split <;> rfl)]
    exact kept_ar n _ m.ar (by unfold nA; omega)
  rw [eq, ea, en, er]
  rfl
end Go.Proofs.YteegekpanadmkaaGreat

/-
  How many bytes entries have, one behind the other; records of TypeOPT at the end with the shortest names.
-/
namespace Go.Proofs.YteegekpanadmkaaGreat
open Go.RowKit Go.Shelf
set_option linter.unusedVariables false
set_option linter.unusedSimpArgs false
set_option maxRecDepth 100000

theorem told_two (K : KK) {ls : List (List UInt8)} (h : ls ≠ []) : 2 ≤ (told K ls).length := by
  unfold told
  rw [List.length_append]
  have h1 := restb_pos (K := K) (t := nm (ls.drop (hdn K ls))) (by rw [nm_len]; omega)
  rcases ls with _ | ⟨l, r⟩
  · exact absurd rfl h
  · obtain ⟨k, hk⟩ : ∃ k, hdn K (l :: r) = k := ⟨_, rfl⟩
    rw [hk] at h1 ⊢
    cases k with
    | succ k =>
      rw [List.take_succ_cons]
      have : 0 < (wire (l :: r.take k)).length := by simp [wire]
      omega
    | zero =>
      rw [List.drop_zero]
      have : 2 ≤ (restb K (nm (l :: r))).length := by
        unfold restb
        cases plc K (nm (l :: r)) with
        | some x => simp [pb]
        | none => simp [nm, wire]; omega
      omega

/-- One of these, at a place. -/
def wrJ (n : Nat) (K : KK) (e : Nat) : It → WR
  | .q x => askW n x.n x.t x.c K e
  | .r x => wrC n x K e
/-- How many bytes there are behind all of them; none, if they are too many. -/
def wrN : List It → Nat → KK → Nat → Option (Nat × KK × Nat)
  | [], n, K, e => some (n, K, e)
  | it :: l, n, K, e => if (wrJ n K e it).code ≠ 0 ∨ 65535 < n + (wrJ n K e it).out.length then none else wrN l (n + (wrJ n K e it).out.length) (wrJ n K e it).K (wrJ n K e it).e
theorem wrN_is : ∀ (l : List It) (b : List UInt8) (K : KK) (e : Nat), (wrIs l b K e).map List.length = (wrN l b.length K e).map (·.1)
  | [], b, K, e => rfl
  | it :: l, b, K, e => by
    have hJ : wrI b K e it = wrJ b.length K e it := by cases it <;> rfl
    rw [wrIs, wrN, hJ, List.length_append]
    split
    · rfl
    · rw [wrN_is l, List.length_append]
theorem wrN_app : ∀ (l l' : List It) (n : Nat) (K : KK) (e : Nat), wrN (l ++ l') n K e = (wrN l n K e).bind fun r => wrN l' r.1 r.2.1 r.2.2
  | [], l', n, K, e => rfl
  | it :: l, l', n, K, e => by
    rw [List.cons_append, wrN, wrN]
    split
    · rfl
    · rw [wrN_app l l']

/-- So many bytes, and what is known then, come up. -/
def Rch (n : Nat) (K : KK) (e : Nat) : Prop := ∃ b P, b.length = n ∧ Inv b K e P
theorem Rch.start : Rch 12 [] 0 := ⟨List.replicate 12 0, [], rfl, by have := Inv.nil.more (List.replicate 12 0); rwa [List.nil_append] at this⟩
theorem Rch.step {n : Nat} {K : KK} {e : Nat} (h : Rch n K e) {it : It} (hx : it.err = 0) (hn : n ≤ 65535) (h0 : (wrJ n K e it).code = 0) : Rch (n + (wrJ n K e it).out.length) (wrJ n K e it).K (wrJ n K e it).e := by
  obtain ⟨b, P, rfl, hI⟩ := h
  have hJ : wrI b K e it = wrJ b.length K e it := by cases it <;> rfl
  obtain ⟨P', h1, _⟩ := wrI_lies hI hx hn (by rw [hJ]; exact h0)
  rw [hJ] at h1
  exact ⟨_, P', by rw [List.length_append], h1⟩
theorem wrN_reach : ∀ {l : List It} {n : Nat} {K : KK} {e : Nat} {r : Nat × KK × Nat}, Rch n K e → n ≤ 65535 → (∀ it ∈ l, it.err = 0) → wrN l n K e = some r → Rch r.1 r.2.1 r.2.2 ∧ n ≤ r.1 ∧ r.1 ≤ 65535
  | [], n, K, e, r, h, hn, _, hr => by
    injection hr with hr; subst hr
    exact ⟨h, Nat.le_refl _, hn⟩
  | it :: l, n, K, e, r, h, hn, hx, hr => by
    rw [wrN] at hr
    split at hr
    · simp at hr
    · rename_i hc
      have h0 : (wrJ n K e it).code = 0 := Classical.byContradiction fun h => hc (.inl h)
      have h1 := h.step (hx it (by simp)) hn h0
      obtain ⟨k1, k2, k3⟩ := wrN_reach h1 (by omega) (fun x hm => hx x (by simp [hm])) hr
      exact ⟨k1, by omega, k3⟩

/-- A record's shortest name. -/
def rt (x : Rc) : Rc := ⟨[0], x.t, x.c, x.l, x.d⟩
/-- How many bytes a name has more, at least. -/
def mor (x : Rc) : Nat := if x.n = [0] then 0 else 1
def mors (l : List Rc) : Nat := (l.map mor).sum
def cst (l : List Rc) : Nat := (l.map fun x => 11 + x.d.length).sum
theorem spl_opt {d : List UInt8} (h : d.length ≤ 65535) : spl 41 d = .ok [(d, false)] := by
  have := spl_of (t := 41) (L := [(d, false)]) (by decide) (by decide) (by simpa [joined] using h) (by
    show Fits [.rst] [(d, false)]
    exact .rst)
  simpa [joined] using this
/-- A record of TypeOPT at a place. -/
theorem opt_wr {n : Nat} {K : KK} {e : Nat} (h : Rch n K e) (hn : n ≤ 65535) {x : Rc} (hx : chkC x = 0) (ho : isO x = true) :
    (wrC n x K e).code = 0 ∧ 11 + x.d.length + mor x ≤ (wrC n x K e).out.length ∧ (x.n = [0] → (wrC n x K e).out.length = 11 + x.d.length) := by
  obtain ⟨b, P, rfl, hI⟩ := h
  obtain ⟨hak, l0, l1, hsp⟩ := chkC_ok hx
  obtain ⟨hc, t0, t1, c0, c1⟩ := askE_ok hak
  obtain ⟨ls, hs, hnm, hE, hB, hI1, hst, hle⟩ := name_lies hI hc (by omega)
  have h41 : x.t = 41 := by simpa [isO] using ho
  obtain ⟨L, hL⟩ := code_ok hsp
  have hd := (spl_ok hL).2.2.1
  have hw : wrC b.length x K e = wrT (told K ls) x.t x.c x.l (wrR (b.length + (told K ls).length + 10) x.t x.d (nameK K e b.length x.n) (nameE K e b.length x.n)) := by
    unfold wrC
    rw [if_neg (by simpa using hx), if_neg (by simpa using hE), hB]
  have hR : ∀ a K e, wrR a x.t x.d K e = ⟨x.d, 0, K, e⟩ := fun a K e => by
    unfold wrR
    rw [h41, spl_opt hd]
    rfl
  rw [hR] at hw
  have ho : (wrC b.length x K e).out.length = (told K ls).length + (10 + x.d.length) := by
    rw [hw]; unfold wrT
    rw [if_neg (by simp)]
    simp only [List.length_append, headB_len]
  refine ⟨?_, ?_, fun h0 => ?_⟩
  · rw [hw]; unfold wrT; rw [if_neg (by simp)]
  · rw [ho]
    have hp := told_pos K ls
    unfold mor
    split
    · omega
    · rename_i h0
      have := told_two K (ls := ls) (fun e => h0 (by rw [hnm, e]; rfl))
      omega
  · rw [ho]
    have hp := told_pos K ls
    rw [h0] at hle
    simp at hle
    omega
theorem chkC_rt {x : Rc} (h : chkC x = 0) : chkC (rt x) = 0 := by
  obtain ⟨hak, l0, l1, hsp⟩ := chkC_ok h
  obtain ⟨hc, t0, t1, c0, c1⟩ := askE_ok hak
  have h0 : chk [0] = 0 := by have := shorts_chk (l := []) ⟨fun x h => by simp at h, by simp [wire]⟩; simpa [wire] using this
  have hk : askE [0] x.t x.c = 0 := by unfold askE; rw [if_neg (by rw [h0]; simp), if_neg (by omega)]
  unfold chkC at h ⊢
  show (if askE [0] x.t x.c ≠ 0 then _ else _) = _
  rw [if_neg (by rw [hk]; simp)]
  rw [if_neg (by rw [hak]; simp)] at h
  exact h
/-- Records of TypeOPT at the end have so many bytes, at least. -/
theorem opt_least : ∀ {T : List Rc} {n : Nat} {K : KK} {e : Nat} {r : Nat × KK × Nat}, Rch n K e → n ≤ 65535 → (∀ x ∈ T, chkC x = 0 ∧ isO x = true) → wrN (T.map .r) n K e = some r → n + cst T + mors T ≤ r.1
  | [], n, K, e, r, _, _, _, hr => by injection hr with hr; subst hr; simp [cst, mors]
  | x :: T, n, K, e, r, h, hn, hx, hr => by
    obtain ⟨hc, ho⟩ := hx x (by simp)
    obtain ⟨k1, k2, _⟩ := opt_wr h hn hc ho
    rw [List.map_cons, wrN] at hr
    split at hr
    · simp at hr
    · rename_i hb
      have h1 := h.step (it := .r x) hc hn k1
      have ih := opt_least h1 (by omega) (fun y hy => hx y (by simp [hy])) hr
      have e1 : cst (x :: T) = 11 + x.d.length + cst T := by simp [cst]
      have e2 : mors (x :: T) = mor x + mors T := by simp [mors]
      have e3 : (wrJ n K e (.r x)).out.length = (wrC n x K e).out.length := rfl
      omega
/-- With the shortest names, just as many. -/
theorem opt_just : ∀ {T : List Rc} {n : Nat} {K : KK} {e : Nat}, Rch n K e → n ≤ 65535 → (∀ x ∈ T, chkC x = 0 ∧ isO x = true) →
    (∀ r, wrN ((T.map rt).map .r) n K e = some r → r.1 = n + cst T) ∧ (n + cst T ≤ 65535 → ∃ r, wrN ((T.map rt).map .r) n K e = some r)
  | [], n, K, e, _, _, _ => ⟨fun r hr => by injection hr with hr; subst hr; simp [cst], fun _ => ⟨_, rfl⟩⟩
  | x :: T, n, K, e, h, hn, hx => by
    obtain ⟨hc, ho⟩ := hx x (by simp)
    have hc' := chkC_rt hc
    obtain ⟨k1, _, k2⟩ := opt_wr h hn hc' (show isO (rt x) = true from ho)
    have k2 := k2 rfl
    have e1 : cst (x :: T) = 11 + x.d.length + cst T := by simp [cst]
    have e3 : (wrJ n K e (.r (rt x))).out.length = 11 + x.d.length := k2
    have e4 : (wrJ n K e (.r (rt x))).code = 0 := k1
    by_cases hb : n + (11 + x.d.length) ≤ 65535
    · have h1 := h.step (it := .r (rt x)) hc' hn k1
      obtain ⟨i1, i2⟩ := opt_just (T := T) h1 (by omega) (fun y hy => hx y (by simp [hy]))
      have hw : wrN (((x :: T).map rt).map .r) n K e = wrN ((T.map rt).map .r) (n + (wrJ n K e (.r (rt x))).out.length) (wrJ n K e (.r (rt x))).K (wrJ n K e (.r (rt x))).e := by
        rw [List.map_cons, List.map_cons, wrN, if_neg (by rw [e3, e4]; omega)]
      rw [hw]
      refine ⟨fun r hr => ?_, fun hs => i2 (by omega)⟩
      have := i1 r hr
      omega
    · have hw : wrN (((x :: T).map rt).map .r) n K e = none := by
        rw [List.map_cons, List.map_cons, wrN, if_pos (.inr (by omega))]
      rw [hw]
      exact ⟨fun r hr => by simp at hr, fun hs => by omega⟩
end Go.Proofs.YteegekpanadmkaaGreat

/-
  What is said besides, as the statements compare and copy it: SameEdns, BigEdns, CopyEdns.
-/
namespace Go.Proofs.YteegekpanadmkaaGreat
open Go.RowKit Go.Shelf
set_option linter.unusedVariables false
set_option linter.unusedSimpArgs false
set_option maxRecDepth 100000

section
variable {w : World} {q : Nat} {a0 a1 a2 a3 a4 : Value}
/-- Five cells stored one after another. -/
def put5 (w : World) (q : Nat) (b0 b1 b2 b3 b4 : Value) : World :=
  ((((w.setCell ⟨q, 0, none⟩ b0).setCell ⟨q, 1, none⟩ b1).setCell ⟨q, 2, none⟩ b2).setCell ⟨q, 3, none⟩ b3).setCell ⟨q, 4, none⟩ b4
theorem cel_put5 (h : Cel w q [a0, a1, a2, a3, a4]) (b0 b1 b2 b3 b4 : Value) : Cel (put5 w q b0 b1 b2 b3 b4) q [b0, b1, b2, b3, b4] := by
  have := ((((h.set (o := 0) (by simp) b0).set (o := 1) (by simp) b1).set (o := 2) (by simp) b2).set (o := 3) (by simp) b3).set (o := 4) (by simp) b4
  simp only [List.set_cons_zero, List.set_cons_succ] at this
  exact this
theorem aside_put5 (w : World) (q : Nat) (b0 b1 b2 b3 b4 : Value) : Aside (fun k => k = q) w (put5 w q b0 b1 b2 b3 b4) := by
  have st : ∀ (x : World) (o : Nat) (v : Value), Aside (fun k => k = q) x (x.setCell ⟨q, o, none⟩ v) := fun x o v => Aside.setCell x (p := ⟨q, o, none⟩) v rfl
  exact ((((st _ _ _).trans (st _ _ _)).trans (st _ _ _)).trans (st _ _ _)).trans (st _ _ _)
end

end Go.Proofs.YteegekpanadmkaaGreat

/-
  The records of a list that are of the type, and those that are not: opts, others.
-/
namespace Go.Proofs.YteegekpanadmkaaGreat
open Go.RowKit Go.Shelf
set_option linter.unusedVariables false
set_option linter.unusedSimpArgs false
set_option maxRecDepth 100000

theorem notO_any (x : Rc) (w : World) : Calls Tryz.prog 75 #[.agg #[.string (bs x.n), .int .i64 x.t, .int .i64 x.c, .int .i64 x.l, .string (bs x.d)]] w (Tells w (.bool (!isO x))) := by
  obtain ⟨n, t, c, l, d⟩ := x
  by_cases h : t = 41
  · have e : isO ⟨n, t, c, l, d⟩ = true := by unfold isO; simp [h]
    subst h
    rw [e]
    go_enter Tryz.func75, Tryz.ntmps75
    go_wp2
    go_ret
    exact ⟨rfl, (Below.refl _ _).alloc (Nat.le_refl _) _⟩
  · have e : isO ⟨n, t, c, l, d⟩ = false := by unfold isO; simp [h]
    rw [e]
    have t1 : (t != 41) = true := by simpa using h
    go_enter Tryz.func75, Tryz.ntmps75
    go_wp2
    go_ret
    exact ⟨by simp [h], (Below.refl _ _).alloc (Nat.le_refl _) _⟩

/-- A row of the call's own, or a place in front of somebody else's to which no room belongs. -/
def Kp (w : World) (B : Nat) (v : Value) (l : List Rc) : Prop := OwnRc w B v l ∨ (l = [] ∧ ∃ a, v = .slice (some a) 0 0)
section
variable {w w' : World} {B : Nat} {v : Value} {l : List Rc}
theorem Kp.below (h : Kp w B v l) (hb : Below w.heap.size w w') : Kp w' B v l := h.imp (fun h => row_below h hb) id
theorem Kp.aside {G : Nat → Prop} (h : Kp w B v l) (ha : Aside G w w') (hG : ∀ k, B ≤ k → ¬ G k) : Kp w' B v l := h.imp (fun h => row_aside h ha fun k hk => hG k (World.ownsRow.lt h k hk).1) id
theorem Kp.base {B' : Nat} (h : Kp w B v l) (hB : B' ≤ B) : Kp w B' v l := h.imp (fun h => row_base h hB) id
theorem Kp.shape (h : Kp w B v l) : ∃ a c, v = .slice a l.length c := by
  rcases h with h | ⟨rfl, a, rfl⟩
  · exact row_shape h
  · exact ⟨_, _, rfl⟩
theorem Kp.sr (h : Kp w B v l) (hl : l.length ≤ 1000000) : SR w w.heap.size v l := by
  rcases h with h | ⟨rfl, a, rfl⟩
  · exact Lst.own h hl
  · exact ⟨some a, 0, rfl, by simp, fun h => (by cases h), fun h => absurd h (by simp)⟩
theorem kp_start (w : World) (B : Nat) (a : Option Addr) : Kp w B (.slice a 0 0) [] := by
  cases a with
  | none => exact .inl (World.ownsRow_nil _ _ _ _)
  | some a => exact .inr ⟨rfl, a, rfl⟩
/-- A record more. -/
theorem Kp.app (h : Kp w B v l) {hi : Nat} {u : Value} {x : Rc} (hx : SR w hi u [x]) (hl : l.length + 1 ≤ 1000000) (hB : B ≤ w.heap.size) :
    ∃ a c w', (Builtin.append_ #[23, 23] 23 #[v, u]).run Tryz.prog w = .ok (.slice a (l.length + 1) c) w' ∧ Kp w' B (.slice a (l.length + 1) c) (l ++ [x]) ∧ Aside (fun b => B ≤ b) w w' := by
  rcases h with h | ⟨rfl, a, rfl⟩
  · obtain ⟨a, c, w', h1, h2, h3, _⟩ := run_appRc h hx hl hB
    exact ⟨a, c, w', h1, .inl h2, h3.mono fun k _ hk => (World.ownsRow.lt h k hk).1⟩
  · obtain ⟨ua, uc, rfl, _, _, h2⟩ := hx
    obtain ⟨b, off, rfl, _, h4⟩ := h2 (by simp)
    obtain ⟨i0, hi0, hz0, hz1, hz2⟩ := info_parts info_rc
    have hr := run_append_grow (P := Tryz.prog) w 23 23 52 i0 _ Tryz.underlying23 hi0 hz0 a 0 0 [] (by simp) (by simp) ⟨b, off, none⟩ 1 uc (acr [x]) (by rw [acr_len, hz1]; rfl) (fun j v hv => by rw [WideShapes.add_plain]; exact h4 j v hv) (by omega) (by decide) (by rw [hz2]; decide)
    have hg := grownCap_ge w (0 + 1) 0 52
    have hcm := grownCap_le_maxLen w (0 + 1) 0 52 (by decide)
    obtain ⟨G, hG⟩ : ∃ G, grownCap w (0 + 1) 0 52 = G := ⟨_, rfl⟩
    rw [hG] at hr hg hcm
    refine ⟨_, _, _, hr, .inl ⟨by rw [acr_len], .inr ⟨w.heap.size, _, _, rfl, hB, World.alloc_heap_new w.drew _, hg, hcm, ?_, ?_⟩⟩, ?_⟩
    · have e1 : (acr [x]).length = 5 := rfl
      simp only [Array.size_append, List.size_toArray, size_zeroCells, e1, List.length_nil, List.nil_append, List.length_singleton]
      show 0 + 5 + (G - (0 + 1)) * 5 = G * 5
      omega
    · simp [acr, cr]
    · exact ⟨rfl, rfl, rfl, by simp, fun k hk hg => Below.heap_alloc w.drew _ k hk⟩
end

set_option maxHeartbeats 1000000 in
theorem those_others {w : World} {hi : Nat} {u : Value} {l : List Rc} (h : SR w hi u l) (h1 : hi ≤ w.heap.size) (hl : l.length ≤ 900000) :
    Calls Tryz.prog 74 #[u, .func (.func 75) #[] #[]] w (fun e w' => ∃ v, e = .returned v ∧ Kp w' w.heap.size v (l.filter (fun x => !isO x)) ∧ Below w.heap.size w w') := by
  have HX := Lib.hid h
  have HN := Lib.hid (Lst.len h)
  have HL := Lib.hid hl
  obtain ⟨a, c, rfl⟩ := Lst.shape h
  obtain ⟨N, hN⟩ : ∃ N, w.heap.size = N := ⟨_, rfl⟩
  have HK0 := Lib.hid (kp_start w N a)
  have HB0 := Lib.hid (show Below N w w from Below.refl _ _)
  have HHI := Lib.hid (show hi ≤ N by omega)
  clear h h1 hl
  go_enter Tryz.func74, Tryz.ntmps74
  go_wp2_with fail
  go_loopg [5, 12] l.length (fun g v5 v12 wr => ∃ k : Nat, k + g = l.length ∧ v12 = .int .i64 k ∧ Hid (Kp wr N v5 ((l.take k).filter (fun x => !isO x))) ∧ Hid (Below N w wr) ∧ N ≤ wr.heap.size)
  case atStart => exact ⟨0, by omega, rfl, by simpa using HK0, HB0, by omega⟩
  case round =>
    clear HK0 HB0
    obtain ⟨k, hk, rfl, HK, HB, hsz⟩ := hrel
    have hlen := HN.out
    by_cases hlt : k < l.length
    · obtain ⟨b, off, c2, he, hb, hc⟩ := HX.out.at_ k hlt
      injection he with he hn3 hc3
      clear hn3 hc3
      subst he
      obtain ⟨c0, c1, c2, c3, c4⟩ := hc.keep fun o => HB.out.cell (p := ⟨b, o, none⟩) (Nat.lt_of_lt_of_le hb HHI.out)
      have HTK := Lib.hid (show l.take (k + 1) = l.take k ++ [l[k]] by rw [List.take_add_one, List.getElem?_eq_getElem hlt]; rfl)
      obtain ⟨x, hx⟩ : ∃ x, l[k] = x := ⟨_, rfl⟩
      rw [hx] at c0 c1 c2 c3 c4 HTK
      have HC := Lib.hid (fun wx => notO_any x wx)
      obtain ⟨L, hL⟩ : ∃ L, (l.take k).filter (fun x => !isO x) = L := ⟨_, rfl⟩
      rw [hL] at HK
      have HLL := Lib.hid (show L.length ≤ 900000 by rw [← hL]; exact Nat.le_trans (List.length_filter_le _ _) (Nat.le_trans (by rw [List.length_take]; omega) HL.out))
      have HTF := Lib.hid (show (l.take (k + 1)).filter (fun x => !isO x) = L ++ [x].filter (fun x => !isO x) by rw [HTK.out, List.filter_append, hL])
      obtain ⟨g, hg⟩ : ∃ g, wr.heap.size = g := ⟨_, rfl⟩
      have HQC := Lib.hid (show Cel (wr.alloc (.cells #[.string (bs x.n), .int .i64 x.t, .int .i64 x.c, .int .i64 x.l, .string (bs x.d)] 52)) g [.string (bs x.n), .int .i64 x.t, .int .i64 x.c, .int .i64 x.l, .string (bs x.d)] by
        have := cel_new wr (.string (bs x.n)) (.int .i64 x.t) (.int .i64 x.c) (.int .i64 x.l) (.string (bs x.d)) 52
        rwa [hg] at this)
      have hb1 : Below wr.heap.size wr (wr.alloc (.cells #[.string (bs x.n), .int .i64 x.t, .int .i64 x.c, .int .i64 x.l, .string (bs x.d)] 52)) := (Below.refl _ _).alloc (Nat.le_refl _) _
      have HGN := Lib.hid (show N ≤ g by omega)
      replace HK := Lib.hid (HK.out.below hb1)
      replace HB := Lib.hid (HB.out.alloc hsz (.cells #[.string (bs x.n), .int .i64 x.t, .int .i64 x.c, .int .i64 x.l, .string (bs x.d)] 52))
      clear hc hx hb hb1 hL hsz
      go_wp2_with fail
      refine (HC.out _).mono ?_; rintro e w3 ⟨rfl, hb⟩
      have HQ3 := Lib.hid (HQC.out.below (by simp) hb)
      replace HK := Lib.hid (HK.out.below hb)
      replace HB := Lib.hid (HB.out.trans (hb.mono (by have := HGN.out; simp; omega)))
      have HS3 := Lib.hid (show g < w3.heap.size from HQ3.out.lt (by simp))
      clear hb
      by_cases hp : (!isO x) = true
      · rw [hp]
        have hone := sr_one w3 x
        have hb4 : Below w3.heap.size w3 (w3.alloc (.cells #[.string (bs x.n), .int .i64 x.t, .int .i64 x.c, .int .i64 x.l, .string (bs x.d)] 52)) := (Below.refl _ _).alloc (Nat.le_refl _) _
        have hsz4 : N ≤ (w3.alloc (.cells #[.string (bs x.n), .int .i64 x.t, .int .i64 x.c, .int .i64 x.l, .string (bs x.d)] 52)).heap.size := by have := HS3.out; have := HGN.out; simp; omega
        obtain ⟨a6, c6, w6, hr, hk6, ha6⟩ := (HK.out.below hb4).app hone (by have := HLL.out; omega) hsz4
        have hf : (l.take (k + 1)).filter (fun x => !isO x) = L ++ [x] := by rw [HTF.out, List.filter_cons_of_pos (by simpa using hp), List.filter_nil]
        have HK6 := Lib.hid (show Kp w6 N (.slice a6 (L.length + 1) c6) ((l.take (k + 1)).filter (fun x => !isO x)) by rw [hf]; exact hk6)
        have HB6 := Lib.hid (below_aside (HB.out.alloc (by have := HS3.out; have := HGN.out; omega) _) ha6 (fun k hk => ⟨by omega, by omega⟩))
        have HSZ := Lib.hid (Nat.le_trans hsz4 ha6.size)
        obtain ⟨av, cv, rfl⟩ := HK.out.shape
        have HR := Lib.hid hr
        obtain ⟨q0, q1, q2, q3, q4⟩ := HQ3.out.five
        clear hone hb4 hsz4 hr hk6 ha6 hf HK HB HQC HQ3
        go_wp2_with (at_builtin; refine wpList_append_run (.tmp 19) (.tmp 21) 23 23 rfl rfl rfl rfl HR.out ?_)
        go_roundg (l.length - (k + 1))
        case measure => omega
        case rel => exact ⟨k + 1, by omega, by go_num, HK6, HB6, HSZ.out⟩
      · have hp2 : (!isO x) = false := by simpa using hp
        rw [hp2]
        have hfe : (l.take (k + 1)).filter (fun x => !isO x) = L := by rw [HTF.out, List.filter_cons_of_neg (by simpa using hp), List.filter_nil, List.append_nil]
        have HK6 := HK
        rw [← hfe] at HK6
        clear hfe
        have HSZ := Lib.hid (show N ≤ w3.heap.size by have := HS3.out; have := HGN.out; omega)
        clear HK HQC HQ3
        go_wp2_with fail
        go_roundg (l.length - (k + 1))
        case measure => omega
        case rel => exact ⟨k + 1, by omega, by go_num, HK6, HB, HSZ.out⟩
    · have t1 : ¬ ((k : Int) < l.length) := by omega
      have hkl : l.take k = l := List.take_of_length_le (by omega)
      rw [hkl] at HK
      clear hkl
      go_wp2_with fail
      go_ret
      exact ⟨_, rfl, by first | exact HK.out | (rw [hN]; exact HK.out), by first | exact HB.out | (rw [hN]; exact HB.out)⟩
theorem others_any {w : World} {hi : Nat} {u : Value} {l : List Rc} (h : SR w hi u l) (h1 : hi ≤ w.heap.size) (hl : l.length ≤ 900000) :
    Calls Tryz.prog 53 #[u] w (fun e w' => ∃ v, e = .returned v ∧ Kp w' w.heap.size v (noL l) ∧ Below w.heap.size w w') := by
  have H := Lib.hid (those_others h h1 hl)
  obtain ⟨a, c, rfl⟩ := Lst.shape h
  clear h
  go_enter Tryz.func53, Tryz.ntmps53
  go_wp2_with fail
  refine H.out.mono ?_; rintro e w1 ⟨v, rfl, hs, hb⟩
  have HS := Lib.hid hs
  have HB := Lib.hid hb
  clear hs hb
  go_wp2_with fail
  go_ret
  exact ⟨_, rfl, HS.out, HB.out⟩
end Go.Proofs.YteegekpanadmkaaGreat

/-
  A region whose loads are fixed by what holds till its last operation, a store, comes up.
-/
namespace Go.Proofs.YteegekpanadmkaaGreat
open Go.RowKit Go.Shelf
set_option linter.unusedVariables false
set_option linter.unusedSimpArgs false

section
variable {P : Program} {md : Region.Mode} {ops : Array Oper} {Q : Exit → Act → World → Prop} {S : World → Prop} {k : Nat}

/-- While i has not come up, nothing that waits for it may. -/
theorem not_ready {i j : Nat} {l : Array Bool} (hi : i ∈ Region.ready md ops l) {o : Oper} (ho : ops[j]? = some o) (hj : j ∈ Region.ready md ops l) {e : Edge} (he : e ∈ o.after) (hb : Region.binds md e = true) : e.on ≠ i := by
  rintro rfl
  obtain ⟨_, o', ho', hall⟩ := mem_ready.1 hj
  obtain rfl : o = o' := by rw [ho] at ho'; exact Option.some.inj ho'
  have h1 := hall e he hb
  have h0 := (mem_ready.1 hi).1
  by_cases hs : e.on < l.size
  · simp only [Array.getD, hs, dite_true] at h0 h1
    rw [h0] at h1
    cases h1
  · simp only [Array.getD, hs, dite_false] at h1
    cases h1

/-- Number k waits for number i. -/
def waitsB (md : Region.Mode) (ops : Array Oper) (k i : Nat) : Bool := match ops[k]? with
  | some o => o.after.any fun e => Region.binds md e && e.on == i
  | none => false

end
end Go.Proofs.YteegekpanadmkaaGreat

/-
  A region whose loads are fixed by what holds till the first of some last operations, stores, comes up.
-/
namespace Go.Proofs.YteegekpanadmkaaGreat
open Go.RowKit Go.Shelf
set_option linter.unusedVariables false
set_option linter.unusedSimpArgs false

section
variable {P : Program} {md : Region.Mode} {ops : Array Oper} {Q : Exit → Act → World → Prop} {S : World → Prop} {ks : List Nat}

/-- In whatever order; S holds behind each operation but those of ks. -/
def Tilk (P : Program) (md : Region.Mode) (ops : Array Oper) (Q : Exit → Act → World → Prop) (S : World → Prop) (ks : List Nat) (n : Nat) (l : Array Bool) (a : Act) (w : World) : Prop :=
  match n with
  | 0 => Region.ready md ops l = [] ∧ Q .normal a w
  | n + 1 => (Region.ready md ops l = [] → Q .normal a w) ∧ ∀ i, i ∈ Region.ready md ops l → wpOp P ops Q i (fun a' w' => (i ∉ ks → S w') ∧ Tilk P md ops Q S ks n (l.setIfInBounds i true) a' w') a w

theorem Tilk.any (n : Nat) : ∀ (l : Array Bool) (a : Act) (w : World), Tilk P md ops Q S ks n l a w → wpAny P md ops Q n l a w := by
  induction n with
  | zero => exact fun _ _ _ h => h
  | succ n ih => exact fun l a w h => ⟨h.1, fun i hi => wpOp_mono (fun a' w' hh => ih _ a' w' hh.2) (h.2 i hi)⟩

/-- What yields the same wherever S holds may be taken first, if all of ks wait for it. -/
theorem tilk_first {i : Nat} {oi : Oper} {v : Value} (hi : ops[i]? = some oi) (hw : ∀ k ∈ ks, waitsB md ops k i = true) (hns : Region.noSelect ops = true)
    (hQ : ∀ c a w, Q (.panic c) (a.put oi.dst v) w → Q (.panic c) a w) (n : Nat) : ∀ (l : Array Bool) (a : Act) (w : World),
      (∀ j oj, ops[j]? = some oj → j ≠ i → l.getD j true = false → (∀ e ∈ oj.after, Region.binds md e = true → e.on ≠ i) → oi.apart ops oj = true) →
      i ∈ Region.ready md ops l → YieldsIf P ops S oi v a → S w → Tilk P md ops Q S ks n (l.setIfInBounds i true) (a.put oi.dst v) w → Tilk P md ops Q S ks (n + 1) l a w := by
  have hsel := Region.noSelect_spec hns
  induction n with
  | zero =>
    intro l a w _ hr hy hS H
    refine ⟨fun h => absurd (h ▸ hr) (by simp), fun j hj => ?_⟩
    rcases Nat.decEq j i with hji | rfl
    · have hm := ready_mono hj hji
      rw [H.1] at hm
      exact absurd hm (by simp)
    · exact hy.wpOp hi hS ⟨fun _ => hS, H⟩
  | succ n ih =>
    intro l a w hf hr hy hS H
    refine ⟨fun h => absurd (h ▸ hr) (by simp), fun j hj => ?_⟩
    rcases Nat.decEq j i with hji | rfl
    · obtain ⟨hun, oj, hoj, _⟩ := mem_ready.1 hj
      have hjk : j ∉ ks := by
        intro hjk
        have hwj := hw j hjk
        unfold waitsB at hwj
        rw [hoj] at hwj
        obtain ⟨e, he, hbe⟩ := Array.any_eq_true'.mp hwj
        rw [Bool.and_eq_true] at hbe
        exact not_ready hr hoj hj he hbe.1 (by simpa using hbe.2)
      have hap := hf j oj hoj hji hun fun e' he' hb' => not_ready hr hoj hj he' hb'
      refine wpOp_mono ?_ (wpOp_putIf hoj hap (fun cs b => hsel i oi cs b hi) (fun cs b => hsel j oj cs b hoj) hQ hy (H.2 j (ready_mono hj hji)))
      rintro a' w' ⟨hy', hS', hT⟩
      refine ⟨hS', ih _ a' w' (fun m om hm hmi hmu hmn => hf m om hm hmi ?_ hmn) (ready_mono hr (Ne.symm hji)) hy' (hS' hjk) ?_⟩
      · rcases Nat.decEq j m with hjm | rfl
        · rwa [getD_set_ne true hjm] at hmu
        · exact hun
      · rw [Array.setIfInBounds_comm _ _ hji]
        exact hT
    · exact hy.wpOp hi hS ⟨fun _ => hS, H⟩

theorem tilk_take {i : Nat} {oi : Oper} {v : Value} {n : Nat} {l : Array Bool} {a : Act} {w : World} (hi : ops[i]? = some oi) (hs : Region.noSelect ops = true) (hf : Region.free md ops l i = true)
    (hr : (Region.ready md ops l).contains i = true) (hQ : ∀ c a w, Q (.panic c) (a.put oi.dst v) w → Q (.panic c) a w) (hy : YieldsIf P ops S oi v a) (hS : S w)
    (h : Tilk P md ops Q S ks n (l.setIfInBounds i true) (a.put oi.dst v) w) (hw : (ks.all fun k => waitsB md ops k i) = true := by kernel_rfl) : Tilk P md ops Q S ks (n + 1) l a w :=
  tilk_first hi (List.all_eq_true.mp hw) hs hQ n l a w (Region.free_spec hi hf) (by simpa using hr) hy hS h

def TilkAll (P : Program) (md : Region.Mode) (ops : Array Oper) (Q : Exit → Act → World → Prop) (S : World → Prop) (ks : List Nat) (n : Nat) (l : Array Bool) (a : Act) (w : World) (rs : List Nat) : Prop :=
  ∀ i, i ∈ rs → wpOp P ops Q i (fun a' w' => (i ∉ ks → S w') ∧ Tilk P md ops Q S ks n (l.setIfInBounds i true) a' w') a w
theorem TilkAll.nil {n : Nat} {l : Array Bool} {a : Act} {w : World} : TilkAll P md ops Q S ks n l a w [] := fun _ h => by cases h
theorem TilkAll.cons {n : Nat} {l : Array Bool} {a : Act} {w : World} {i : Nat} {o : Oper} {rs : List Nat} (ho : ops[i]? = some o)
    (h : ∀ K' : Act → World → Prop, Shut (∀ a w, S w → (S w → Tilk P md ops Q S ks n (l.setIfInBounds i true) a w) → K' a w) → if Region.wanted o (yielded ops a.tmps) = true then Oper.wp P o a w K' Q else K' (a.put o.dst undef) w)
    (hs : TilkAll P md ops Q S ks n l a w rs) (hik : i ∉ ks := by decide) : TilkAll P md ops Q S ks n l a w (i :: rs) := fun j hj => by
  rcases List.mem_cons.1 hj with rfl | hj
  · exact wpOp_step ho fun K' hK => h K' fun a w hS hW => hK a w ⟨fun _ => hS, hW hS⟩
  · exact hs j hj
/-- One of the last. -/
theorem TilkAll.last {i : Nat} {n : Nat} {l : Array Bool} {a : Act} {w : World} {o : Oper} {rs : List Nat} (ho : ops[i]? = some o)
    (h : ∀ K' : Act → World → Prop, Shut (∀ a w, True → (True → Tilk P md ops Q S ks n (l.setIfInBounds i true) a w) → K' a w) → if Region.wanted o (yielded ops a.tmps) = true then Oper.wp P o a w K' Q else K' (a.put o.dst undef) w)
    (hs : TilkAll P md ops Q S ks n l a w rs) (hik : i ∈ ks := by decide) : TilkAll P md ops Q S ks n l a w (i :: rs) := fun j hj => by
  rcases List.mem_cons.1 hj with rfl | hj
  · exact wpOp_step ho fun K' hK => h K' fun a w _ hW => hK a w ⟨fun hk => absurd hik hk, hW trivial⟩
  · exact hs j hj
theorem tilk_ready {rs : List Nat} {n : Nat} {l : Array Bool} {a : Act} {w : World} (hr : Region.ready md ops l = rs) (hne : rs ≠ []) (h : TilkAll P md ops Q S ks n l a w rs) : Tilk P md ops Q S ks (n + 1) l a w :=
  ⟨fun h0 => absurd (hr ▸ h0) hne, hr ▸ h⟩
theorem tilk_done {l : Array Bool} {a : Act} {w : World} (hr : Region.ready md ops l = []) (h : Q .normal a w) (n : Nat) : Tilk P md ops Q S ks n l a w := by
  cases n with
  | zero => exact ⟨hr, h⟩
  | succ n => exact ⟨fun _ => h, fun i hi => by rw [hr] at hi; cases hi⟩
theorem wp_region_tilk {id : Nat} {a : Act} {w : World} (ks : List Nat) (hm : P.follows .mixedOrders = true) (hS : S w.drew)
    (h : S w.drew → Tilk P .any ops Q S ks ops.size (Array.replicate ops.size false) a w.drew) : (Code.region id ops true).wp P Q a w :=
  wp_region_any hm (Tilk.any _ _ _ _ (h hS))
end
end Go.Proofs.YteegekpanadmkaaGreat

/-
  The records of a list in memory of their own: copied.
-/
namespace Go.Proofs.YteegekpanadmkaaGreat
open Go.RowKit Go.Shelf
set_option linter.unusedVariables false
set_option linter.unusedSimpArgs false
set_option maxRecDepth 100000

/-- A record in a box, and a row of the call's own. -/
structure Cpd (w wr : World) (N g : Nat) (v : Value) (L : List Rc) (x : Rc) : Prop where
  bel : Below N w wr
  own : OwnRc wr N v L
  cel : Cel wr g [.string (bs x.n), .int .i64 x.t, .int .i64 x.c, .int .i64 x.l, .string (bs x.d)]
  ge : N ≤ g
  ne : ∀ j, v.ownBlock = some j → j ≠ g
section
variable {w wr w' : World} {N g : Nat} {v : Value} {L : List Rc} {x : Rc}
theorem Cpd.lt (h : Cpd w wr N g v L x) : g < wr.heap.size := h.cel.lt (by simp)
theorem Cpd.later (h : Cpd w wr N g v L x) (hb : Below wr.heap.size wr w') : Cpd w w' N g v L x :=
  ⟨below_aside h.bel (Aside.of_all hb : Aside (fun _ => False) wr w') (fun k hk => ⟨by have := h.lt; have := h.ge; omega, id⟩), row_below h.own hb, h.cel.below (by simp) hb, h.ge, h.ne⟩
theorem Cpd.put0 (h : Cpd w wr N g v L x) : Cpd w (wr.setCell ⟨g, 0, none⟩ (.string (bs x.n))) N g v L x := by
  have hst : Aside (fun k => k = g) wr (wr.setCell ⟨g, 0, none⟩ (.string (bs x.n))) := Aside.setCell wr (p := ⟨g, 0, none⟩) _ rfl
  exact ⟨below_aside h.bel hst (fun k hk => ⟨by have := h.lt; have := h.ge; omega, by have := h.ge; omega⟩), row_aside h.own hst h.ne, h.cel.set (o := 0) (by simp) _, h.ge, h.ne⟩
theorem Cpd.put4 (h : Cpd w wr N g v L x) : Cpd w (wr.setCell ⟨g, 4, none⟩ (.string (bs x.d))) N g v L x := by
  have hst : Aside (fun k => k = g) wr (wr.setCell ⟨g, 4, none⟩ (.string (bs x.d))) := Aside.setCell wr (p := ⟨g, 4, none⟩) _ rfl
  exact ⟨below_aside h.bel hst (fun k hk => ⟨by have := h.lt; have := h.ge; omega, by have := h.ge; omega⟩), row_aside h.own hst h.ne, h.cel.set (o := 4) (by simp) _, h.ge, h.ne⟩
end

set_option maxHeartbeats 2000000 in
theorem copied_any {w : World} {hi : Nat} {u : Value} {l : List Rc} (h : SR w hi u l) (h1 : hi ≤ w.heap.size) (hl : l.length ≤ 900000) (hb : ∀ x ∈ l, x.n.length ≤ 1000000 ∧ x.d.length ≤ 1000000) :
    Calls Tryz.prog 77 #[u] w (fun e w' => ∃ v, e = .returned v ∧ OwnRc w' w.heap.size v l ∧ Below w.heap.size w w') := by
  have HX := Lib.hid h
  have HN := Lib.hid (Lst.len h)
  have HL := Lib.hid hl
  have HBD := Lib.hid hb
  obtain ⟨a, c, rfl⟩ := Lst.shape h
  obtain ⟨N, hN⟩ : ∃ N, w.heap.size = N := ⟨_, rfl⟩
  have HK0 := Lib.hid (show OwnRc w N (.slice none 0 0) [] from World.ownsRow_nil _ _ _ _)
  have HB0 := Lib.hid (show Below N w w from Below.refl _ _)
  have HHI := Lib.hid (show hi ≤ N by omega)
  clear h h1 hl hb
  go_enter Tryz.func77, Tryz.ntmps77
  go_wp2_with fail
  go_loopg [3, 8] l.length (fun g v3 v8 wr => ∃ k : Nat, k + g = l.length ∧ v8 = .int .i64 k ∧ Hid (OwnRc wr N v3 (l.take k)) ∧ Hid (Below N w wr) ∧ N ≤ wr.heap.size)
  case atStart => exact ⟨0, by omega, rfl, by simpa using HK0, HB0, by omega⟩
  case round =>
    clear HK0 HB0
    obtain ⟨k, hk, rfl, HK, HB, hsz⟩ := hrel
    have hlen := HN.out
    by_cases hlt : k < l.length
    · obtain ⟨b, off, c2, he, hb, hc⟩ := HX.out.at_ k hlt
      injection he with he hn3 hc3
      clear hn3 hc3
      subst he
      obtain ⟨c0, c1, c2, c3, c4⟩ := hc.keep fun o => HB.out.cell (p := ⟨b, o, none⟩) (Nat.lt_of_lt_of_le hb HHI.out)
      have HTK := Lib.hid (show l.take (k + 1) = l.take k ++ [l[k]] by rw [List.take_add_one, List.getElem?_eq_getElem hlt]; rfl)
      have HBX := Lib.hid (HBD.out l[k] (List.getElem_mem hlt))
      obtain ⟨x, hx⟩ : ∃ x, l[k] = x := ⟨_, rfl⟩
      rw [hx] at c0 c1 c2 c3 c4 HTK HBX
      have HCN := Lib.hid (fun wx => clone_any (bs x.n) (by rw [bs_size]; exact HBX.out.1) wx)
      have HCD := Lib.hid (fun wx => clone_any (bs x.d) (by rw [bs_size]; exact HBX.out.2) wx)
      obtain ⟨L, hL⟩ : ∃ L, l.take k = L := ⟨_, rfl⟩
      have HLL := Lib.hid (show L.length = k by rw [← hL, List.length_take]; omega)
      rw [hL] at HK HTK
      obtain ⟨g, hg⟩ : ∃ g, wr.heap.size = g := ⟨_, rfl⟩
      have hq : Cel (wr.alloc (.cells #[.string (bs x.n), .int .i64 x.t, .int .i64 x.c, .int .i64 x.l, .string (bs x.d)] 52)) g [.string (bs x.n), .int .i64 x.t, .int .i64 x.c, .int .i64 x.l, .string (bs x.d)] := by
        have := cel_new wr (.string (bs x.n)) (.int .i64 x.t) (.int .i64 x.c) (.int .i64 x.l) (.string (bs x.d)) 52
        rwa [hg] at this
      have hb1 : Below wr.heap.size wr (wr.alloc (.cells #[.string (bs x.n), .int .i64 x.t, .int .i64 x.c, .int .i64 x.l, .string (bs x.d)] 52)) := (Below.refl _ _).alloc (Nat.le_refl _) _
      have hcp : Cpd w (wr.alloc (.cells #[.string (bs x.n), .int .i64 x.t, .int .i64 x.c, .int .i64 x.l, .string (bs x.d)] 52)) N g _ L x :=
        ⟨HB.out.alloc hsz _, row_below HK.out hb1, hq, by omega, fun j hj => by have := (World.ownsRow.lt HK.out j hj).2; omega⟩
      have HC := Lib.hid (hcp.later (Below.refl _ _).drew)
      obtain ⟨av, cv, rfl⟩ := row_shape HK.out
      clear hc hx hb hb1 hsz hq hcp HK HB
      go_wp2_with fail
      refine wp_region_held_drew (S := (fun wx => Cel wx g [.string (bs x.n), .int .i64 x.t, .int .i64 x.c, .int .i64 x.l, .string (bs x.d)])) (by kernel_rfl) HC.out.cel (fun hHeld => ?_)
      refine wpAnyH_take (i := 0) (oi := { dst := some 12, op := Op.fieldAddr 52 (Operand.tmp 5) 0, type := 0, pos := "list.go:47", after := #[], guard := none }) (v := ?_) rfl (by kernel_rfl) (by kernel_rfl) (by kernel_rfl) (fun _ _ _ h => h) (Or.inl ⟨by rfl, ?_⟩) (by assumption) ?_
      rotate_left 1
      · intro w hSw; (try dsimp only at hSw); (try obtain ⟨r0, r1, r2, r3, r4⟩ := hSw.five); go_simp; try (with_reducible rfl)
      try simp only [Act.put, List.setIfInBounds_toArray, List.set_cons_zero, List.set_cons_succ]
      refine wpAnyH_take (i := 1) (oi := { dst := some 13, op := Op.load 9 (Operand.tmp 12), type := 9, pos := "list.go:47", after := #[{ on := 0, ground := Ground.data }], guard := none }) (v := ?_) rfl (by kernel_rfl) (by kernel_rfl) (by kernel_rfl) (fun _ _ _ h => h) (Or.inl ⟨by rfl, ?_⟩) (by assumption) ?_
      rotate_left 1
      · intro w hSw; (try dsimp only at hSw); (try obtain ⟨r0, r1, r2, r3, r4⟩ := hSw.five); go_simp; try (with_reducible rfl)
      try simp only [Act.put, List.setIfInBounds_toArray, List.set_cons_zero, List.set_cons_succ]
      refine wpAnyH_take (i := 3) (oi := { dst := some 15, op := Op.fieldAddr 52 (Operand.tmp 5) 4, type := 0, pos := "list.go:47", after := #[], guard := none }) (v := ?_) rfl (by kernel_rfl) (by kernel_rfl) (by kernel_rfl) (fun _ _ _ h => h) (Or.inl ⟨by rfl, ?_⟩) (by assumption) ?_
      rotate_left 1
      · intro w hSw; (try dsimp only at hSw); (try obtain ⟨r0, r1, r2, r3, r4⟩ := hSw.five); go_simp; try (with_reducible rfl)
      try simp only [Act.put, List.setIfInBounds_toArray, List.set_cons_zero, List.set_cons_succ]
      refine wpAnyH_take (i := 4) (oi := { dst := some 16, op := Op.load 9 (Operand.tmp 15), type := 9, pos := "list.go:47", after := #[{ on := 3, ground := Ground.data }], guard := none }) (v := ?_) rfl (by kernel_rfl) (by kernel_rfl) (by kernel_rfl) (fun _ _ _ h => h) (Or.inl ⟨by rfl, ?_⟩) (by assumption) ?_
      rotate_left 1
      · intro w hSw; (try dsimp only at hSw); (try obtain ⟨r0, r1, r2, r3, r4⟩ := hSw.five); go_simp; try (with_reducible rfl)
      try simp only [Act.put, List.setIfInBounds_toArray, List.set_cons_zero, List.set_cons_succ]
      refine wpAnyH_ready (rs := [2]) (by kernel_rfl) (by simp) ?_
      refine AllReadyH.cons (o := { dst := some 14, op := Op.call { callee := Callee.value (Operand.func 76), args := #[Operand.tmp 13], argTypes := #[9] }, type := 9, pos := "list.go:47", after := #[{ on := 1, ground := Ground.data }], guard := none }) rfl (fun K hK => ?_) (AllReadyH.nil)
      go_simp
      refine (HCN.out _).mono ?_; rintro e w1 ⟨rfl, hb⟩
      replace HC := Lib.hid (HC.out.later hb)
      clear hb
      try go_wp2_with fail
      refine hK.out _ _ HC.out.cel (fun hHeld => ?_)
      clear hK K
      try simp only [Act.put, List.setIfInBounds_toArray, List.set_cons_zero, List.set_cons_succ]
      refine wpAnyH_take (i := 6) (oi := { dst := some 18, op := Op.fieldAddr 52 (Operand.tmp 5) 0, type := 0, pos := "list.go:47", after := #[{ on := 0, ground := Ground.phase }, { on := 1, ground := Ground.phase }, { on := 2, ground := Ground.phase }, { on := 3, ground := Ground.phase }, { on := 4, ground := Ground.phase }, { on := 5, ground := Ground.textOnly Departure.lateStoresUnsure }], guard := none }) (v := ?_) rfl (by kernel_rfl) (by kernel_rfl) (by kernel_rfl) (fun _ _ _ h => h) (Or.inl ⟨by rfl, ?_⟩) (by assumption) ?_
      rotate_left 1
      · intro w hSw; (try dsimp only at hSw); (try obtain ⟨r0, r1, r2, r3, r4⟩ := hSw.five); go_simp; try (with_reducible rfl)
      try simp only [Act.put, List.setIfInBounds_toArray, List.set_cons_zero, List.set_cons_succ]
      refine wpAnyH_ready (rs := [5]) (by kernel_rfl) (by simp) ?_
      refine AllReadyH.cons (o := { dst := some 17, op := Op.call { callee := Callee.value (Operand.func 76), args := #[Operand.tmp 16], argTypes := #[9] }, type := 9, pos := "list.go:47", after := #[{ on := 4, ground := Ground.data }, { on := 2, ground := Ground.chain }], guard := none }) rfl (fun K hK => ?_) (AllReadyH.nil)
      go_simp
      refine (HCD.out _).mono ?_; rintro e w1 ⟨rfl, hb⟩
      replace HC := Lib.hid (HC.out.later hb)
      clear hb
      try go_wp2_with fail
      refine hK.out _ _ HC.out.cel (fun hHeld => ?_)
      clear hK K
      try simp only [Act.put, List.setIfInBounds_toArray, List.set_cons_zero, List.set_cons_succ]
      refine wpAnyH_ready (rs := [7]) (by kernel_rfl) (by simp) ?_
      refine AllReadyH.cons (o := { dst := none, op := Op.store 9 (Operand.tmp 18) (Operand.tmp 14), type := 0, pos := "list.go:47", after := #[{ on := 6, ground := Ground.data }, { on := 2, ground := Ground.data }, { on := 5, ground := Ground.chain }, { on := 0, ground := Ground.phase }, { on := 1, ground := Ground.phase }, { on := 2, ground := Ground.phase }, { on := 3, ground := Ground.phase }, { on := 4, ground := Ground.phase }, { on := 5, ground := Ground.textOnly Departure.lateStoresUnsure }], guard := none }) rfl (fun K hK => ?_) (AllReadyH.nil)
      obtain ⟨r0, r1, r2, r3, r4⟩ := HC.out.cel.five
      have fz := HC.out.cel.fz
      go_simp
      clear r0 r1 r2 r3 r4 fz
      replace HC := Lib.hid HC.out.put0
      refine hK.out _ _ HC.out.cel (fun hHeld => ?_)
      clear hK K
      try simp only [Act.put, List.setIfInBounds_toArray, List.set_cons_zero, List.set_cons_succ]
      refine wpAnyH_take (i := 8) (oi := { dst := some 19, op := Op.fieldAddr 52 (Operand.tmp 5) 4, type := 0, pos := "list.go:47", after := #[{ on := 0, ground := Ground.phase }, { on := 1, ground := Ground.phase }, { on := 2, ground := Ground.phase }, { on := 3, ground := Ground.phase }, { on := 4, ground := Ground.phase }, { on := 5, ground := Ground.phase }, { on := 6, ground := Ground.phase }, { on := 7, ground := Ground.phase }], guard := none }) (v := ?_) rfl (by kernel_rfl) (by kernel_rfl) (by kernel_rfl) (fun _ _ _ h => h) (Or.inl ⟨by rfl, ?_⟩) (by assumption) ?_
      rotate_left 1
      · intro w hSw; (try dsimp only at hSw); (try obtain ⟨r0, r1, r2, r3, r4⟩ := hSw.five); go_simp; try (with_reducible rfl)
      try simp only [Act.put, List.setIfInBounds_toArray, List.set_cons_zero, List.set_cons_succ]
      refine wpAnyH_ready (rs := [9]) (by kernel_rfl) (by simp) ?_
      refine AllReadyH.cons (o := { dst := none, op := Op.store 9 (Operand.tmp 19) (Operand.tmp 17), type := 0, pos := "list.go:47", after := #[{ on := 8, ground := Ground.data }, { on := 5, ground := Ground.data }, { on := 7, ground := Ground.chain }, { on := 0, ground := Ground.phase }, { on := 1, ground := Ground.phase }, { on := 2, ground := Ground.phase }, { on := 3, ground := Ground.phase }, { on := 4, ground := Ground.phase }, { on := 5, ground := Ground.phase }, { on := 6, ground := Ground.phase }, { on := 7, ground := Ground.phase }], guard := none }) rfl (fun K hK => ?_) (AllReadyH.nil)
      obtain ⟨r0, r1, r2, r3, r4⟩ := HC.out.cel.five
      have fz := HC.out.cel.fz
      go_simp
      clear r0 r1 r2 r3 r4 fz
      replace HC := Lib.hid HC.out.put4
      refine hK.out _ _ HC.out.cel (fun hHeld => ?_)
      clear hK K
      try simp only [Act.put, List.setIfInBounds_toArray, List.set_cons_zero, List.set_cons_succ]
      refine wpAnyH_done (by kernel_rfl) ?_ _
      clear hHeld
      obtain ⟨WE, hWE⟩ : ∃ X, (w1.setCell ⟨g, 0, none⟩ (.string (bs x.n))).setCell ⟨g, 4, none⟩ (.string (bs x.d)) = X := ⟨_, rfl⟩
      rw [hWE] at HC ⊢
      clear hWE
      have HT : Hid (l.take (k + 1) = L ++ [x]) := HTK
      have hone := sr_one WE x
      have hb4 : Below WE.heap.size WE (WE.alloc (.cells #[.string (bs x.n), .int .i64 x.t, .int .i64 x.c, .int .i64 x.l, .string (bs x.d)] 52)) := (Below.refl _ _).alloc (Nat.le_refl _) _
      have hc4 := HC.out.later hb4
      obtain ⟨a6, c6, w6, hr, hk6, ha6, _⟩ := run_appRc hc4.own hone (by have := HLL.out; have := HL.out; simp; omega) (by have := hc4.lt; have := hc4.ge; omega)
      rw [List.length_singleton] at hr hk6
      have HR := Lib.hid hr
      have hlo := World.ownsRow.lt hc4.own
      have HB6 := Lib.hid (below_aside hc4.bel ha6 (fun j hj => ⟨by have := hc4.lt; have := hc4.ge; omega, fun hg => by have := (hlo _ hg).1; omega⟩))
      have HSZ := Lib.hid (show N ≤ w6.heap.size by have := ha6.size; have := hc4.lt; have := hc4.ge; omega)
      have HK6 := Lib.hid (show OwnRc w6 N (.slice a6 (L.length + 1) c6) (l.take (k + 1)) by rw [HT.out]; exact hk6)
      obtain ⟨q0, q1, q2, q3, q4⟩ := HC.out.cel.five
      clear hone hb4 hc4 hr hk6 ha6 hlo HC HT
      go_wp2_with (at_builtin; refine wpList_append_run (.tmp 20) (.tmp 22) 23 23 rfl rfl rfl rfl HR.out ?_)
      go_roundg (l.length - (k + 1))
      case measure => omega
      case rel => exact ⟨k + 1, by omega, by go_num, HK6, HB6, HSZ.out⟩
    · have t1 : ¬ ((k : Int) < l.length) := by omega
      have hkl : l.take k = l := List.take_of_length_le (by omega)
      rw [hkl] at HK
      clear hkl
      go_wp2_with fail
      go_ret
      exact ⟨_, rfl, by first | exact HK.out | (rw [hN]; exact HK.out), by first | exact HB.out | (rw [hN]; exact HB.out)⟩
end Go.Proofs.YteegekpanadmkaaGreat
