/-
  A message of which no list is anybody else's: own.
-/
import Derived.Test.YteegekpanadmkaaGreatV10
import Derived.Lib.AppendZeros
import Derived.Test.YteegekpanadmkaaGreatV06
namespace Go.Proofs.YteegekpanadmkaaGreat
open Go.RowKit Go.Shelf
set_option linter.unusedVariables false
set_option linter.unusedSimpArgs false
set_option maxRecDepth 100000

def OwnM (w : World) (B : Nat) (v : Value) (m : Ms) : Prop := ∃ q a n r, v = .agg #[.int .i64 m.id, .int .i64 m.fl, q, a, n, r] ∧ OwnQn w B q m.q ∧ OwnRc w B a m.an ∧ OwnRc w B n m.ns ∧ OwnRc w B r m.ar
theorem OwnM.base {w : World} {B B' : Nat} {v : Value} {m : Ms} (h : OwnM w B v m) (hB : B' ≤ B) : OwnM w B' v m := by
  obtain ⟨q, a, n, r, rfl, h1, h2, h3, h4⟩ := h
  exact ⟨q, a, n, r, rfl, row_base h1 hB, row_base h2 hB, row_base h3 hB, row_base h4 hB⟩
theorem OwnM.mg {w : World} {B : Nat} {v : Value} {m : Ms} (h : OwnM w B v m) (hl : m.q.length + m.an.length + m.ns.length + m.ar.length ≤ 900000) : Mg w w.heap.size v m := by
  obtain ⟨q, a, n, r, rfl, h1, h2, h3, h4⟩ := h
  exact ⟨q, a, n, r, rfl, Lst.own h1 (by omega), Lst.own h2 (by omega), Lst.own h3 (by omega), Lst.own h4 (by omega)⟩

structure Ow (w wr : World) (N : Nat) (i f : Int) (q a n r : Value) (L : List Qn) : Prop where
  bel : Below N w wr
  x : Cel wr N [.int .i64 i, .int .i64 f, q, a, n, r]
  z : Cel wr (N + 1) [.int .i64 0, .int .i64 0, .slice none 0 0, .slice none 0 0, .slice none 0 0, .slice none 0 0]
  own : OwnQn wr (N + 2) q L
  size : N + 2 ≤ wr.heap.size
section
variable {w wr w' : World} {N : Nat} {i f : Int} {q a n r : Value} {L : List Qn}
theorem Ow.later (h : Ow w wr N i f q a n r L) (hb : Below wr.heap.size wr w') : Ow w w' N i f q a n r L :=
  ⟨below_aside h.bel (Aside.of_all hb : Aside (fun _ => False) wr w') (fun k hk => ⟨by have := h.size; omega, id⟩), h.x.below (by simp) hb, h.z.below (by simp) hb, row_below h.own hb, Nat.le_trans h.size hb.size⟩
theorem Ow.aside {b : Nat} (h : Ow w wr N i f q a n r L) (ha : Aside (fun k => k = b) wr w') (hb : N + 2 ≤ b) (ho : ∀ k, q.ownBlock = some k → k ≠ b) : Ow w w' N i f q a n r L :=
  ⟨below_aside h.bel ha (fun k hk => ⟨by have := h.size; omega, by omega⟩), h.x.aside (by simp) ha (by omega), h.z.aside (by simp) ha (by omega), row_aside h.own ha ho, Nat.le_trans h.size ha.size⟩
theorem Ow.app (h : Ow w wr N i f q a n r L) {hi : Nat} {u : Value} {x : Qn} (hx : SQ wr hi u [x]) (hl : L.length + 1 ≤ 1000000) :
    ∃ a6 c w6, (Builtin.append_ #[22, 22] 22 #[q, u]).run Tryz.prog wr = .ok (.slice a6 (L.length + 1) c) w6 ∧ w6.frozen? ⟨N, 2, none⟩ = false ∧ w6.cell? ⟨N, 2, none⟩ = some q ∧
      Ow w (w6.setCell ⟨N, 2, none⟩ (.slice a6 (L.length + 1) c)) N i f (.slice a6 (L.length + 1) c) a n r (L ++ [x]) := by
  obtain ⟨a6, c, w6, h1, h2, h3, h4⟩ := run_appQn h.own hx hl h.size
  simp only [List.length_singleton] at h1 h2 h4
  have hlt := World.ownsRow.lt h.own
  have hG : ∀ k, k < N + 2 → ¬ q.ownBlock = some k := fun k hk hg => by have := (hlt k hg).1; omega
  have x6 := h.x.aside (by simp) h3 (hG _ (by omega))
  have z6 := h.z.aside (by simp) h3 (hG _ (by omega))
  have hs := Nat.le_trans h.size h3.size
  have hst : Aside (fun k => k = N) w6 (w6.setCell ⟨N, 2, none⟩ (.slice a6 (L.length + 1) c)) := Aside.setCell w6 (p := ⟨N, 2, none⟩) _ rfl
  exact ⟨a6, c, w6, h1, x6.fz 2, x6.c 2 (by simp), below_aside (below_aside h.bel h3 (fun k hk => ⟨by have := h.size; omega, hG k (by omega)⟩)) hst (fun k hk => ⟨by omega, by omega⟩), x6.set (o := 2) (by simp) _,
    z6.other (a := ⟨N, 2, none⟩) (by show N ≠ N + 1; omega) _, row_aside h2 hst fun k hk hg => by have := (World.ownsRow.lt h2 k hk).1; omega, Nat.le_trans hs hst.size⟩
theorem Ow.put3 (h : Ow w wr N i f q a n r L) (v : Value) : Ow w (wr.setCell ⟨N, 3, none⟩ v) N i f q v n r L := by
  have hst : Aside (fun k => k = N) wr (wr.setCell ⟨N, 3, none⟩ v) := Aside.setCell wr (p := ⟨N, 3, none⟩) _ rfl
  exact ⟨below_aside h.bel hst (fun k hk => ⟨by have := h.size; omega, by omega⟩), h.x.set (o := 3) (by simp) v, h.z.other (a := ⟨N, 3, none⟩) (by show N ≠ N + 1; omega) _, row_aside h.own hst fun k hk hg => by have := (World.ownsRow.lt h.own k hk).1; omega, Nat.le_trans h.size hst.size⟩
theorem Ow.put4 (h : Ow w wr N i f q a n r L) (v : Value) : Ow w (wr.setCell ⟨N, 4, none⟩ v) N i f q a v r L := by
  have hst : Aside (fun k => k = N) wr (wr.setCell ⟨N, 4, none⟩ v) := Aside.setCell wr (p := ⟨N, 4, none⟩) _ rfl
  exact ⟨below_aside h.bel hst (fun k hk => ⟨by have := h.size; omega, by omega⟩), h.x.set (o := 4) (by simp) v, h.z.other (a := ⟨N, 4, none⟩) (by show N ≠ N + 1; omega) _, row_aside h.own hst fun k hk hg => by have := (World.ownsRow.lt h.own k hk).1; omega, Nat.le_trans h.size hst.size⟩
theorem Ow.put5 (h : Ow w wr N i f q a n r L) (v : Value) : Ow w (wr.setCell ⟨N, 5, none⟩ v) N i f q a n v L := by
  have hst : Aside (fun k => k = N) wr (wr.setCell ⟨N, 5, none⟩ v) := Aside.setCell wr (p := ⟨N, 5, none⟩) _ rfl
  exact ⟨below_aside h.bel hst (fun k hk => ⟨by have := h.size; omega, by omega⟩), h.x.set (o := 5) (by simp) v, h.z.other (a := ⟨N, 5, none⟩) (by show N ≠ N + 1; omega) _, row_aside h.own hst fun k hk hg => by have := (World.ownsRow.lt h.own k hk).1; omega, Nat.le_trans h.size hst.size⟩
theorem row_box {v : Value} {l : List Rc} {o : Nat} {u : Value} (h : OwnRc wr (N + 2) v l) : OwnRc (wr.setCell ⟨N, o, none⟩ u) (N + 2) v l := by
  have hst : Aside (fun k => k = N) wr (wr.setCell ⟨N, o, none⟩ u) := Aside.setCell wr (p := ⟨N, o, none⟩) _ rfl
  exact row_aside h hst fun k hk hg => by have := (World.ownsRow.lt h k hk).1; omega
end

set_option maxHeartbeats 4000000 in
theorem own_any {w : World} {hi : Nat} {u : Value} {m : Ms} (h : Mg w hi u m) (h1 : hi ≤ w.heap.size) (hl : m.q.length + m.an.length + m.ns.length + m.ar.length ≤ 900000) (hn : ∀ x ∈ m.q, x.n.length ≤ 1000000)
    (ha : ∀ x ∈ m.an, x.n.length ≤ 1000000 ∧ x.d.length ≤ 1000000) (hs : ∀ x ∈ m.ns, x.n.length ≤ 1000000 ∧ x.d.length ≤ 1000000) (hr : ∀ x ∈ m.ar, x.n.length ≤ 1000000 ∧ x.d.length ≤ 1000000) :
    Calls Tryz.prog 54 #[u] w (fun e w' => ∃ v, e = .returned v ∧ OwnM w' w.heap.size v m ∧ Below w.heap.size w w') := by
  obtain ⟨i0, f0, l, lan, lns, lar⟩ := m
  obtain ⟨q, a, n, r, rfl, hq, h2, h3, h4⟩ := h
  simp only at hl hn ha hs hr hq h2 h3 h4 ⊢
  obtain ⟨N, hN⟩ : ∃ g, w.heap.size = g := ⟨_, rfl⟩
  have HCA := Lib.hid (fun wx (hb : Below N w wx) => copied_any (Lst.below h2 hb (by omega)) (Nat.le_trans (by omega : hi ≤ N) (by have := hb.size; omega)) (by omega) ha)
  have HCN := Lib.hid (fun wx (hb : Below N w wx) => copied_any (Lst.below h3 hb (by omega)) (Nat.le_trans (by omega : hi ≤ N) (by have := hb.size; omega)) (by omega) hs)
  have HCR := Lib.hid (fun wx (hb : Below N w wx) => copied_any (Lst.below h4 hb (by omega)) (Nat.le_trans (by omega : hi ≤ N) (by have := hb.size; omega)) (by omega) hr)
  obtain ⟨xa, xc, rfl⟩ := Lst.shape hq
  obtain ⟨aa, ac, rfl⟩ := Lst.shape h2
  obtain ⟨na, nc, rfl⟩ := Lst.shape h3
  obtain ⟨ra, rc, rfl⟩ := Lst.shape h4
  obtain ⟨la, hla⟩ : ∃ i, lan.length = i := ⟨_, rfl⟩
  obtain ⟨ln, hln⟩ : ∃ i, lns.length = i := ⟨_, rfl⟩
  obtain ⟨lr, hlr⟩ : ∃ i, lar.length = i := ⟨_, rfl⟩
  rw [hla] at HCA
  rw [hln] at HCN
  rw [hlr] at HCR
  rw [hla, hln, hlr] at hl ⊢
  have HQ := Lib.hid (show SQ w hi (.slice xa l.length xc) l from hq)
  have HLN := Lib.hid (Lst.len hq)
  have HL := Lib.hid (show l.length ≤ 900000 by omega)
  have HNN := Lib.hid hn
  have HHI := Lib.hid (show hi ≤ N by omega)
  have hz := cel_new6 (w.alloc (.cells #[.int .i64 i0, .int .i64 f0, .slice xa l.length xc, .slice aa la ac, .slice na ln nc, .slice ra lr rc] 25)) (.int .i64 0) (.int .i64 0) (.slice none 0 0) (.slice none 0 0) (.slice none 0 0) (.slice none 0 0) 25
  rw [World.size_alloc, hN] at hz
  have hx := (cel_new6 w (.int .i64 i0) (.int .i64 f0) (.slice xa l.length xc) (.slice aa la ac) (.slice na ln nc) (.slice ra lr rc) 25).below (by simp) ((Below.refl _ _).alloc (Nat.le_refl _) (.cells #[.int .i64 0, .int .i64 0, .slice none 0 0, .slice none 0 0, .slice none 0 0, .slice none 0 0] 25))
  rw [hN] at hx
  have hb2 : Below N w ((w.alloc (.cells #[.int .i64 i0, .int .i64 f0, .slice xa l.length xc, .slice aa la ac, .slice na ln nc, .slice ra lr rc] 25)).alloc (.cells #[.int .i64 0, .int .i64 0, .slice none 0 0, .slice none 0 0, .slice none 0 0, .slice none 0 0] 25)) :=
    ((Below.refl _ _).alloc (by omega) _).alloc (by simp; omega) _
  have hsz : ((w.alloc (.cells #[.int .i64 i0, .int .i64 f0, .slice xa l.length xc, .slice aa la ac, .slice na ln nc, .slice ra lr rc] 25)).alloc (.cells #[.int .i64 0, .int .i64 0, .slice none 0 0, .slice none 0 0, .slice none 0 0, .slice none 0 0] 25)).heap.size = N + 2 := by simp [hN]
  obtain ⟨W, hW⟩ : ∃ X, (w.alloc (.cells #[.int .i64 i0, .int .i64 f0, .slice xa l.length xc, .slice aa la ac, .slice na ln nc, .slice ra lr rc] 25)).alloc (.cells #[.int .i64 0, .int .i64 0, .slice none 0 0, .slice none 0 0, .slice none 0 0, .slice none 0 0] 25) = X := ⟨_, rfl⟩
  rw [hW] at hz hx hb2 hsz
  have hst : Aside (fun k => k = N) W (W.setCell ⟨N, 2, none⟩ (.slice none 0 0)) := Aside.setCell W (p := ⟨N, 2, none⟩) _ rfl
  have HP := Lib.hid (show Ow w (W.setCell ⟨N, 2, none⟩ (.slice none 0 0)) N i0 f0 (.slice none 0 0) (.slice aa la ac) (.slice na ln nc) (.slice ra lr rc) [] from
    ⟨below_aside hb2 hst (fun k hk => ⟨by omega, by omega⟩), hx.set (o := 2) (by simp) _, hz.other (a := ⟨N, 2, none⟩) (by show N ≠ N + 1; omega) _, World.ownsRow_nil _ _ _ _, by have := hst.size; omega⟩)
  have x2 : W.cell? ⟨N, 2, none⟩ = some (.slice xa l.length xc) := hx.c 2 (by simp)
  have f2 := hx.fz 2
  clear hq h2 h3 h4 hl hn ha hs hr h1 hla hln hlr hz hx hb2 hst
  go_enter Tryz.func54, Tryz.ntmps54
  go_wp2_with fail
  clear x2 f2
  go_loopg [11] l.length (fun g v11 wr => ∃ k : Nat, k + g = l.length ∧ v11 = .int .i64 k ∧ ∃ qv, Hid (Ow w wr N i0 f0 qv (.slice aa la ac) (.slice na ln nc) (.slice ra lr rc) (l.take k)))
  case atStart => exact ⟨0, by omega, rfl, _, by first | exact HP | (rw [hW]; exact HP)⟩
  case round =>
    clear HP
    obtain ⟨k, hk, rfl, qv, HP⟩ := hrel
    have hlen := HLN.out
    by_cases hlt : k < l.length
    · obtain ⟨b, off, c2, he, hb, hc⟩ := HQ.out.at_ k hlt
      injection he with he hn3 hc3
      clear hn3 hc3
      subst he
      obtain ⟨c0, c1, c2⟩ := hc.keep fun o => HP.out.bel.cell (p := ⟨b, o, none⟩) (Nat.lt_of_lt_of_le hb HHI.out)
      have HTK := Lib.hid (show l.take k ++ [l[k]] = l.take (k + 1) by rw [List.take_add_one, List.getElem?_eq_getElem hlt]; rfl)
      have HXN := Lib.hid (HNN.out l[k] (List.getElem_mem hlt))
      obtain ⟨x, hx⟩ : ∃ x, l[k] = x := ⟨_, rfl⟩
      rw [hx] at c0 c1 c2 HTK HXN
      have HTL := Lib.hid (show (l.take k).length = k by rw [List.length_take]; omega)
      obtain ⟨g, hg⟩ : ∃ g, wr.heap.size = g := ⟨_, rfl⟩
      have HQC := Lib.hid (show Cel (wr.alloc (.cells #[.string (bs x.n), .int .i64 x.t, .int .i64 x.c] 56)) g [.string (bs x.n), .int .i64 x.t, .int .i64 x.c] by
        have := cel_new3 wr (.string (bs x.n)) (.int .i64 x.t) (.int .i64 x.c) 56
        rwa [hg] at this)
      have HGN := Lib.hid (show N + 2 ≤ g by rw [← hg]; exact HP.out.size)
      have HGO := Lib.hid (show ∀ j, qv.ownBlock = some j → j ≠ g from fun j hj => by have := (World.ownsRow.lt HP.out.own j hj).2; omega)
      replace HP := Lib.hid (HP.out.later ((Below.refl wr.heap.size wr).alloc (Nat.le_refl _) (.cells #[.string (bs x.n), .int .i64 x.t, .int .i64 x.c] 56)))
      clear hc hx hb
      go_wp2_with fail
      refine (clone_any _ (by rw [bs_size]; exact HXN.out) _).mono ?_; rintro e w3 ⟨rfl, hb⟩
      have HQ3 := Lib.hid (HQC.out.below (by simp) hb)
      have HP3 := Lib.hid (HP.out.later hb)
      have HS3 := Lib.hid (show g < w3.heap.size from HQ3.out.lt (by simp))
      have hst : Aside (fun j => j = g) w3 (w3.setCell ⟨g, 0, none⟩ (.string (bs x.n))) := Aside.setCell w3 (p := ⟨g, 0, none⟩) _ rfl
      have HP4 := Lib.hid (HP3.out.aside hst HGN.out HGO.out)
      have HQ4 := Lib.hid (show Cel (w3.setCell ⟨g, 0, none⟩ (.string (bs x.n))) g [.string (bs x.n), .int .i64 x.t, .int .i64 x.c] from HQ3.out.set (o := 0) (by simp) (.string (bs x.n)))
      have hb5 : Below (w3.setCell ⟨g, 0, none⟩ (.string (bs x.n))).heap.size (w3.setCell ⟨g, 0, none⟩ (.string (bs x.n))) ((w3.setCell ⟨g, 0, none⟩ (.string (bs x.n))).alloc (.cells #[.string (bs x.n), .int .i64 x.t, .int .i64 x.c] 56)) := (Below.refl _ _).alloc (Nat.le_refl _) _
      have HP5 := Lib.hid (HP4.out.later hb5)
      have hone := sq_one (w3.setCell ⟨g, 0, none⟩ (.string (bs x.n))) x
      rw [show (w3.setCell ⟨g, 0, none⟩ (.string (bs x.n))).heap.size = w3.heap.size from World.size_setCell _ _ _] at hone
      obtain ⟨a6, cp6, w6, hrun, hfz, hcl, hp6⟩ := HP5.out.app hone (by rw [HTL.out]; have := HL.out; omega)
      rw [HTL.out] at hrun hp6
      rw [HTK.out] at hp6
      have HRUN := Lib.hid hrun
      have HP6 := Lib.hid hp6
      have f3 : w3.frozen? ⟨g, 0, none⟩ = false := HQ3.out.fz 0
      have d0 : w3.cell? ⟨g, 0, none⟩ = some (.string (bs x.n)) := HQ3.out.c 0 (by simp)
      have e0 : (w3.setCell ⟨g, 0, none⟩ (.string (bs x.n))).cell? ⟨g, 0, none⟩ = some (.string (bs x.n)) := HQ4.out.c 0 (by simp)
      have e1 : (w3.setCell ⟨g, 0, none⟩ (.string (bs x.n))).cell? ⟨g, 1, none⟩ = some (.int .i64 x.t) := HQ4.out.c 1 (by simp)
      have e2 : (w3.setCell ⟨g, 0, none⟩ (.string (bs x.n))).cell? ⟨g, 2, none⟩ = some (.int .i64 x.c) := HQ4.out.c 2 (by simp)
      have e3 : (w3.setCell ⟨g, 0, none⟩ (.string (bs x.n))).cell? ⟨N, 2, none⟩ = some qv := HP4.out.x.c 2 (by simp)
      clear hb hst hb5 hone hrun hp6 HP HP3 HP4 HP5 HQC HQ3 HQ4
      go_wp2_with (at_builtin; refine wpList_append_run (.tmp 20) (.tmp 22) 22 22 rfl rfl rfl rfl HRUN.out ?_)
      go_roundg (l.length - (k + 1))
      case measure => omega
      case rel => exact ⟨k + 1, by omega, by go_num, _, HP6⟩
    · have t1 : ¬ ((k : Int) < l.length) := by omega
      have hkl : l.take k = l := List.take_of_length_le (by omega)
      rw [hkl] at HP
      replace HP := Lib.hid (HP.out.later (Below.refl _ _).drew)
      obtain ⟨qa, qc, rfl⟩ := row_shape HP.out.own
      clear hkl
      go_wp2_with fail
      refine wp_region_tilk (S := (fun wx => wx.cell? ⟨N, 3, none⟩ = some (.slice aa la ac) ∧ wx.cell? ⟨N, 4, none⟩ = some (.slice na ln nc) ∧ wx.cell? ⟨N, 5, none⟩ = some (.slice ra lr rc))) [10, 11, 12, 13, 14] (by kernel_rfl) ⟨HP.out.x.c 3 (by simp), HP.out.x.c 4 (by simp), HP.out.x.c 5 (by simp)⟩ (fun hHeld => ?_)
      refine tilk_take (i := 0) (oi := { dst := some 26, op := Op.fieldAddr 25 (Operand.tmp 1) 3, type := 0, pos := "list.go:39", after := #[], guard := none }) (v := ?_) rfl (by kernel_rfl) (by kernel_rfl) (by kernel_rfl) (fun _ _ _ h => h) (Or.inl ⟨by rfl, ?_⟩) (by assumption) ?_
      rotate_left 1
      · intro w hSw; (try dsimp only at hSw); go_simp; try (with_reducible rfl)
      try simp only [Act.put, List.setIfInBounds_toArray, List.set_cons_zero, List.set_cons_succ]
      refine tilk_take (i := 1) (oi := { dst := some 27, op := Op.load 23 (Operand.tmp 26), type := 23, pos := "list.go:39", after := #[{ on := 0, ground := Ground.data }], guard := none }) (v := ?_) rfl (by kernel_rfl) (by kernel_rfl) (by kernel_rfl) (fun _ _ _ h => h) (Or.inl ⟨by rfl, ?_⟩) (by assumption) ?_
      rotate_left 1
      · intro w hSw; (try dsimp only at hSw); go_simp; try (with_reducible rfl)
      try simp only [Act.put, List.setIfInBounds_toArray, List.set_cons_zero, List.set_cons_succ]
      refine tilk_take (i := 3) (oi := { dst := some 29, op := Op.fieldAddr 25 (Operand.tmp 1) 4, type := 0, pos := "list.go:39", after := #[], guard := none }) (v := ?_) rfl (by kernel_rfl) (by kernel_rfl) (by kernel_rfl) (fun _ _ _ h => h) (Or.inl ⟨by rfl, ?_⟩) (by assumption) ?_
      rotate_left 1
      · intro w hSw; (try dsimp only at hSw); go_simp; try (with_reducible rfl)
      try simp only [Act.put, List.setIfInBounds_toArray, List.set_cons_zero, List.set_cons_succ]
      refine tilk_take (i := 4) (oi := { dst := some 30, op := Op.load 23 (Operand.tmp 29), type := 23, pos := "list.go:39", after := #[{ on := 3, ground := Ground.data }], guard := none }) (v := ?_) rfl (by kernel_rfl) (by kernel_rfl) (by kernel_rfl) (fun _ _ _ h => h) (Or.inl ⟨by rfl, ?_⟩) (by assumption) ?_
      rotate_left 1
      · intro w hSw; (try dsimp only at hSw); go_simp; try (with_reducible rfl)
      try simp only [Act.put, List.setIfInBounds_toArray, List.set_cons_zero, List.set_cons_succ]
      refine tilk_take (i := 6) (oi := { dst := some 32, op := Op.fieldAddr 25 (Operand.tmp 1) 5, type := 0, pos := "list.go:39", after := #[], guard := none }) (v := ?_) rfl (by kernel_rfl) (by kernel_rfl) (by kernel_rfl) (fun _ _ _ h => h) (Or.inl ⟨by rfl, ?_⟩) (by assumption) ?_
      rotate_left 1
      · intro w hSw; (try dsimp only at hSw); go_simp; try (with_reducible rfl)
      try simp only [Act.put, List.setIfInBounds_toArray, List.set_cons_zero, List.set_cons_succ]
      refine tilk_take (i := 7) (oi := { dst := some 33, op := Op.load 23 (Operand.tmp 32), type := 23, pos := "list.go:39", after := #[{ on := 6, ground := Ground.data }], guard := none }) (v := ?_) rfl (by kernel_rfl) (by kernel_rfl) (by kernel_rfl) (fun _ _ _ h => h) (Or.inl ⟨by rfl, ?_⟩) (by assumption) ?_
      rotate_left 1
      · intro w hSw; (try dsimp only at hSw); go_simp; try (with_reducible rfl)
      try simp only [Act.put, List.setIfInBounds_toArray, List.set_cons_zero, List.set_cons_succ]
      refine tilk_ready (rs := [2]) (by kernel_rfl) (by simp) ?_
      refine TilkAll.cons (o := { dst := some 28, op := Op.call { callee := Callee.value (Operand.func 77), args := #[Operand.tmp 27], argTypes := #[23] }, type := 23, pos := "list.go:39", after := #[{ on := 1, ground := Ground.data }], guard := none }) rfl (fun K hK => ?_) (TilkAll.nil)
      go_simp
      refine (HCA.out _ HP.out.bel).mono ?_; rintro e w1 ⟨va, rfl, ho, hb⟩
      obtain ⟨ava, cva, rfl⟩ := row_shape ho
      have HA := Lib.hid (show OwnRc w1 (N + 2) _ _ from row_base ho HP.out.size)
      replace HP := Lib.hid (HP.out.later hb)
      clear ho hb
      try go_wp2_with fail
      refine hK.out _ _ ⟨HP.out.x.c 3 (by simp), HP.out.x.c 4 (by simp), HP.out.x.c 5 (by simp)⟩ (fun hHeld => ?_)
      clear hK K
      try simp only [Act.put, List.setIfInBounds_toArray, List.set_cons_zero, List.set_cons_succ]
      refine tilk_take (i := 9) (oi := { dst := some 35, op := Op.fieldAddr 25 (Operand.tmp 1) 3, type := 0, pos := "list.go:39", after := #[{ on := 0, ground := Ground.phase }, { on := 1, ground := Ground.phase }, { on := 2, ground := Ground.phase }, { on := 3, ground := Ground.phase }, { on := 4, ground := Ground.phase }, { on := 5, ground := Ground.textOnly Departure.lateStoresUnsure }, { on := 6, ground := Ground.phase }, { on := 7, ground := Ground.phase }, { on := 8, ground := Ground.textOnly Departure.lateStoresUnsure }], guard := none }) (v := ?_) rfl (by kernel_rfl) (by kernel_rfl) (by kernel_rfl) (fun _ _ _ h => h) (Or.inl ⟨by rfl, ?_⟩) (by assumption) ?_
      rotate_left 1
      · intro w hSw; (try dsimp only at hSw); go_simp; try (with_reducible rfl)
      try simp only [Act.put, List.setIfInBounds_toArray, List.set_cons_zero, List.set_cons_succ]
      refine tilk_ready (rs := [5]) (by kernel_rfl) (by simp) ?_
      refine TilkAll.cons (o := { dst := some 31, op := Op.call { callee := Callee.value (Operand.func 77), args := #[Operand.tmp 30], argTypes := #[23] }, type := 23, pos := "list.go:39", after := #[{ on := 4, ground := Ground.data }, { on := 2, ground := Ground.chain }], guard := none }) rfl (fun K hK => ?_) (TilkAll.nil)
      go_simp
      refine (HCN.out _ HP.out.bel).mono ?_; rintro e w2 ⟨vn, rfl, ho, hb⟩
      obtain ⟨avn, cvn, rfl⟩ := row_shape ho
      have HNN2 := Lib.hid (show OwnRc w2 (N + 2) _ _ from row_base ho HP.out.size)
      replace HP := Lib.hid (HP.out.later hb)
      replace HA := Lib.hid (show OwnRc _ (N + 2) _ _ from row_below HA.out hb)
      clear ho hb
      try go_wp2_with fail
      refine hK.out _ _ ⟨HP.out.x.c 3 (by simp), HP.out.x.c 4 (by simp), HP.out.x.c 5 (by simp)⟩ (fun hHeld => ?_)
      clear hK K
      try simp only [Act.put, List.setIfInBounds_toArray, List.set_cons_zero, List.set_cons_succ]
      refine tilk_ready (rs := [8]) (by kernel_rfl) (by simp) ?_
      refine TilkAll.cons (o := { dst := some 34, op := Op.call { callee := Callee.value (Operand.func 77), args := #[Operand.tmp 33], argTypes := #[23] }, type := 23, pos := "list.go:39", after := #[{ on := 7, ground := Ground.data }, { on := 5, ground := Ground.chain }], guard := none }) rfl (fun K hK => ?_) (TilkAll.nil)
      go_simp
      refine (HCR.out _ HP.out.bel).mono ?_; rintro e w3 ⟨vr, rfl, ho, hb⟩
      obtain ⟨avr, cvr, rfl⟩ := row_shape ho
      have HR := Lib.hid (show OwnRc w3 (N + 2) _ _ from row_base ho HP.out.size)
      replace HP := Lib.hid (HP.out.later hb)
      replace HA := Lib.hid (show OwnRc _ (N + 2) _ _ from row_below HA.out hb)
      replace HNN2 := Lib.hid (show OwnRc _ (N + 2) _ _ from row_below HNN2.out hb)
      clear ho hb
      try go_wp2_with fail
      refine hK.out _ _ ⟨HP.out.x.c 3 (by simp), HP.out.x.c 4 (by simp), HP.out.x.c 5 (by simp)⟩ (fun hHeld => ?_)
      clear hK K
      try simp only [Act.put, List.setIfInBounds_toArray, List.set_cons_zero, List.set_cons_succ]
      refine tilk_ready (rs := [10]) (by kernel_rfl) (by simp) ?_
      refine TilkAll.last (i := 10) (o := { dst := none, op := Op.store 23 (Operand.tmp 35) (Operand.tmp 28), type := 0, pos := "list.go:39", after := #[{ on := 9, ground := Ground.data }, { on := 2, ground := Ground.data }, { on := 8, ground := Ground.chain }, { on := 0, ground := Ground.phase }, { on := 1, ground := Ground.phase }, { on := 2, ground := Ground.phase }, { on := 3, ground := Ground.phase }, { on := 4, ground := Ground.phase }, { on := 5, ground := Ground.textOnly Departure.lateStoresUnsure }, { on := 6, ground := Ground.phase }, { on := 7, ground := Ground.phase }, { on := 8, ground := Ground.textOnly Departure.lateStoresUnsure }], guard := none }) rfl (fun K hK => ?_) (TilkAll.nil)
      obtain ⟨r0, r1, r2, r3, r4, r5⟩ := HP.out.x.six
      have fz := HP.out.x.fz
      go_simp
      clear r0 r1 r2 r3 r4 r5 fz
      replace HP := Lib.hid (HP.out.put3 (.slice ava lan.length cva))
      replace HA := Lib.hid (row_box (o := 3) (u := (.slice ava lan.length cva)) HA.out)
      replace HNN2 := Lib.hid (row_box (o := 3) (u := (.slice ava lan.length cva)) HNN2.out)
      replace HR := Lib.hid (row_box (o := 3) (u := (.slice ava lan.length cva)) HR.out)
      refine hK.out _ _ trivial (fun hHeld => ?_)
      clear hK K
      try simp only [Act.put, List.setIfInBounds_toArray, List.set_cons_zero, List.set_cons_succ]
      refine tilk_ready (rs := [11]) (by kernel_rfl) (by simp) ?_
      refine TilkAll.last (i := 11) (o := { dst := some 36, op := Op.fieldAddr 25 (Operand.tmp 1) 4, type := 0, pos := "list.go:39", after := #[{ on := 0, ground := Ground.phase }, { on := 1, ground := Ground.phase }, { on := 2, ground := Ground.phase }, { on := 3, ground := Ground.phase }, { on := 4, ground := Ground.phase }, { on := 5, ground := Ground.phase }, { on := 6, ground := Ground.phase }, { on := 7, ground := Ground.phase }, { on := 8, ground := Ground.textOnly Departure.lateStoresUnsure }, { on := 9, ground := Ground.phase }, { on := 10, ground := Ground.phase }], guard := none }) rfl (fun K hK => ?_) (TilkAll.nil)
      go_simp
      refine hK.out _ _ trivial (fun hHeld => ?_)
      clear hK K
      try simp only [Act.put, List.setIfInBounds_toArray, List.set_cons_zero, List.set_cons_succ]
      refine tilk_ready (rs := [12]) (by kernel_rfl) (by simp) ?_
      refine TilkAll.last (i := 12) (o := { dst := none, op := Op.store 23 (Operand.tmp 36) (Operand.tmp 31), type := 0, pos := "list.go:39", after := #[{ on := 11, ground := Ground.data }, { on := 5, ground := Ground.data }, { on := 10, ground := Ground.chain }, { on := 0, ground := Ground.phase }, { on := 1, ground := Ground.phase }, { on := 2, ground := Ground.phase }, { on := 3, ground := Ground.phase }, { on := 4, ground := Ground.phase }, { on := 5, ground := Ground.phase }, { on := 6, ground := Ground.phase }, { on := 7, ground := Ground.phase }, { on := 8, ground := Ground.textOnly Departure.lateStoresUnsure }, { on := 9, ground := Ground.phase }, { on := 10, ground := Ground.phase }], guard := none }) rfl (fun K hK => ?_) (TilkAll.nil)
      obtain ⟨r0, r1, r2, r3, r4, r5⟩ := HP.out.x.six
      have fz := HP.out.x.fz
      go_simp
      clear r0 r1 r2 r3 r4 r5 fz
      replace HP := Lib.hid (HP.out.put4 (.slice avn lns.length cvn))
      replace HA := Lib.hid (row_box (o := 4) (u := (.slice avn lns.length cvn)) HA.out)
      replace HNN2 := Lib.hid (row_box (o := 4) (u := (.slice avn lns.length cvn)) HNN2.out)
      replace HR := Lib.hid (row_box (o := 4) (u := (.slice avn lns.length cvn)) HR.out)
      refine hK.out _ _ trivial (fun hHeld => ?_)
      clear hK K
      try simp only [Act.put, List.setIfInBounds_toArray, List.set_cons_zero, List.set_cons_succ]
      refine tilk_ready (rs := [13]) (by kernel_rfl) (by simp) ?_
      refine TilkAll.last (i := 13) (o := { dst := some 37, op := Op.fieldAddr 25 (Operand.tmp 1) 5, type := 0, pos := "list.go:39", after := #[{ on := 0, ground := Ground.phase }, { on := 1, ground := Ground.phase }, { on := 2, ground := Ground.phase }, { on := 3, ground := Ground.phase }, { on := 4, ground := Ground.phase }, { on := 5, ground := Ground.phase }, { on := 6, ground := Ground.phase }, { on := 7, ground := Ground.phase }, { on := 8, ground := Ground.phase }, { on := 9, ground := Ground.phase }, { on := 10, ground := Ground.phase }, { on := 11, ground := Ground.phase }, { on := 12, ground := Ground.phase }], guard := none }) rfl (fun K hK => ?_) (TilkAll.nil)
      go_simp
      refine hK.out _ _ trivial (fun hHeld => ?_)
      clear hK K
      try simp only [Act.put, List.setIfInBounds_toArray, List.set_cons_zero, List.set_cons_succ]
      refine tilk_ready (rs := [14]) (by kernel_rfl) (by simp) ?_
      refine TilkAll.last (i := 14) (o := { dst := none, op := Op.store 23 (Operand.tmp 37) (Operand.tmp 34), type := 0, pos := "list.go:39", after := #[{ on := 13, ground := Ground.data }, { on := 8, ground := Ground.data }, { on := 12, ground := Ground.chain }, { on := 0, ground := Ground.phase }, { on := 1, ground := Ground.phase }, { on := 2, ground := Ground.phase }, { on := 3, ground := Ground.phase }, { on := 4, ground := Ground.phase }, { on := 5, ground := Ground.phase }, { on := 6, ground := Ground.phase }, { on := 7, ground := Ground.phase }, { on := 8, ground := Ground.phase }, { on := 9, ground := Ground.phase }, { on := 10, ground := Ground.phase }, { on := 11, ground := Ground.phase }, { on := 12, ground := Ground.phase }], guard := none }) rfl (fun K hK => ?_) (TilkAll.nil)
      obtain ⟨r0, r1, r2, r3, r4, r5⟩ := HP.out.x.six
      have fz := HP.out.x.fz
      go_simp
      clear r0 r1 r2 r3 r4 r5 fz
      replace HP := Lib.hid (HP.out.put5 (.slice avr lar.length cvr))
      replace HA := Lib.hid (row_box (o := 5) (u := (.slice avr lar.length cvr)) HA.out)
      replace HNN2 := Lib.hid (row_box (o := 5) (u := (.slice avr lar.length cvr)) HNN2.out)
      replace HR := Lib.hid (row_box (o := 5) (u := (.slice avr lar.length cvr)) HR.out)
      refine hK.out _ _ trivial (fun hHeld => ?_)
      clear hK K
      try simp only [Act.put, List.setIfInBounds_toArray, List.set_cons_zero, List.set_cons_succ]
      refine tilk_done (by kernel_rfl) ?_ _
      clear hHeld
      obtain ⟨WE, hWE⟩ : ∃ X, ((w3.setCell ⟨N, 3, none⟩ (.slice ava lan.length cva)).setCell ⟨N, 4, none⟩ (.slice avn lns.length cvn)).setCell ⟨N, 5, none⟩ (.slice avr lar.length cvr) = X := ⟨_, rfl⟩
      rw [hWE] at HP HA HNN2 HR ⊢
      clear hWE
      obtain ⟨r0, r1, r2, r3, r4, r5⟩ := HP.out.x.six
      obtain ⟨z0, z1, z2, z3, z4, z5⟩ := HP.out.z.six
      have fz := HP.out.x.fz
      have fy := HP.out.z.fz
      go_wp2_with fail
      clear r0 r1 r2 r3 r4 r5 z0 z1 z2 z3 z4 z5 fz fy
      have k6 := cel_put6 HP.out.z (.int .i64 i0) (.int .i64 f0) (.slice qa l.length qc) (.slice ava lan.length cva) (.slice avn lns.length cvn) (.slice avr lar.length cvr)
      have ha := aside_put6 WE (N + 1) (.int .i64 i0) (.int .i64 f0) (.slice qa l.length qc) (.slice ava lan.length cva) (.slice avn lns.length cvn) (.slice avr lar.length cvr)
      obtain ⟨m0, m1, m2, m3, m4, m5⟩ := k6.six
      unfold put6 at m0 m1 m2 m3 m4 m5 ha
      have key : ∀ (v : Value) (l : List Rc), OwnRc WE (N + 2) v l → OwnRc _ N v l := fun v l h => row_base (row_aside h ha fun j hj hg => by have := (World.ownsRow.lt h j hj).1; omega) (by omega)
      refine bodyPost_ret (v := .agg #[.int .i64 i0, .int .i64 f0, .slice qa l.length qc, .slice ava lan.length cva, .slice avn lns.length cvn, .slice avr lar.length cvr]) (by simp [results, Tryz.results54, go_sem, m0, m1, m2, m3, m4, m5]) rfl ⟨_, rfl, ?_, ?_⟩
      · first | exact ⟨_, _, _, _, rfl, row_base (row_aside HP.out.own ha fun j hj hg => by have := (World.ownsRow.lt HP.out.own j hj).1; omega) (by omega), key _ _ HA.out, key _ _ HNN2.out, key _ _ HR.out⟩ | (rw [hN]; exact ⟨_, _, _, _, rfl, row_base (row_aside HP.out.own ha fun j hj hg => by have := (World.ownsRow.lt HP.out.own j hj).1; omega) (by omega), key _ _ HA.out, key _ _ HNN2.out, key _ _ HR.out⟩)
      · first | exact below_aside HP.out.bel ha (fun j hj => ⟨by have := HP.out.size; omega, by omega⟩) | (rw [hN]; exact below_aside HP.out.bel ha (fun j hj => ⟨by have := HP.out.size; omega, by omega⟩))
end Go.Proofs.YteegekpanadmkaaGreat

/-
  A message without what it says besides: Strip.
-/
namespace Go.Proofs.YteegekpanadmkaaGreat
open Go.RowKit Go.Shelf
set_option linter.unusedVariables false
set_option linter.unusedSimpArgs false
set_option maxRecDepth 100000

structure Bm (w wr : World) (N : Nat) (i f : Int) (q a n r : Value) : Prop where
  bel : Below N w wr
  x : Cel wr N [.int .i64 i, .int .i64 f, q, a, n, r]
  z : Cel wr (N + 1) [.int .i64 0, .int .i64 0, .slice none 0 0, .slice none 0 0, .slice none 0 0, .slice none 0 0]
  size : N + 2 ≤ wr.heap.size
section
variable {w wr w' : World} {N : Nat} {i f : Int} {q a n r : Value} {hi : Nat} {m : Ms}
theorem Bm.later (h : Bm w wr N i f q a n r) (hb : Below wr.heap.size wr w') : Bm w w' N i f q a n r :=
  ⟨below_aside h.bel (Aside.of_all hb : Aside (fun _ => False) wr w') (fun k hk => ⟨by have := h.size; omega, id⟩), h.x.below (by simp) hb, h.z.below (by simp) hb, Nat.le_trans h.size hb.size⟩
theorem bm_side (wr : World) (N o : Nat) (v : Value) : Aside (fun k => k = N) wr (wr.setCell ⟨N, o, none⟩ v) := Aside.setCell wr (p := ⟨N, o, none⟩) _ rfl
theorem Bm.put3 (h : Bm w wr N i f q a n r) (v : Value) : Bm w (wr.setCell ⟨N, 3, none⟩ v) N i f q v n r :=
  ⟨below_aside h.bel (bm_side _ _ _ _) (fun k hk => ⟨by have := h.size; omega, by omega⟩), h.x.set (o := 3) (by simp) v, h.z.other (a := ⟨N, 3, none⟩) (by show N ≠ N + 1; omega) _, Nat.le_trans h.size (bm_side wr N 3 v).size⟩
theorem Bm.put4 (h : Bm w wr N i f q a n r) (v : Value) : Bm w (wr.setCell ⟨N, 4, none⟩ v) N i f q a v r :=
  ⟨below_aside h.bel (bm_side _ _ _ _) (fun k hk => ⟨by have := h.size; omega, by omega⟩), h.x.set (o := 4) (by simp) v, h.z.other (a := ⟨N, 4, none⟩) (by show N ≠ N + 1; omega) _, Nat.le_trans h.size (bm_side wr N 4 v).size⟩
theorem Bm.put5 (h : Bm w wr N i f q a n r) (v : Value) : Bm w (wr.setCell ⟨N, 5, none⟩ v) N i f q a n v :=
  ⟨below_aside h.bel (bm_side _ _ _ _) (fun k hk => ⟨by have := h.size; omega, by omega⟩), h.x.set (o := 5) (by simp) v, h.z.other (a := ⟨N, 5, none⟩) (by show N ≠ N + 1; omega) _, Nat.le_trans h.size (bm_side wr N 5 v).size⟩
theorem Bm.fin (h : Bm w wr N i f q a n r) (v0 v1 v2 v3 v4 v5 : Value) : Below N w (put6 wr (N + 1) v0 v1 v2 v3 v4 v5) ∧ Cel (put6 wr (N + 1) v0 v1 v2 v3 v4 v5) (N + 1) [v0, v1, v2, v3, v4, v5] ∧ Aside (fun k => k = N + 1) wr (put6 wr (N + 1) v0 v1 v2 v3 v4 v5) :=
  ⟨below_aside h.bel (aside_put6 _ _ _ _ _ _ _ _) (fun k hk => ⟨by have := h.size; omega, by omega⟩), cel_put6 h.z _ _ _ _ _ _, aside_put6 _ _ _ _ _ _ _ _⟩
theorem bm_start (w : World) (i f : Int) (q a n r : Value) (hN : w.heap.size = N) :
    Bm w ((w.alloc (.cells #[.int .i64 i, .int .i64 f, q, a, n, r] 25)).alloc (.cells #[.int .i64 0, .int .i64 0, .slice none 0 0, .slice none 0 0, .slice none 0 0, .slice none 0 0] 25)) N i f q a n r := by
  subst hN
  have hz := cel_new6 (w.alloc (.cells #[.int .i64 i, .int .i64 f, q, a, n, r] 25)) (.int .i64 0) (.int .i64 0) (.slice none 0 0) (.slice none 0 0) (.slice none 0 0) (.slice none 0 0) 25
  rw [World.size_alloc] at hz
  exact ⟨((Below.refl _ _).alloc (Nat.le_refl _) _).alloc (by simp) _, (cel_new6 w (.int .i64 i) (.int .i64 f) q a n r 25).below (by simp) ((Below.refl _ _).alloc (Nat.le_refl _) _), hz, by simp⟩
end
theorem OwnM.aside {G : Nat → Prop} {w w' : World} {B : Nat} {v : Value} {m : Ms} (h : OwnM w B v m) (ha : Aside G w w') (hG : ∀ k, B ≤ k → ¬ G k) : OwnM w' B v m := by
  obtain ⟨q, a, n, r, rfl, h1, h2, h3, h4⟩ := h
  exact ⟨q, a, n, r, rfl, row_aside h1 ha fun k hk => hG k (World.ownsRow.lt h1 k hk).1, row_aside h2 ha fun k hk => hG k (World.ownsRow.lt h2 k hk).1, row_aside h3 ha fun k hk => hG k (World.ownsRow.lt h3 k hk).1, row_aside h4 ha fun k hk => hG k (World.ownsRow.lt h4 k hk).1⟩
def Mild (m : Ms) : Prop := (m.q.length + m.an.length + m.ns.length + m.ar.length ≤ 900000) ∧ (∀ x ∈ m.q, x.n.length ≤ 900000) ∧ (∀ x ∈ m.an, x.n.length ≤ 900000 ∧ x.d.length ≤ 900000) ∧
  (∀ x ∈ m.ns, x.n.length ≤ 900000 ∧ x.d.length ≤ 900000) ∧ (∀ x ∈ m.ar, x.n.length ≤ 900000 ∧ x.d.length ≤ 900000)
theorem noL_mem {l : List Rc} {x : Rc} (h : x ∈ noL l) : x ∈ l := (List.mem_filter.mp h).1
theorem noL_len (l : List Rc) : (noL l).length ≤ l.length := List.length_filter_le _ _
theorem Mild.st {m : Ms} (h : Mild m) : Mild (stM m) := by
  obtain ⟨h1, h2, h3, h4, h5⟩ := h
  have e1 := noL_len m.an
  have e2 := noL_len m.ns
  have e3 := noL_len m.ar
  exact ⟨by unfold stM; simp only; omega, h2, fun x hx => h3 x (noL_mem hx), fun x hx => h4 x (noL_mem hx), fun x hx => h5 x (noL_mem hx)⟩
theorem ownMild_any {w : World} {hi : Nat} {u : Value} {m : Ms} (h : Mg w hi u m) (h1 : hi ≤ w.heap.size) (hm : Mild m) :
    Calls Tryz.prog 54 #[u] w (fun e w' => ∃ v, e = .returned v ∧ OwnM w' w.heap.size v m ∧ Below w.heap.size w w') :=
  own_any h h1 hm.1 (fun x hx => Nat.le_trans (hm.2.1 x hx) (by decide)) (fun x hx => ⟨Nat.le_trans (hm.2.2.1 x hx).1 (by decide), Nat.le_trans (hm.2.2.1 x hx).2 (by decide)⟩) (fun x hx => ⟨Nat.le_trans (hm.2.2.2.1 x hx).1 (by decide), Nat.le_trans (hm.2.2.2.1 x hx).2 (by decide)⟩)
    (fun x hx => ⟨Nat.le_trans (hm.2.2.2.2 x hx).1 (by decide), Nat.le_trans (hm.2.2.2.2 x hx).2 (by decide)⟩)

set_option maxHeartbeats 4000000 in
theorem strip_any {w : World} {hi : Nat} {u : Value} {m : Ms} (h : Mg w hi u m) (h1 : hi ≤ w.heap.size) (hm : Mild m) :
    Calls Tryz.prog 25 #[u] w (fun e w' => ∃ v, e = .returned v ∧ OwnM w' w.heap.size v (stM m) ∧ Below w.heap.size w w') := by
  have hms := hm.st
  obtain ⟨i0, f0, l, lan, lns, lar⟩ := m
  obtain ⟨q, a, n, r, rfl, hq, h2, h3, h4⟩ := h
  unfold stM at hms ⊢
  have hl := hm.1
  simp only at hl hms hq h2 h3 h4 ⊢
  obtain ⟨N, hN⟩ : ∃ g, w.heap.size = g := ⟨_, rfl⟩
  have HCA := Lib.hid (fun wx (hb : Below N w wx) => others_any (Lst.below h2 hb (by omega)) (Nat.le_trans (by omega : hi ≤ N) (by have := hb.size; omega)) (by omega))
  have HCN := Lib.hid (fun wx (hb : Below N w wx) => others_any (Lst.below h3 hb (by omega)) (Nat.le_trans (by omega : hi ≤ N) (by have := hb.size; omega)) (by omega))
  have HCR := Lib.hid (fun wx (hb : Below N w wx) => others_any (Lst.below h4 hb (by omega)) (Nat.le_trans (by omega : hi ≤ N) (by have := hb.size; omega)) (by omega))
  have HQ := Lib.hid (fun wx (hb : Below N w wx) => Lst.below hq hb (by omega : hi ≤ N))
  have HMS := Lib.hid hms
  obtain ⟨xa, xc, rfl⟩ := Lst.shape hq
  obtain ⟨aa, ac, rfl⟩ := Lst.shape h2
  obtain ⟨na, nc, rfl⟩ := Lst.shape h3
  obtain ⟨ra, rc, rfl⟩ := Lst.shape h4
  obtain ⟨la, hla⟩ : ∃ i, lan.length = i := ⟨_, rfl⟩
  obtain ⟨ln, hln⟩ : ∃ i, lns.length = i := ⟨_, rfl⟩
  obtain ⟨lr, hlr⟩ : ∃ i, lar.length = i := ⟨_, rfl⟩
  rw [hla] at HCA
  rw [hln] at HCN
  rw [hlr] at HCR
  rw [hla, hln, hlr]
  have HHI := Lib.hid (show hi ≤ N by omega)
  have HL := Lib.hid hl
  have HLA := Lib.hid (show (noL lan).length ≤ 900000 by have := noL_len lan; omega)
  have HLNS := Lib.hid (show (noL lns).length ≤ 900000 by have := noL_len lns; omega)
  have HLR := Lib.hid (show (noL lar).length ≤ 900000 by have := noL_len lar; omega)
  have HP := Lib.hid ((bm_start w i0 f0 (.slice xa l.length xc) (.slice aa la ac) (.slice na ln nc) (.slice ra lr rc) hN).later (Below.refl _ _).drew)
  clear hq h2 h3 h4 h1 hm hl hms hla hln hlr
  go_enter Tryz.func25, Tryz.ntmps25
  go_wp2_with fail
  refine wp_region_tilk (S := (fun wx => wx.cell? ⟨N, 3, none⟩ = some (.slice aa la ac) ∧ wx.cell? ⟨N, 4, none⟩ = some (.slice na ln nc) ∧ wx.cell? ⟨N, 5, none⟩ = some (.slice ra lr rc))) [10, 11, 12, 13, 14] (by kernel_rfl) ⟨HP.out.x.c 3 (by simp), HP.out.x.c 4 (by simp), HP.out.x.c 5 (by simp)⟩ (fun hHeld => ?_)
  refine tilk_take (i := 0) (oi := { dst := some 3, op := Op.fieldAddr 25 (Operand.tmp 1) 3, type := 0, pos := "edns.go:51", after := #[], guard := none }) (v := ?_) rfl (by kernel_rfl) (by kernel_rfl) (by kernel_rfl) (fun _ _ _ h => h) (Or.inl ⟨by rfl, ?_⟩) (by assumption) ?_
  rotate_left 1
  · intro w hSw; (try dsimp only at hSw); go_simp; try (with_reducible rfl)
  try simp only [Act.put, List.setIfInBounds_toArray, List.set_cons_zero, List.set_cons_succ]
  refine tilk_take (i := 1) (oi := { dst := some 4, op := Op.load 23 (Operand.tmp 3), type := 23, pos := "edns.go:51", after := #[{ on := 0, ground := Ground.data }], guard := none }) (v := ?_) rfl (by kernel_rfl) (by kernel_rfl) (by kernel_rfl) (fun _ _ _ h => h) (Or.inl ⟨by rfl, ?_⟩) (by assumption) ?_
  rotate_left 1
  · intro w hSw; (try dsimp only at hSw); go_simp; try (with_reducible rfl)
  try simp only [Act.put, List.setIfInBounds_toArray, List.set_cons_zero, List.set_cons_succ]
  refine tilk_take (i := 3) (oi := { dst := some 6, op := Op.fieldAddr 25 (Operand.tmp 1) 4, type := 0, pos := "edns.go:51", after := #[], guard := none }) (v := ?_) rfl (by kernel_rfl) (by kernel_rfl) (by kernel_rfl) (fun _ _ _ h => h) (Or.inl ⟨by rfl, ?_⟩) (by assumption) ?_
  rotate_left 1
  · intro w hSw; (try dsimp only at hSw); go_simp; try (with_reducible rfl)
  try simp only [Act.put, List.setIfInBounds_toArray, List.set_cons_zero, List.set_cons_succ]
  refine tilk_take (i := 4) (oi := { dst := some 7, op := Op.load 23 (Operand.tmp 6), type := 23, pos := "edns.go:51", after := #[{ on := 3, ground := Ground.data }], guard := none }) (v := ?_) rfl (by kernel_rfl) (by kernel_rfl) (by kernel_rfl) (fun _ _ _ h => h) (Or.inl ⟨by rfl, ?_⟩) (by assumption) ?_
  rotate_left 1
  · intro w hSw; (try dsimp only at hSw); go_simp; try (with_reducible rfl)
  try simp only [Act.put, List.setIfInBounds_toArray, List.set_cons_zero, List.set_cons_succ]
  refine tilk_take (i := 6) (oi := { dst := some 9, op := Op.fieldAddr 25 (Operand.tmp 1) 5, type := 0, pos := "edns.go:51", after := #[], guard := none }) (v := ?_) rfl (by kernel_rfl) (by kernel_rfl) (by kernel_rfl) (fun _ _ _ h => h) (Or.inl ⟨by rfl, ?_⟩) (by assumption) ?_
  rotate_left 1
  · intro w hSw; (try dsimp only at hSw); go_simp; try (with_reducible rfl)
  try simp only [Act.put, List.setIfInBounds_toArray, List.set_cons_zero, List.set_cons_succ]
  refine tilk_take (i := 7) (oi := { dst := some 10, op := Op.load 23 (Operand.tmp 9), type := 23, pos := "edns.go:51", after := #[{ on := 6, ground := Ground.data }], guard := none }) (v := ?_) rfl (by kernel_rfl) (by kernel_rfl) (by kernel_rfl) (fun _ _ _ h => h) (Or.inl ⟨by rfl, ?_⟩) (by assumption) ?_
  rotate_left 1
  · intro w hSw; (try dsimp only at hSw); go_simp; try (with_reducible rfl)
  try simp only [Act.put, List.setIfInBounds_toArray, List.set_cons_zero, List.set_cons_succ]
  refine tilk_ready (rs := [2]) (by kernel_rfl) (by simp) ?_
  refine TilkAll.cons (o := { dst := some 5, op := Op.call { callee := Callee.value (Operand.func 53), args := #[Operand.tmp 4], argTypes := #[23] }, type := 23, pos := "edns.go:51", after := #[{ on := 1, ground := Ground.data }], guard := none }) rfl (fun K hK => ?_) (TilkAll.nil)
  go_simp
  refine (HCA.out _ HP.out.bel).mono ?_; rintro e w1 ⟨va, rfl, ho, hb⟩
  obtain ⟨ava, cva, rfl⟩ := ho.shape
  have HA := Lib.hid (show Kp w1 (N + 2) _ _ from ho.base HP.out.size)
  replace HP := Lib.hid (HP.out.later hb)
  clear ho hb
  try go_wp2_with fail
  refine hK.out _ _ ⟨HP.out.x.c 3 (by simp), HP.out.x.c 4 (by simp), HP.out.x.c 5 (by simp)⟩ (fun hHeld => ?_)
  clear hK K
  try simp only [Act.put, List.setIfInBounds_toArray, List.set_cons_zero, List.set_cons_succ]
  refine tilk_take (i := 9) (oi := { dst := some 12, op := Op.fieldAddr 25 (Operand.tmp 1) 3, type := 0, pos := "edns.go:51", after := #[{ on := 0, ground := Ground.phase }, { on := 1, ground := Ground.phase }, { on := 2, ground := Ground.phase }, { on := 3, ground := Ground.phase }, { on := 4, ground := Ground.phase }, { on := 5, ground := Ground.textOnly Departure.lateStoresUnsure }, { on := 6, ground := Ground.phase }, { on := 7, ground := Ground.phase }, { on := 8, ground := Ground.textOnly Departure.lateStoresUnsure }], guard := none }) (v := ?_) rfl (by kernel_rfl) (by kernel_rfl) (by kernel_rfl) (fun _ _ _ h => h) (Or.inl ⟨by rfl, ?_⟩) (by assumption) ?_
  rotate_left 1
  · intro w hSw; (try dsimp only at hSw); go_simp; try (with_reducible rfl)
  try simp only [Act.put, List.setIfInBounds_toArray, List.set_cons_zero, List.set_cons_succ]
  refine tilk_ready (rs := [5]) (by kernel_rfl) (by simp) ?_
  refine TilkAll.cons (o := { dst := some 8, op := Op.call { callee := Callee.value (Operand.func 53), args := #[Operand.tmp 7], argTypes := #[23] }, type := 23, pos := "edns.go:51", after := #[{ on := 4, ground := Ground.data }, { on := 2, ground := Ground.chain }], guard := none }) rfl (fun K hK => ?_) (TilkAll.nil)
  go_simp
  refine (HCN.out _ HP.out.bel).mono ?_; rintro e w2 ⟨vn, rfl, ho, hb⟩
  obtain ⟨avn, cvn, rfl⟩ := ho.shape
  have HNN2 := Lib.hid (show Kp w2 (N + 2) _ _ from ho.base HP.out.size)
  replace HP := Lib.hid (HP.out.later hb)
  replace HA := Lib.hid (HA.out.below hb)
  clear ho hb
  try go_wp2_with fail
  refine hK.out _ _ ⟨HP.out.x.c 3 (by simp), HP.out.x.c 4 (by simp), HP.out.x.c 5 (by simp)⟩ (fun hHeld => ?_)
  clear hK K
  try simp only [Act.put, List.setIfInBounds_toArray, List.set_cons_zero, List.set_cons_succ]
  refine tilk_ready (rs := [8]) (by kernel_rfl) (by simp) ?_
  refine TilkAll.cons (o := { dst := some 11, op := Op.call { callee := Callee.value (Operand.func 53), args := #[Operand.tmp 10], argTypes := #[23] }, type := 23, pos := "edns.go:51", after := #[{ on := 7, ground := Ground.data }, { on := 5, ground := Ground.chain }], guard := none }) rfl (fun K hK => ?_) (TilkAll.nil)
  go_simp
  refine (HCR.out _ HP.out.bel).mono ?_; rintro e w3 ⟨vr, rfl, ho, hb⟩
  obtain ⟨avr, cvr, rfl⟩ := ho.shape
  have HR := Lib.hid (show Kp w3 (N + 2) _ _ from ho.base HP.out.size)
  replace HP := Lib.hid (HP.out.later hb)
  replace HA := Lib.hid (HA.out.below hb)
  replace HNN2 := Lib.hid (HNN2.out.below hb)
  clear ho hb
  try go_wp2_with fail
  refine hK.out _ _ ⟨HP.out.x.c 3 (by simp), HP.out.x.c 4 (by simp), HP.out.x.c 5 (by simp)⟩ (fun hHeld => ?_)
  clear hK K
  try simp only [Act.put, List.setIfInBounds_toArray, List.set_cons_zero, List.set_cons_succ]
  refine tilk_ready (rs := [10]) (by kernel_rfl) (by simp) ?_
  refine TilkAll.last (i := 10) (o := { dst := none, op := Op.store 23 (Operand.tmp 12) (Operand.tmp 5), type := 0, pos := "edns.go:51", after := #[{ on := 9, ground := Ground.data }, { on := 2, ground := Ground.data }, { on := 8, ground := Ground.chain }, { on := 0, ground := Ground.phase }, { on := 1, ground := Ground.phase }, { on := 2, ground := Ground.phase }, { on := 3, ground := Ground.phase }, { on := 4, ground := Ground.phase }, { on := 5, ground := Ground.textOnly Departure.lateStoresUnsure }, { on := 6, ground := Ground.phase }, { on := 7, ground := Ground.phase }, { on := 8, ground := Ground.textOnly Departure.lateStoresUnsure }], guard := none }) rfl (fun K hK => ?_) (TilkAll.nil)
  obtain ⟨r0, r1, r2, r3, r4, r5⟩ := HP.out.x.six
  have fz := HP.out.x.fz
  go_simp
  clear r0 r1 r2 r3 r4 r5 fz
  replace HP := Lib.hid (HP.out.put3 (.slice ava (noL lan).length cva))
  replace HA := Lib.hid (HA.out.aside (bm_side _ N 3 (.slice ava (noL lan).length cva)) (fun k hk => by omega))
  replace HNN2 := Lib.hid (HNN2.out.aside (bm_side _ N 3 (.slice ava (noL lan).length cva)) (fun k hk => by omega))
  replace HR := Lib.hid (HR.out.aside (bm_side _ N 3 (.slice ava (noL lan).length cva)) (fun k hk => by omega))
  refine hK.out _ _ trivial (fun hHeld => ?_)
  clear hK K
  try simp only [Act.put, List.setIfInBounds_toArray, List.set_cons_zero, List.set_cons_succ]
  refine tilk_ready (rs := [11]) (by kernel_rfl) (by simp) ?_
  refine TilkAll.last (i := 11) (o := { dst := some 13, op := Op.fieldAddr 25 (Operand.tmp 1) 4, type := 0, pos := "edns.go:51", after := #[{ on := 0, ground := Ground.phase }, { on := 1, ground := Ground.phase }, { on := 2, ground := Ground.phase }, { on := 3, ground := Ground.phase }, { on := 4, ground := Ground.phase }, { on := 5, ground := Ground.phase }, { on := 6, ground := Ground.phase }, { on := 7, ground := Ground.phase }, { on := 8, ground := Ground.textOnly Departure.lateStoresUnsure }, { on := 9, ground := Ground.phase }, { on := 10, ground := Ground.phase }], guard := none }) rfl (fun K hK => ?_) (TilkAll.nil)
  go_simp
  refine hK.out _ _ trivial (fun hHeld => ?_)
  clear hK K
  try simp only [Act.put, List.setIfInBounds_toArray, List.set_cons_zero, List.set_cons_succ]
  refine tilk_ready (rs := [12]) (by kernel_rfl) (by simp) ?_
  refine TilkAll.last (i := 12) (o := { dst := none, op := Op.store 23 (Operand.tmp 13) (Operand.tmp 8), type := 0, pos := "edns.go:51", after := #[{ on := 11, ground := Ground.data }, { on := 5, ground := Ground.data }, { on := 10, ground := Ground.chain }, { on := 0, ground := Ground.phase }, { on := 1, ground := Ground.phase }, { on := 2, ground := Ground.phase }, { on := 3, ground := Ground.phase }, { on := 4, ground := Ground.phase }, { on := 5, ground := Ground.phase }, { on := 6, ground := Ground.phase }, { on := 7, ground := Ground.phase }, { on := 8, ground := Ground.textOnly Departure.lateStoresUnsure }, { on := 9, ground := Ground.phase }, { on := 10, ground := Ground.phase }], guard := none }) rfl (fun K hK => ?_) (TilkAll.nil)
  obtain ⟨r0, r1, r2, r3, r4, r5⟩ := HP.out.x.six
  have fz := HP.out.x.fz
  go_simp
  clear r0 r1 r2 r3 r4 r5 fz
  replace HP := Lib.hid (HP.out.put4 (.slice avn (noL lns).length cvn))
  replace HA := Lib.hid (HA.out.aside (bm_side _ N 4 (.slice avn (noL lns).length cvn)) (fun k hk => by omega))
  replace HNN2 := Lib.hid (HNN2.out.aside (bm_side _ N 4 (.slice avn (noL lns).length cvn)) (fun k hk => by omega))
  replace HR := Lib.hid (HR.out.aside (bm_side _ N 4 (.slice avn (noL lns).length cvn)) (fun k hk => by omega))
  refine hK.out _ _ trivial (fun hHeld => ?_)
  clear hK K
  try simp only [Act.put, List.setIfInBounds_toArray, List.set_cons_zero, List.set_cons_succ]
  refine tilk_ready (rs := [13]) (by kernel_rfl) (by simp) ?_
  refine TilkAll.last (i := 13) (o := { dst := some 14, op := Op.fieldAddr 25 (Operand.tmp 1) 5, type := 0, pos := "edns.go:51", after := #[{ on := 0, ground := Ground.phase }, { on := 1, ground := Ground.phase }, { on := 2, ground := Ground.phase }, { on := 3, ground := Ground.phase }, { on := 4, ground := Ground.phase }, { on := 5, ground := Ground.phase }, { on := 6, ground := Ground.phase }, { on := 7, ground := Ground.phase }, { on := 8, ground := Ground.phase }, { on := 9, ground := Ground.phase }, { on := 10, ground := Ground.phase }, { on := 11, ground := Ground.phase }, { on := 12, ground := Ground.phase }], guard := none }) rfl (fun K hK => ?_) (TilkAll.nil)
  go_simp
  refine hK.out _ _ trivial (fun hHeld => ?_)
  clear hK K
  try simp only [Act.put, List.setIfInBounds_toArray, List.set_cons_zero, List.set_cons_succ]
  refine tilk_ready (rs := [14]) (by kernel_rfl) (by simp) ?_
  refine TilkAll.last (i := 14) (o := { dst := none, op := Op.store 23 (Operand.tmp 14) (Operand.tmp 11), type := 0, pos := "edns.go:51", after := #[{ on := 13, ground := Ground.data }, { on := 8, ground := Ground.data }, { on := 12, ground := Ground.chain }, { on := 0, ground := Ground.phase }, { on := 1, ground := Ground.phase }, { on := 2, ground := Ground.phase }, { on := 3, ground := Ground.phase }, { on := 4, ground := Ground.phase }, { on := 5, ground := Ground.phase }, { on := 6, ground := Ground.phase }, { on := 7, ground := Ground.phase }, { on := 8, ground := Ground.phase }, { on := 9, ground := Ground.phase }, { on := 10, ground := Ground.phase }, { on := 11, ground := Ground.phase }, { on := 12, ground := Ground.phase }], guard := none }) rfl (fun K hK => ?_) (TilkAll.nil)
  obtain ⟨r0, r1, r2, r3, r4, r5⟩ := HP.out.x.six
  have fz := HP.out.x.fz
  go_simp
  clear r0 r1 r2 r3 r4 r5 fz
  replace HP := Lib.hid (HP.out.put5 (.slice avr (noL lar).length cvr))
  replace HA := Lib.hid (HA.out.aside (bm_side _ N 5 (.slice avr (noL lar).length cvr)) (fun k hk => by omega))
  replace HNN2 := Lib.hid (HNN2.out.aside (bm_side _ N 5 (.slice avr (noL lar).length cvr)) (fun k hk => by omega))
  replace HR := Lib.hid (HR.out.aside (bm_side _ N 5 (.slice avr (noL lar).length cvr)) (fun k hk => by omega))
  refine hK.out _ _ trivial (fun hHeld => ?_)
  clear hK K
  try simp only [Act.put, List.setIfInBounds_toArray, List.set_cons_zero, List.set_cons_succ]
  refine tilk_done (by kernel_rfl) ?_ _
  clear hHeld
  obtain ⟨WE, hWE⟩ : ∃ X, ((w3.setCell ⟨N, 3, none⟩ (.slice ava (noL lan).length cva)).setCell ⟨N, 4, none⟩ (.slice avn (noL lns).length cvn)).setCell ⟨N, 5, none⟩ (.slice avr (noL lar).length cvr) = X := ⟨_, rfl⟩
  rw [hWE] at HP HA HNN2 HR ⊢
  clear hWE
  have hse := HP.out.size
  obtain ⟨r0, r1, r2, r3, r4, r5⟩ := HP.out.x.six
  obtain ⟨z0, z1, z2, z3, z4, z5⟩ := HP.out.z.six
  have fy := HP.out.z.fz
  have hmg : Mg WE WE.heap.size (.agg #[.int .i64 i0, .int .i64 f0, .slice xa l.length xc, .slice ava (noL lan).length cva, .slice avn (noL lns).length cvn, .slice avr (noL lar).length cvr]) ⟨i0, f0, l, noL lan, noL lns, noL lar⟩ :=
    ⟨_, _, _, _, rfl, (HQ.out _ HP.out.bel).wide (by have := HP.out.size; have := HHI.out; omega), HA.out.sr (by have := HLA.out; omega), HNN2.out.sr (by have := HLNS.out; omega), HR.out.sr (by have := HLR.out; omega)⟩
  have HOW := Lib.hid (ownMild_any hmg (Nat.le_refl _) HMS.out)
  clear hmg HA HNN2 HR HCA HCN HCR
  go_wp2_with fail
  refine HOW.out.mono ?_; rintro e w7 ⟨v, rfl, ho, hb⟩
  replace HP := Lib.hid (HP.out.later hb)
  have HO := Lib.hid ho
  have HSE := Lib.hid (show N + 2 ≤ WE.heap.size by assumption)
  obtain ⟨o1, o2, o3, o4, rfl, j1, j2, j3, j4⟩ := ho
  obtain ⟨b1, e1, rfl⟩ := row_shape j1
  obtain ⟨b2, e2, rfl⟩ := row_shape j2
  obtain ⟨b3, e3, rfl⟩ := row_shape j3
  obtain ⟨b4, e4, rfl⟩ := row_shape j4
  clear r0 r1 r2 r3 r4 r5 z0 z1 z2 z3 z4 z5 fy hb j1 j2 j3 j4
  obtain ⟨z0, z1, z2, z3, z4, z5⟩ := HP.out.z.six
  have fy := HP.out.z.fz
  go_wp2_with fail
  clear z0 z1 z2 z3 z4 z5 fy
  have hk := HP.out.fin (.int .i64 i0) (.int .i64 f0) (.slice b1 l.length e1) (.slice b2 (noL lan).length e2) (.slice b3 (noL lns).length e3) (.slice b4 (noL lar).length e4)
  obtain ⟨m0, m1, m2, m3, m4, m5⟩ := hk.2.1.six
  have HF := Lib.hid (And.intro hk.1 (HO.out.aside hk.2.2 (fun k hk => by have := HSE.out; omega)))
  unfold put6 at m0 m1 m2 m3 m4 m5 HF
  clear hk
  refine bodyPost_ret (v := .agg #[.int .i64 i0, .int .i64 f0, .slice b1 l.length e1, .slice b2 (noL lan).length e2, .slice b3 (noL lns).length e3, .slice b4 (noL lar).length e4]) (by simp [results, Tryz.results25, go_sem, m0, m1, m2, m3, m4, m5]) rfl ⟨_, rfl, ?_, ?_⟩
  · first | exact HF.out.2.base (by have := HSE.out; omega) | (rw [hN]; exact HF.out.2.base (by have := HSE.out; omega))
  · first | exact HF.out.1 | (rw [hN]; exact HF.out.1)
end Go.Proofs.YteegekpanadmkaaGreat

/-
  slices.Concat of rows of records; the least of them.
-/
namespace Go.Proofs.YteegekpanadmkaaGreat
open Go.RowKit Go.Shelf
set_option linter.unusedVariables false
set_option linter.unusedSimpArgs false
set_option maxRecDepth 100000

theorem growR_any (w : World) (n : Nat) (hn : n ≤ 1000000) :
    Calls Tryz.prog 70 #[.slice none 0 0, .int .i64 n] w fun e w' => ∃ a c, e = .returned (.slice a 0 c) ∧ OwnRc w' w.heap.size (.slice a 0 c) [] ∧ Below w.heap.size w w' := by
  by_cases h0 : n = 0
  · subst h0
    go_enter Tryz.func70, Tryz.ntmps70
    go_wp2_with fail
    go_ret
    exact ⟨none, 0, rfl, ⟨rfl, .inl ⟨rfl, rfl⟩⟩, Below.refl _ _⟩
  · have t1 : ¬ ((n : Int) < 0) := by omega
    have t2 : (0 : Int) < n := by omega
    have e1 : wrap64 ((n : Int) - 0) = n := by rw [IntWalk.wrap64_in _ ⟨by omega, by omega⟩]; omega
    obtain ⟨i, hi, hz0, hz1, hz2⟩ := info_parts info_rc
    have hr := Lib.run_append_nil_zeros (P := Tryz.prog) w 23 3 23 52 i _ .i64 .i64 Tryz.underlying23 Tryz.underlying3 hi hz0 n (by omega) (by omega) (by omega) (by rw [hz2]; omega)
    have hge := grownCap_ge w n 0 52
    obtain ⟨cap, hcap⟩ : ∃ cap, grownCap w n 0 52 = cap := ⟨_, rfl⟩
    have hml := grownCap_le_maxLen w n 0 52 (by unfold maxLen; omega)
    rw [hcap] at hr hge hml
    obtain ⟨Z, hZ⟩ : ∃ Z, (Builtin.zeroCells (Value.agg #[.string ⟨#[]⟩, .int .i64 0, .int .i64 0, .int .i64 0, .string ⟨#[]⟩]).cells n ++ Builtin.zeroCells (Value.agg #[.string ⟨#[]⟩, .int .i64 0, .int .i64 0, .int .i64 0, .string ⟨#[]⟩]).cells (cap - n)) = Z := ⟨_, rfl⟩
    have hZs : Z.size = cap * 5 := by
      rw [← hZ, Array.size_append, size_zeroCells, size_zeroCells, ← Nat.add_mul, show n + (cap - n) = cap by omega]
      rfl
    rw [hZ] at hr
    have HR := Lib.hid hr
    have HO : Hid (OwnRc (w.drew.alloc (.cells Z 52)) w.heap.size (.slice (some ⟨w.heap.size, 0, none⟩) 0 cap) []) :=
      ⟨rfl, .inr ⟨w.heap.size, cap, Z, rfl, Nat.le_refl _, heap_alloc_new w.drew _, Nat.zero_le _, hml, hZs, rfl⟩⟩
    clear hr hcap hi hz0 hz1 hz2 hZ hZs
    go_enter Tryz.func70, Tryz.ntmps70
    go_wp2_with (at_builtin; refine wpList_append_run (.tmp 20) (.tmp 21) 23 3 rfl rfl rfl rfl HR.out ?_)
    go_ret
    exact ⟨_, _, rfl, HO.out, (Below.refl _ w).drew.alloc (Nat.le_refl _) _⟩

theorem flatR_take {ls : List (List Rc)} {k : Nat} (h : k < ls.length) : (ls.take (k + 1)).flatten = (ls.take k).flatten ++ ls[k] := by
  rw [List.take_succ_eq_append_getElem h, List.flatten_append]
  simp
theorem flatR_le (ls : List (List Rc)) (k : Nat) : (ls.take k).flatten.length ≤ ls.flatten.length := by
  conv => rhs; rw [← List.take_append_drop k ls, List.flatten_append, List.length_append]
  omega

set_option maxHeartbeats 4000000 in
theorem concatR_any {w : World} {g hi n c0 : Nat} {ls : List (List Rc)} (hn : ls.length = n) (hn6 : n ≤ 1000) (hg : g < w.heap.size) (hhi : hi ≤ w.heap.size) (hb : ls.flatten.length ≤ 900000)
    (hc : ∀ j (h : j < ls.length), ∃ a c, w.cell? ⟨g, j, none⟩ = some (.slice a ls[j].length c) ∧ SR w hi (.slice a ls[j].length c) ls[j]) :
    Calls Tryz.prog 39 #[.slice (some ⟨g, 0, none⟩) n c0] w fun e w' => ∃ v, e = .returned v ∧ OwnRc w' w.heap.size v ls.flatten ∧ Below w.heap.size w w' := by
  have HC := Lib.hid hc
  have HN := Lib.hid hn
  obtain ⟨N, hN⟩ : ∃ N, ls.flatten.length = N := ⟨_, rfl⟩
  have HNN := Lib.hid hN
  rw [hN] at hb
  have HG := Lib.hid (fun wx => growR_any wx N (by omega))
  clear hc hN hn
  go_enter Tryz.func39, Tryz.ntmps39
  go_wp2_with fail
  go_loopg [3, 11] n (fun k v3 v11 wr => ∃ j z : Nat, j + k = n ∧ v11 = .int .i64 j ∧ v3 = .int .i64 z ∧ z ≤ N ∧ Hid ((ls.take j).flatten.length = z) ∧ w = wr)
  case atStart => exact ⟨0, 0, by omega, rfl, rfl, by omega, rfl, rfl⟩
  case round =>
    obtain ⟨j, z, hj, rfl, rfl, hz, HZ, rfl⟩ := hrel
    by_cases hlt : j < n
    · have hlt2 : j < ls.length := by have := HN.out; omega
      obtain ⟨a, c, c1, _⟩ := HC.out j hlt2
      have HZ2 := Lib.hid (show (ls.take (j + 1)).flatten.length = z + ls[j].length by rw [flatR_take hlt2, List.length_append, HZ.out])
      have hle : z + ls[j].length ≤ N := by rw [← HZ2.out, ← HNN.out]; exact flatR_le ls (j + 1)
      obtain ⟨m, hm⟩ : ∃ m, ls[j].length = m := ⟨_, rfl⟩
      rw [hm] at c1 hle HZ2
      clear hm
      go_wp2_with fail
      go_roundg (n - (j + 1))
      case measure => omega
      case rel => exact ⟨j + 1, z + m, by omega, by go_num, by go_num, hle, HZ2, rfl⟩
    · have hje : j = n := by omega
      subst hje
      have hzN : z = N := by rw [← HZ.out, ← HNN.out, List.take_of_length_le (by have := HN.out; omega)]
      subst hzN
      clear HZ
      go_wp2_with fail
      refine (HG.out _).mono ?_; rintro e w1 ⟨a6, c6, rfl, ho, hb1⟩
      have HO := Lib.hid ho
      have HB := Lib.hid hb1
      clear ho hb1
      go_wp2_with fail
      go_loopg [6, 27] j (fun k v6 v27 wr => ∃ (i : Nat) (acc : List Rc) (a : Option Addr) (c : Nat), i + k = j ∧ v27 = .int .i64 i ∧ v6 = .slice a acc.length c ∧ Hid ((ls.take i).flatten = acc) ∧ Hid (OwnRc wr w.heap.size (.slice a acc.length c) acc) ∧ Hid (Below w.heap.size w wr))
      case atStart => exact ⟨0, [], a6, c6, by omega, rfl, rfl, rfl, HO, HB⟩
      case round =>
        clear HO HB
        obtain ⟨i, acc, a, c, hi2, rfl, rfl, HA, HO, HB⟩ := hrel
        by_cases hlt : i < j
        · have hlt2 : i < ls.length := by have := HN.out; omega
          obtain ⟨ax, cx, c1, hs⟩ := HC.out i hlt2
          have hs2 := Lst.below hs HB.out hhi
          have c2 := HB.out.cell (p := ⟨g, i, none⟩) hg
          rw [c1] at c2
          have HA2 := Lib.hid (show (ls.take (i + 1)).flatten = acc ++ ls[i] by rw [flatR_take hlt2, HA.out])
          have hle : acc.length + ls[i].length ≤ 900000 := by
            have h1 := flatR_le ls (i + 1)
            rw [HA2.out, List.length_append, HNN.out] at h1
            omega
          obtain ⟨a', c', w', hr, ho, ha, _⟩ := run_appRc HO.out hs2 (by omega) HB.out.size
          have hlt3 := World.ownsRow.lt HO.out
          have HB2 := Lib.hid (below_aside HB.out ha fun b hb => ⟨Nat.lt_of_lt_of_le hb HB.out.size, fun hg2 => by have := (hlt3 b hg2).1; omega⟩)
          have hL : (acc ++ ls[i]).length = acc.length + ls[i].length := List.length_append
          obtain ⟨x, hx⟩ : ∃ x, ls[i] = x := ⟨_, rfl⟩
          rw [hx] at hr ho c2 hs2 HA2 hL
          obtain ⟨m, hm⟩ : ∃ m, x.length = m := ⟨_, rfl⟩
          obtain ⟨y, hy⟩ : ∃ y, acc.length = y := ⟨_, rfl⟩
          rw [hm] at c2
          rw [hm, hy] at hr ho
          have HLN := Lib.hid hL
          have HR := Lib.hid hr
          have HOn := Lib.hid ho
          have HM := Lib.hid hm
          have HY := Lib.hid hy
          rw [hy]
          clear hr ho ha hs hs2 hx hL hm hy hle c1
          go_wp2_with (at_builtin; refine wpList_append_run (.tmp 31) (.tmp 32) 23 23 rfl rfl rfl rfl HR.out ?_)
          go_roundg (j - (i + 1))
          case measure => omega
          case rel => exact ⟨i + 1, acc ++ x, a', c', by omega, by go_num, by rw [HLN.out, HM.out, HY.out], HA2, by rw [HLN.out, HM.out, HY.out]; exact HOn, HB2⟩
        · have hie : i = j := by omega
          subst hie
          have hE : acc = ls.flatten := by rw [← HA.out, List.take_of_length_le (by have := HN.out; omega)]
          have HE := Lib.hid hE
          clear hE
          go_wp2_with fail
          go_ret
          exact ⟨_, rfl, HE.out ▸ HO.out, HB.out⟩
end Go.Proofs.YteegekpanadmkaaGreat

/-
  The least of records; trim.Least.
-/
namespace Go.Proofs.YteegekpanadmkaaGreat
open Go.RowKit Go.Shelf
set_option linter.unusedVariables false
set_option linter.unusedSimpArgs false
set_option maxRecDepth 100000

set_option maxHeartbeats 400000 in
theorem lessL_any (w : World) (x y : Rc) : Calls Tryz.prog 41 #[.agg #[.string (bs x.n), .int .i64 x.t, .int .i64 x.c, .int .i64 x.l, .string (bs x.d)], .agg #[.string (bs y.n), .int .i64 y.t, .int .i64 y.c, .int .i64 y.l, .string (bs y.d)]] w
    fun e w' => e = .returned (.int .i64 (cmpV x.l y.l)) ∧ Below w.heap.size w w' := by
  have hc := fun wx => cmp_any wx x.l y.l
  obtain ⟨r, hr⟩ : ∃ r, cmpV x.l y.l = r := ⟨_, rfl⟩
  rw [hr] at hc ⊢
  clear hr
  go_enter Tryz.func41, Tryz.ntmps41
  go_wp2_with (go_at_call 42; refine (hc _).mono ?_; rintro e w1 ⟨rfl, rfl⟩)
  go_ret
  exact ⟨rfl, ((Below.refl _ _).alloc (Nat.le_refl _) _).alloc (by simp) _⟩

def minR (x : Rc) (l : List Rc) : Rc := l.foldl (fun y z => if z.l < y.l then z else y) x
theorem minR_take {x : Rc} {l : List Rc} {k : Nat} (h : k < l.length) : minR x (l.take (k + 1)) = if l[k].l < (minR x (l.take k)).l then l[k] else minR x (l.take k) := by
  unfold minR
  rw [List.take_succ_eq_append_getElem h, List.foldl_append]
  rfl
theorem minR_mem (x : Rc) (l : List Rc) : minR x l = x ∨ minR x l ∈ l := by
  induction l generalizing x with
  | nil => exact .inl rfl
  | cons z t ih =>
    have : minR x (z :: t) = minR (if z.l < x.l then z else x) t := rfl
    rw [this]
    rcases ih (if z.l < x.l then z else x) with h | h
    · rw [h]
      split
      · exact .inr (List.mem_cons_self ..)
      · exact .inl rfl
    · exact .inr (List.mem_cons_of_mem _ h)
theorem minR_le (x : Rc) (l : List Rc) : (minR x l).l ≤ x.l ∧ ∀ z ∈ l, (minR x l).l ≤ z.l := by
  induction l generalizing x with
  | nil => exact ⟨Int.le_refl _, by simp⟩
  | cons z t ih =>
    have e : minR x (z :: t) = minR (if z.l < x.l then z else x) t := rfl
    rw [e]
    obtain ⟨h1, h2⟩ := ih (if z.l < x.l then z else x)
    have h3 : (if z.l < x.l then z else x).l ≤ x.l ∧ (if z.l < x.l then z else x).l ≤ z.l := by split <;> omega
    exact ⟨by omega, fun y hy => by
      rcases List.mem_cons.mp hy with rfl | hy
      · omega
      · exact h2 y hy⟩

def lessL : Value := .func (.func 41) #[] #[]

structure Mq (w wr : World) (N : Nat) (y : Rc) : Prop where
  bel : Below N w wr
  z : Cel wr N [.string ⟨#[]⟩, .int .i64 0, .int .i64 0, .int .i64 0, .string ⟨#[]⟩]
  x : Cel wr (N + 1) [.string (bs y.n), .int .i64 y.t, .int .i64 y.c, .int .i64 y.l, .string (bs y.d)]
  size : N + 2 ≤ wr.heap.size
section
variable {w wr w' : World} {N : Nat} {y : Rc}
theorem Mq.later (h : Mq w wr N y) (hb : Below wr.heap.size wr w') : Mq w w' N y :=
  ⟨h.bel.trans (hb.mono (by have := h.size; omega)), h.z.below (by simp) hb, h.x.below (by simp) hb, Nat.le_trans h.size hb.size⟩
theorem Mq.put (h : Mq w wr N y) (z : Rc) : Mq w (put5 wr (N + 1) (.string (bs z.n)) (.int .i64 z.t) (.int .i64 z.c) (.int .i64 z.l) (.string (bs z.d))) N z :=
  ⟨below_aside h.bel (aside_put5 wr (N + 1) _ _ _ _ _) (fun k hk => ⟨by have := h.size; omega, by omega⟩), h.z.aside (by simp) (aside_put5 wr (N + 1) _ _ _ _ _) (by omega), cel_put5 h.x _ _ _ _ _, Nat.le_trans h.size (aside_put5 wr (N + 1) _ _ _ _ _).size⟩
end

set_option maxHeartbeats 4000000 in
theorem minF_any {w : World} {hi : Nat} {a : Option Addr} {c : Nat} {l : List Rc} {x : Rc} (h : SR w hi (.slice a l.length c) l) (h1 : hi ≤ w.heap.size) (hx : l[0]? = some x) (hl : l.length ≤ 900000) :
    Calls Tryz.prog 40 #[.slice a l.length c, lessL] w (fun e w' => e = .returned (.agg #[.string (bs (minR x l).n), .int .i64 (minR x l).t, .int .i64 (minR x l).c, .int .i64 (minR x l).l, .string (bs (minR x l).d)]) ∧ Below w.heap.size w w') := by
  obtain ⟨h0, hx⟩ := List.getElem?_eq_some_iff.mp hx
  obtain ⟨N, hN⟩ : ∃ N, w.heap.size = N := ⟨_, rfl⟩
  have HX := Lib.hid h
  have HHI := Lib.hid (show hi ≤ N by omega)
  obtain ⟨b, off, c2, he, hb, hc⟩ := h.at_ 0 h0
  injection he with he hn3 hc3
  clear hn3 hc3
  subst he
  rw [hx] at hc
  obtain ⟨c0, c1, c3, c4, c5⟩ := hc
  have hbN : b < N := by omega
  have t1 : ¬ ((l.length : Int) < 1) := by omega
  have t2 : (0 : Int) < l.length := by omega
  simp only [Nat.zero_mul, Nat.add_zero] at c0 c1 c3 c4 c5
  have HC := Lib.hid (fun wx y z => lessL_any wx y z)
  clear h h1
  unfold lessL
  go_enter Tryz.func40, Tryz.ntmps40
  go_wp2_with fail
  clear c0 c1 c3 c4 c5
  obtain ⟨W2, hW2⟩ : ∃ X, (w.alloc (.cells #[.string ⟨#[]⟩, .int .i64 0, .int .i64 0, .int .i64 0, .string ⟨#[]⟩] 52)).alloc (.cells #[.string (bs x.n), .int .i64 x.t, .int .i64 x.c, .int .i64 x.l, .string (bs x.d)] 52) = X := ⟨_, rfl⟩
  have hMq : Mq w W2 N x := by
    obtain ⟨Wa, hWa⟩ : ∃ X, w.alloc (.cells #[.string ⟨#[]⟩, .int .i64 0, .int .i64 0, .int .i64 0, .string ⟨#[]⟩] 52) = X := ⟨_, rfl⟩
    rw [hWa] at hW2
    have hsa : Wa.heap.size = N + 1 := by rw [← hWa, World.size_alloc, hN]
    have b1 : Below w.heap.size w Wa := by rw [← hWa]; exact (Below.refl _ _).alloc (Nat.le_refl _) _
    have b2 : Below Wa.heap.size Wa W2 := by rw [← hW2]; exact (Below.refl _ _).alloc (Nat.le_refl _) _
    have z1 : Cel Wa N [.string ⟨#[]⟩, .int .i64 0, .int .i64 0, .int .i64 0, .string ⟨#[]⟩] := by
      have := cel_new w (.string ⟨#[]⟩) (.int .i64 0) (.int .i64 0) (.int .i64 0) (.string ⟨#[]⟩) 52
      rwa [hN, hWa] at this
    have x1 : Cel W2 (N + 1) [.string (bs x.n), .int .i64 x.t, .int .i64 x.c, .int .i64 x.l, .string (bs x.d)] := by
      have := cel_new Wa (.string (bs x.n)) (.int .i64 x.t) (.int .i64 x.c) (.int .i64 x.l) (.string (bs x.d)) 52
      rwa [hsa, hW2] at this
    exact ⟨by rw [← hN]; exact b1.trans (b2.mono (by omega)), z1.below (by simp) b2, x1, by rw [← hW2, World.size_alloc, hsa]; omega⟩
  rw [hW2]
  have HQ := Lib.hid hMq
  have HT1 := Lib.hid (show minR x (l.take 1) = x by rw [minR_take h0, hx]; unfold minR; simp)
  obtain ⟨n, hn⟩ : ∃ n, l.length = n := ⟨_, rfl⟩
  have HNN := Lib.hid hn
  have HLX := Lib.hid (And.intro hbN hl)
  have HNW := Lib.hid hN
  rw [hn] at h0 hl t1 t2 ⊢
  clear hMq hW2 hN hn hx hbN hb t1 t2
  go_loopg [6] (n - 1) (fun g v6 wr => ∃ (k : Nat) (y : Rc), k + g = n ∧ 1 ≤ k ∧ v6 = .int .i64 k ∧ Hid (minR x (l.take k) = y) ∧ Hid (Mq w wr N y))
  case atStart => exact ⟨1, x, by omega, Nat.le_refl _, rfl, HT1, HQ⟩
  case round =>
    clear HT1 HQ
    obtain ⟨k, y, hg, hk1, rfl, HY, HQ⟩ := hrel
    by_cases hlt : k < n
    · have hlt2 : k < l.length := by rw [HNN.out]; exact hlt
      obtain ⟨b', off', c', he, hb', hc⟩ := HX.out.at_ k hlt2
      rw [HNN.out] at he
      injection he with he hn3 hc3
      injection he with he
      injection he with he1 he2
      subst he1 he2
      clear hn3 hc3
      have HMT := Lib.hid (minR_take (x := x) hlt2)
      obtain ⟨z, hz⟩ : ∃ z, l[k] = z := ⟨_, rfl⟩
      rw [hz, HY.out] at HMT
      rw [hz] at hc
      have HCW := Lib.hid (fun (wx : World) (hb : Below N w wx) => hc.keep fun o => hb.cell (p := ⟨b, o, none⟩) HLX.out.1)
      have HSS := Lib.hid (fun (wx : World) (hb : Below wr.heap.size wr wx) => (show (wx.cell? ⟨b, off + k * 5, none⟩ = some (.string (bs z.n)) ∧ wx.cell? ⟨b, off + k * 5 + 1, none⟩ = some (.int .i64 z.t) ∧ wx.cell? ⟨b, off + k * 5 + 2, none⟩ = some (.int .i64 z.c) ∧ wx.cell? ⟨b, off + k * 5 + 3, none⟩ = some (.int .i64 z.l) ∧ wx.cell? ⟨b, off + k * 5 + 4, none⟩ = some (.string (bs z.d))) ∧ (wx.cell? ⟨N + 1, 0, none⟩ = some (.string (bs y.n)) ∧ wx.cell? ⟨N + 1, 1, none⟩ = some (.int .i64 y.t) ∧ wx.cell? ⟨N + 1, 2, none⟩ = some (.int .i64 y.c) ∧ wx.cell? ⟨N + 1, 3, none⟩ = some (.int .i64 y.l) ∧ wx.cell? ⟨N + 1, 4, none⟩ = some (.string (bs y.d))) from ⟨HCW.out wx (HQ.out.bel.trans (hb.mono (by have := HQ.out.size; omega))), (HQ.out.x.below (by simp) hb).five⟩))
      have hkl : (k : Int) < (n : Int) := by omega
      obtain ⟨r, hr⟩ : ∃ r, cmpV z.l y.l = r := ⟨_, rfl⟩
      have hrn := cmpV_neg z.l y.l
      rw [hr] at hrn
      clear hc hb' hz
      go_wp2_with fail
      refine wp_region_held_drew (S := (fun wx => (wx.cell? ⟨b, off + k * 5, none⟩ = some (.string (bs z.n)) ∧ wx.cell? ⟨b, off + k * 5 + 1, none⟩ = some (.int .i64 z.t) ∧ wx.cell? ⟨b, off + k * 5 + 2, none⟩ = some (.int .i64 z.c) ∧ wx.cell? ⟨b, off + k * 5 + 3, none⟩ = some (.int .i64 z.l) ∧ wx.cell? ⟨b, off + k * 5 + 4, none⟩ = some (.string (bs z.d))) ∧ (wx.cell? ⟨N + 1, 0, none⟩ = some (.string (bs y.n)) ∧ wx.cell? ⟨N + 1, 1, none⟩ = some (.int .i64 y.t) ∧ wx.cell? ⟨N + 1, 2, none⟩ = some (.int .i64 y.c) ∧ wx.cell? ⟨N + 1, 3, none⟩ = some (.int .i64 y.l) ∧ wx.cell? ⟨N + 1, 4, none⟩ = some (.string (bs y.d))))) (by kernel_rfl) (HSS.out _ (Below.refl _ _).drew) (fun hHeld => ?_)
      refine wpAnyH_take (i := 0) (oi := { dst := some 20, op := Op.move (Operand.tmp 1), type := 74, pos := "sort.go:85", after := #[], guard := none }) (v := ?_) rfl (by kernel_rfl) (by kernel_rfl) (by kernel_rfl) (fun _ _ _ h => h) (Or.inl ⟨by rfl, ?_⟩) (by assumption) ?_
      rotate_left 1
      · intro w hSw; clear hSw; go_simp; try (with_reducible rfl)
      try simp only [Act.put, List.setIfInBounds_toArray, List.set_cons_zero, List.set_cons_succ]
      refine wpAnyH_take (i := 1) (oi := { dst := some 21, op := Op.move (Operand.tmp 0), type := 23, pos := "sort.go:85", after := #[], guard := none }) (v := ?_) rfl (by kernel_rfl) (by kernel_rfl) (by kernel_rfl) (fun _ _ _ h => h) (Or.inl ⟨by rfl, ?_⟩) (by assumption) ?_
      rotate_left 1
      · intro w hSw; clear hSw; go_simp; try (with_reducible rfl)
      try simp only [Act.put, List.setIfInBounds_toArray, List.set_cons_zero, List.set_cons_succ]
      refine wpAnyH_take (i := 2) (oi := { dst := some 22, op := Op.move (Operand.tmp 6), type := 3, pos := "sort.go:85", after := #[], guard := none }) (v := ?_) rfl (by kernel_rfl) (by kernel_rfl) (by kernel_rfl) (fun _ _ _ h => h) (Or.inl ⟨by rfl, ?_⟩) (by assumption) ?_
      rotate_left 1
      · intro w hSw; clear hSw; go_simp; try (with_reducible rfl)
      try simp only [Act.put, List.setIfInBounds_toArray, List.set_cons_zero, List.set_cons_succ]
      refine wpAnyH_take (i := 3) (oi := { dst := some 23, op := Op.indexAddr 23 (Operand.tmp 21) (Operand.tmp 22), type := 0, pos := "sort.go:85", after := #[{ on := 1, ground := Ground.data }, { on := 2, ground := Ground.data }], guard := none }) (v := ?_) rfl (by kernel_rfl) (by kernel_rfl) (by kernel_rfl) (fun _ _ _ h => h) (Or.inl ⟨by rfl, ?_⟩) (by assumption) ?_
      rotate_left 1
      · intro w hSw; clear hSw; go_simp; try (with_reducible rfl)
      try simp only [Act.put, List.setIfInBounds_toArray, List.set_cons_zero, List.set_cons_succ]
      refine wpAnyH_take (i := 4) (oi := { dst := some 24, op := Op.load 52 (Operand.tmp 23), type := 52, pos := "sort.go:85", after := #[{ on := 3, ground := Ground.data }], guard := none }) (v := ?_) rfl (by kernel_rfl) (by kernel_rfl) (by kernel_rfl) (fun _ _ _ h => h) (Or.inl ⟨by rfl, ?_⟩) (by assumption) ?_
      rotate_left 1
      · intro w hSw; have hSw1 := hSw.1; clear hSw; have hSw := hSw1; clear hSw1; (try dsimp only at hSw); go_simp; try (with_reducible rfl)
      try simp only [Act.put, List.setIfInBounds_toArray, List.set_cons_zero, List.set_cons_succ]
      refine wpAnyH_take (i := 5) (oi := { dst := some 25, op := Op.load 52 (Operand.tmp 5), type := 52, pos := "sort.go:85", after := #[], guard := none }) (v := ?_) rfl (by kernel_rfl) (by kernel_rfl) (by kernel_rfl) (fun _ _ _ h => h) (Or.inl ⟨by rfl, ?_⟩) (by assumption) ?_
      rotate_left 1
      · intro w hSw; have hSw1 := hSw.2; clear hSw; have hSw := hSw1; clear hSw1; (try dsimp only at hSw); go_simp; try (with_reducible rfl)
      try simp only [Act.put, List.setIfInBounds_toArray, List.set_cons_zero, List.set_cons_succ]
      refine wpAnyH_ready (rs := [6]) (by kernel_rfl) (by simp) ?_
      refine AllReadyH.cons (o := { dst := some 26, op := Op.call { callee := Callee.value (Operand.tmp 20), args := #[Operand.tmp 24, Operand.tmp 25], argTypes := #[52, 52] }, type := 3, pos := "sort.go:85", after := #[{ on := 0, ground := Ground.data }, { on := 4, ground := Ground.data }, { on := 5, ground := Ground.data }], guard := none }) rfl (fun K hK => ?_) (AllReadyH.nil)
      go_simp
      refine (HC.out _ z y).mono ?_; rintro e0 w2 ⟨rfl, hb⟩
      rw [hr]
      have HB2 := Lib.hid ((show Below wr.heap.size wr wr.drew from (Below.refl _ _).drew).trans hb)
      clear hb
      refine hK.out _ _ (HSS.out _ HB2.out) (fun hHeld => ?_)
      clear hK K
      try simp only [Act.put, List.setIfInBounds_toArray, List.set_cons_zero, List.set_cons_succ]
      refine wpAnyH_take (i := 7) (oi := { dst := some 27, op := Op.binOp BinOp.lss 3 (Operand.tmp 26) (Operand.const (Value.int IntKind.i64 0)) 3, type := 4, pos := "sort.go:85", after := #[{ on := 6, ground := Ground.data }], guard := none }) (v := ?_) rfl (by kernel_rfl) (by kernel_rfl) (by kernel_rfl) (fun _ _ _ h => h) (Or.inl ⟨by rfl, ?_⟩) (by assumption) ?_
      rotate_left 1
      · intro w hSw; clear hSw; go_simp; try (with_reducible rfl)
      try simp only [Act.put, List.setIfInBounds_toArray, List.set_cons_zero, List.set_cons_succ]
      refine wpAnyH_done (by kernel_rfl) ?_ _
      clear hHeld
      have HQ2 := Lib.hid (HQ.out.later HB2.out)
      obtain ⟨c0, c1, c3, c4, c5⟩ := (HSS.out _ HB2.out).1
      have hfz := HQ2.out.x.fz
      obtain ⟨y0, y1, y2, y3, y4⟩ := HQ2.out.x.five
      have HS2 := Lib.hid HQ2.out.size
      by_cases hlz : z.l < y.l
      · have tr : decide (r < 0) = true := by simpa using hrn.mpr hlz
        have HPN := Lib.hid (HQ2.out.put z)
        have HYN := Lib.hid (show minR x (l.take (k + 1)) = z by rw [HMT.out, if_pos hlz])
        unfold put5 at HPN
        clear HQ HQ2 HSS HCW HMT HB2 hrn hr
        go_wp2_with fail
        go_roundg (n - (k + 1))
        case measure => omega
        case rel => exact ⟨k + 1, z, by omega, by omega, by go_num, HYN, HPN⟩
      · have tr : decide (r < 0) = false := by simp; have := mt hrn.mp hlz; omega
        have HYN := Lib.hid (show minR x (l.take (k + 1)) = y by rw [HMT.out, if_neg hlz])
        clear HQ HSS HCW HMT HB2 hrn hr y0 y1 y2 y3 y4 hfz
        go_wp2_with fail
        go_roundg (n - (k + 1))
        case measure => omega
        case rel => exact ⟨k + 1, y, by omega, by omega, by go_num, HYN, HQ2⟩
    · have hke : k = n := by omega
      subst hke
      have hY : minR x l = y := by rw [← HY.out, List.take_of_length_le (Nat.le_of_eq HNN.out)]
      have HYE := Lib.hid hY
      have t1 : ¬ ((k : Int) < (k : Int)) := by omega
      obtain ⟨y0, y1, y2, y3, y4⟩ := HQ.out.x.five
      obtain ⟨z0, z1, z2, z3, z4⟩ := HQ.out.z.five
      have hfz := HQ.out.z.fz
      have hfin := cel_put5 HQ.out.z (.string (bs y.n)) (.int .i64 y.t) (.int .i64 y.c) (.int .i64 y.l) (.string (bs y.d))
      have hst := aside_put5 wr N (.string (bs y.n)) (.int .i64 y.t) (.int .i64 y.c) (.int .i64 y.l) (.string (bs y.d))
      have HBE := Lib.hid (below_aside HQ.out.bel hst (fun k hk => ⟨by have := HQ.out.size; omega, by omega⟩))
      have HFE := Lib.hid hfin.five
      clear hY hfin hst
      go_wp2_with fail
      obtain ⟨m0, m1, m2, m3, m4⟩ := HFE.out
      have hbF := HBE.out
      unfold put5 at hbF m0 m1 m2 m3 m4
      refine bodyPost_ret (v := .agg #[.string (bs y.n), .int .i64 y.t, .int .i64 y.c, .int .i64 y.l, .string (bs y.d)]) (by simp [results, Tryz.results40, go_sem, m0, m1, m2, m3, m4]) rfl ⟨by rw [HYE.out], ?_⟩
      rw [HNW.out]; exact hbF

def leastA (m : Ms) : Int × Bool := match noL m.an ++ noL m.ns ++ noL m.ar with
  | [] => (0, false)
  | x :: t => ((minR x (x :: t)).l, true)

set_option maxHeartbeats 4000000 in
theorem leastT_any {w : World} {hi : Nat} {u : Value} {m : Ms} (h : Mg w hi u m) (h1 : hi ≤ w.heap.size) (hm : Mild m) :
    Calls Tryz.prog 12 #[u] w (fun e w' => e = .returned (.tuple #[.int .i64 (leastA m).1, .bool (leastA m).2]) ∧ Below w.heap.size w w') := by
  have HST := Lib.hid (fun (wx : World) (hb : Below w.heap.size w wx) => strip_any (h.below hb h1) (Nat.le_trans h1 hb.size) hm)
  obtain ⟨q, a, n, r, rfl, hq, ha, hn, hr⟩ := h
  obtain ⟨qa, qc, rfl⟩ := Lst.shape hq
  obtain ⟨aa, ac, rfl⟩ := Lst.shape ha
  obtain ⟨na, nc, rfl⟩ := Lst.shape hn
  obtain ⟨ra, rc, rfl⟩ := Lst.shape hr
  obtain ⟨N, hN⟩ : ∃ N, w.heap.size = N := ⟨_, rfl⟩
  obtain ⟨W1, hW1⟩ : ∃ X, w.alloc (.cells #[.int .i64 m.id, .int .i64 m.fl, .slice qa m.q.length qc, .slice aa m.an.length ac, .slice na m.ns.length nc, .slice ra m.ar.length rc] 25) = X := ⟨_, rfl⟩
  have hb1 : Below w.heap.size w W1 := by rw [← hW1]; exact (Below.refl _ _).alloc (Nat.le_refl _) _
  have hs1 : W1.heap.size = N + 1 := by rw [← hW1, World.size_alloc, hN]
  have hx : Cel W1 N [.int .i64 m.id, .int .i64 m.fl, .slice qa m.q.length qc, .slice aa m.an.length ac, .slice na m.ns.length nc, .slice ra m.ar.length rc] := by
    have := cel_new6 w (.int .i64 m.id) (.int .i64 m.fl) (.slice qa m.q.length qc) (.slice aa m.an.length ac) (.slice na m.ns.length nc) (.slice ra m.ar.length rc) 25
    rwa [hN, hW1] at this
  obtain ⟨x0, x1, x2, x3, x4, x5⟩ := hx.six
  have HS1 := Lib.hid (HST.out _ hb1)
  have HX1 := Lib.hid (And.intro hx (And.intro hb1 (And.intro hs1 hN)))
  have HMM := Lib.hid (show ((noL m.an) ++ (noL m.ns) ++ (noL m.ar)).length ≤ 900000 by
    have h1 := noL_len m.an
    have h2 := noL_len m.ns
    have h3 := noL_len m.ar
    have := hm.1
    simp only [List.length_append]
    omega)
  clear hq ha hn hr hb1 HST hs1 hx hm h1
  go_enter Tryz.func12, Tryz.ntmps12
  go_wp2_with fail
  clear hW1 hN
  refine HS1.out.mono ?_; rintro e w2 ⟨v, rfl, ho, hb⟩
  obtain ⟨o1, o2, o3, o4, hve, j1, j2, j3, j4⟩ := ho
  obtain ⟨b1, e1, rfl⟩ := row_shape j1
  obtain ⟨b2, e2, rfl⟩ := row_shape j2
  obtain ⟨b3, e3, rfl⟩ := row_shape j3
  obtain ⟨b4, e4, rfl⟩ := row_shape j4
  subst hve
  have hx2 := HX1.out.1.below (by simp) hb
  obtain ⟨LA, hLA⟩ : ∃ l, noL m.an = l := ⟨_, rfl⟩
  obtain ⟨LN, hLN⟩ : ∃ l, noL m.ns = l := ⟨_, rfl⟩
  obtain ⟨LR, hLR⟩ : ∃ l, noL m.ar = l := ⟨_, rfl⟩
  have k2 : OwnRc w2 W1.heap.size (.slice b2 LA.length e2) LA := by rw [← hLA]; exact j2
  have k3 : OwnRc w2 W1.heap.size (.slice b3 LN.length e3) LN := by rw [← hLN]; exact j3
  have k4 : OwnRc w2 W1.heap.size (.slice b4 LR.length e4) LR := by rw [← hLR]; exact j4
  rw [hLA, hLN, hLR] at HMM
  have HLE := Lib.hid (show leastA m = (match LA ++ LN ++ LR with | [] => (0, false) | x :: t => ((minR x (x :: t)).l, true)) by unfold leastA; rw [hLA, hLN, hLR])
  rw [show (stM m).id = m.id from rfl, show (stM m).fl = m.fl from rfl, show (stM m).an = noL m.an from rfl, show (stM m).ns = noL m.ns from rfl, show (stM m).ar = noL m.ar from rfl, hLA, hLN, hLR]
  obtain ⟨lb, hlb⟩ : ∃ l, (stM m).q.length = l := ⟨_, rfl⟩
  rw [hlb]
  obtain ⟨la, hla⟩ : ∃ l, LA.length = l := ⟨_, rfl⟩
  obtain ⟨ln, hln⟩ : ∃ l, LN.length = l := ⟨_, rfl⟩
  obtain ⟨lr, hlr⟩ : ∃ l, LR.length = l := ⟨_, rfl⟩
  rw [hla] at k2 ⊢
  rw [hln] at k3 ⊢
  rw [hlr] at k4 ⊢
  have hst := aside_put6 w2 N (.int .i64 m.id) (.int .i64 m.fl) (.slice b1 lb e1) (.slice b2 la e2) (.slice b3 ln e3) (.slice b4 lr e4)
  have hk6 := cel_put6 hx2 (.int .i64 m.id) (.int .i64 m.fl) (.slice b1 lb e1) (.slice b2 la e2) (.slice b3 ln e3) (.slice b4 lr e4)
  have hNB : ∀ k, (W1.heap.size ≤ k ∧ k < w2.heap.size) → k ≠ N := fun k hk => by have := HX1.out.2.2.1; omega
  have k2 := row_aside k2 hst (fun k hk => hNB k (World.ownsRow.lt k2 k hk))
  have k3 := row_aside k3 hst (fun k hk => hNB k (World.ownsRow.lt k3 k hk))
  have k4 := row_aside k4 hst (fun k hk => hNB k (World.ownsRow.lt k4 k hk))
  have hb3 : Below N w (put6 w2 N (.int .i64 m.id) (.int .i64 m.fl) (.slice b1 lb e1) (.slice b2 la e2) (.slice b3 ln e3) (.slice b4 lr e4)) := by
    have h2 := HX1.out.2.1.trans (hb.mono HX1.out.2.1.size)
    rw [HX1.out.2.2.2] at h2
    exact below_aside h2 hst (fun k hk => ⟨by have := h2.size; have := HX1.out.2.2.2; omega, by omega⟩)
  obtain ⟨W3, hW3⟩ : ∃ X, put6 w2 N (.int .i64 m.id) (.int .i64 m.fl) (.slice b1 lb e1) (.slice b2 la e2) (.slice b3 ln e3) (.slice b4 lr e4) = X := ⟨_, rfl⟩
  rw [hW3] at k2 k3 k4 hb3 hk6
  obtain ⟨W4, hW4⟩ : ∃ X, W3.alloc (.cells #[.slice b2 la e2, .slice b3 ln e3, .slice b4 lr e4] 23) = X := ⟨_, rfl⟩
  have hb4 : Below W3.heap.size W3 W4 := by rw [← hW4]; exact (Below.refl _ _).alloc (Nat.le_refl _) _
  have hs4 : W4.heap.size = W3.heap.size + 1 := by rw [← hW4, World.size_alloc]
  have c3 : Cel W4 W3.heap.size [.slice b2 la e2, .slice b3 ln e3, .slice b4 lr e4] := by rw [← hW4]; exact cel_new3 W3 _ _ _ _
  obtain ⟨G, hG⟩ : ∃ G, W3.heap.size = G := ⟨_, rfl⟩
  have hlen : LA.length + LN.length + LR.length ≤ 900000 := by have := HMM.out; simp only [List.length_append] at this; omega
  have HCC := Lib.hid (concatR_any (w := W4) (g := G) (hi := W3.heap.size) (n := 3) (c0 := 3) (ls := [LA, LN, LR]) rfl (by omega) (by omega) (by omega) (by simp; omega) (fun j hj => by
    match j, hj with
    | 0, _ => exact ⟨b2, e2, by rw [← hG]; have := c3.c 0 (by simp); simpa [hla] using this, Lst.below (Lst.own (show OwnRc W3 W1.heap.size (.slice b2 LA.length e2) LA by rw [hla]; exact k2) (by show LA.length ≤ _; omega)) hb4 (Nat.le_refl _)⟩
    | 1, _ => exact ⟨b3, e3, by rw [← hG]; have := c3.c 1 (by simp); simpa [hln] using this, Lst.below (Lst.own (show OwnRc W3 W1.heap.size (.slice b3 LN.length e3) LN by rw [hln]; exact k3) (by show LN.length ≤ _; omega)) hb4 (Nat.le_refl _)⟩
    | 2, _ => exact ⟨b4, e4, by rw [← hG]; have := c3.c 2 (by simp); simpa [hlr] using this, Lst.below (Lst.own (show OwnRc W3 W1.heap.size (.slice b4 LR.length e4) LR by rw [hlr]; exact k4) (by show LR.length ≤ _; omega)) hb4 (Nat.le_refl _)⟩))
  have HB4 := Lib.hid (And.intro (hb3.trans (hb4.mono (by have := hb3.size; have := HX1.out.2.2.2; omega))) HX1.out.2.2.2)
  have hfl : ([LA, LN, LR] : List (List Rc)).flatten = LA ++ LN ++ LR := by simp
  rw [hfl] at HCC
  obtain ⟨y0, y1, y2, y3, y4, y5⟩ := hx2.six
  have hfz := hx2.fz
  obtain ⟨z0, z1, z2, z3, z4, z5⟩ := hk6.six
  clear hst hk6 hNB hb3 hb4 hs4 c3 hlen hfl x0 x1 x2 x3 x4 x5 hx2 j1 j2 j3 j4 k2 k3 k4 hLA hLN hLR hla hln hlr hb HS1 hlb
  unfold put6 at hW3
  obtain ⟨L, hL⟩ : ∃ L, LA ++ LN ++ LR = L := ⟨_, rfl⟩
  rw [hL] at HCC HLE HMM
  clear hL
  go_wp2_with fail
  refine HCC.out.mono ?_; rintro e w5 ⟨v5, rfl, ho5, hb5⟩
  obtain ⟨a5, c5, rfl⟩ := row_shape ho5
  have HB5 := Lib.hid (show Below w.heap.size w w5 by rw [HB4.out.2]; exact HB4.out.1.trans (hb5.mono (by have := HB4.out.1.size; have := HB4.out.2; omega)))
  clear y0 y1 y2 y3 y4 y5 z0 z1 z2 z3 z4 z5 hfz hW3 hW4 hb5 hG HCC HX1
  rcases L with _ | ⟨x, t⟩
  · simp only [List.length_nil]
    clear ho5
    go_wp2_with fail
    refine bodyPost_ret (v := .tuple #[.int .i64 0, .bool false]) (by simp [results, Tryz.results12, go_sem]) rfl ⟨by rw [HLE.out], HB5.out⟩
  · have HMF := Lib.hid (minF_any (x := x) (Lst.own ho5 (by have := HMM.out; omega)) (Nat.le_refl _) rfl HMM.out)
    unfold lessL at HMF
    have h0 : 0 < (x :: t).length := by simp
    obtain ⟨n, hn⟩ : ∃ n, (x :: t).length = n := ⟨_, rfl⟩
    rw [hn] at HMF h0 ⊢
    obtain ⟨y, hy⟩ : ∃ y, minR x (x :: t) = y := ⟨_, rfl⟩
    have HLE2 := Lib.hid (show leastA m = (y.l, true) by rw [HLE.out, ← hy])
    rw [hy] at HMF
    have t0 : ((n : Int) == 0) = false := by simp; omega
    clear ho5 hn hy HLE HMM
    go_wp2_with fail
    refine HMF.out.mono ?_; rintro e w6 ⟨rfl, hb6⟩
    have HB6 := Lib.hid ((HB5.out.trans (hb6.mono HB5.out.size)))
    clear hb6
    go_wp2_with fail
    refine bodyPost_ret (v := .tuple #[.int .i64 y.l, .bool true]) (by simp [results, Tryz.results12, go_sem]) rfl ⟨by rw [HLE2.out], HB6.out.alloc HB6.out.size _⟩
end Go.Proofs.YteegekpanadmkaaGreat
